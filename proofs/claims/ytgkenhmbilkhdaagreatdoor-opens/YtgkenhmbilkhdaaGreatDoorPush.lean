import Derived.Test.YtgkenhmbilkhdaaGreatDoorMd5Add
import Derived.ArgAppend
import Derived.Laws.IdiomStrings
namespace Go.Proofs.YtgkenhmbilkhdaaGreatDoor
open Go.RowKit

/-- The bytes l are the first of a row of the call's own, of so much room. -/
structure OwnB (w : World) (base g cap : Nat) (l : List Nat) : Prop where
  ge : base ≤ g
  lt : g < w.heap.size
  fits : l.length ≤ cap
  row : Bytes8 w g 0 l
  room : ∀ j, l.length ≤ j → j < cap → (w.cell? ⟨g, j, none⟩).isSome = true ∧ w.frozen? ⟨g, j, none⟩ = false

theorem OwnB.below {w w' : World} {base g cap B : Nat} {l : List Nat} (h : OwnB w base g cap l) (hb : Below B w w') (hg : g < B) : OwnB w' base g cap l :=
  ⟨h.ge, Nat.lt_of_lt_of_le h.lt hb.size, h.fits, h.row.below hb hg, fun j h1 h2 => by rw [hb.cell (p := ⟨g, j, none⟩) hg, hb.frozen (p := ⟨g, j, none⟩) hg]; exact h.room j h1 h2⟩
theorem OwnB.drew {w : World} {base g cap : Nat} {l : List Nat} (h : OwnB w base g cap l) : OwnB w.drew base g cap l := ⟨h.ge, h.lt, h.fits, h.row, h.room⟩

def bytesOf (s : ByteArray) : List Nat := s.data.toList.map UInt8.toNat
theorem bytesOf_len (s : ByteArray) : (bytesOf s).length = s.size := by unfold bytesOf; simp
theorem bytesOf_lt (s : ByteArray) : ∀ x ∈ bytesOf s, x < 256 := by
  intro x hx
  unfold bytesOf at hx
  obtain ⟨b, _, rfl⟩ := List.mem_map.1 hx
  exact b.toNat_lt
theorem bytesOf_get (s : ByteArray) (i : Nat) (h : i < s.size) : (s.data.map (fun b => Value.int .u8 (b.toNat : Int)))[i]? = some (.int .u8 (((bytesOf s).getD i 0 : Nat) : Int)) := by
  have hi : i < s.data.size := h
  unfold bytesOf
  rw [List.getD_eq_getElem?_getD, List.getElem?_map, Array.getElem?_map, Array.getElem?_toList, Array.getElem?_eq_getElem hi]
  rfl

/-- One byte more. -/
def byteV' (x : Nat) : Value := .int .u8 (x : Int)
theorem wpList_push {P : Program} {ops : Array Oper} {rest : List Oper} {o : Oper} {a : Act} {w : World} {Q : Exit → Act → World → Prop} (hgd : o.guard = none) (s x : Operand) (t e u : TypeId)
    (ho : o.op = Op.call { callee := Callee.builtin Builtin.append, args := #[s, x], argTypes := #[t, t] }) (ht : P.underlying t = some (.slice e)) (hinfo : (P.info? e).map (fun i => (i.zero, i.size, i.bytes)) = some (some (.int .u8 0), 1, 1))
    (base g cap : Nat) (l : List Nat) (n : Nat) (hn : n = l.length) (v : Nat) (V : Int) (hV : V = (v : Int)) (hown : OwnB w base g cap l) (hlen : l.length + 1 ≤ 140737488355328)
    (hs : a.eval s = .slice (some ⟨g, 0, none⟩) n cap) (hx : a.eval x = .slice (some ⟨w.heap.size, 0, none⟩) 1 1)
    (h : ∀ g' cap' W, OwnB W base g' cap' (l ++ [v]) → Below base w W → wpList P ops Q rest (a.put o.dst (.slice (some ⟨g', 0, none⟩) (n + 1 : Nat) cap')) W) :
    wpList P ops Q (o :: rest) a (w.alloc (.cells #[.int .u8 V] u)) := by
  subst hV
  subst hn
  obtain ⟨i, hi, hz0, hz1, hz2⟩ := info_parts hinfo
  have hb1 : Below w.heap.size w (w.alloc (.cells #[.int .u8 (v : Int)] u)) := (Below.refl _ _).alloc (Nat.le_refl _) _
  have hbase : base ≤ w.heap.size := Nat.le_trans hown.ge (Nat.le_of_lt hown.lt)
  have h1 := hown.below hb1 hown.lt
  have hcellnew : (w.alloc (.cells #[.int .u8 (v : Int)] u)).cell? ⟨w.heap.size, 0, none⟩ = some (.int .u8 (v : Int)) := by simp
  refine wpList_append_arg _ hgd s x t ho e i (.int .u8 0) 1 1 ht hi hz0 hz1 hz2 rfl (by decide) g 0 l.length cap (l.map byteV') hs (by simp) ?_ ⟨w.heap.size, 0, none⟩ 1 1 [.int .u8 (v : Int)] hx (by simp) ?_ ?_ ?_ ?_ ?_ ?_ ?_
  · intro j z hj
    rw [List.getElem?_map] at hj
    obtain ⟨y, hy, rfl⟩ := Option.map_eq_some_iff.1 hj
    have hjl := (List.getElem?_eq_some_iff.1 hy).1
    rw [h1.row j hjl, List.getD_eq_getElem?_getD, hy]
    rfl
  · intro j z hj
    match j, hj with
    | 0, hj => simp at hj; subst hj; simp [Addr.add]
  · intro z hz
    simp at hz
    subst hz
    rfl
  · intro hr j hj
    obtain rfl : j = 0 := by simpa using hj
    simp only [Nat.zero_add, Nat.add_zero, Nat.mul_one]
    exact h1.room l.length (Nat.le_refl _) (by omega)
  · unfold maxLen; omega
  · omega
  · intro hr
    have hsome := (h1.room l.length (Nat.le_refl _) (by omega)).1
    refine h g cap _ ?_ ?_
    · refine ⟨hown.ge, ?_, by simp; omega, ?_, ?_⟩
      · show g < (World.setCell _ _ _).heap.size
        rw [World.size_setCell]
        exact h1.lt
      · intro k hk
        rw [List.length_append, List.length_singleton] at hk
        rcases Nat.lt_or_ge k l.length with hkl | hkl
        · rw [World.cell?_setCells_out g _ _ _ _ (fun _ _ => Or.inl (by simp; omega)), h1.row k hkl, List.getD_eq_getElem?_getD, List.getD_eq_getElem?_getD, List.getElem?_append_left hkl]
        · obtain rfl : k = l.length := by omega
          have hin := World.cell?_setCells_in g [Value.int .u8 (v : Int)] (0 + l.length * 1) (w.alloc (.cells #[.int .u8 (v : Int)] u)) (by
            intro j hj
            obtain rfl : j = 0 := by simpa using hj
            simpa using hsome) 0 (by simp)
          simp only [Nat.zero_add, Nat.mul_one, Nat.add_zero] at hin ⊢
          rw [hin, List.getD_eq_getElem?_getD, List.getElem?_append_right (Nat.le_refl _)]
          simp
      · intro j hj1 hj2
        rw [List.length_append, List.length_singleton] at hj1
        rw [World.frozen?_setCells, World.cell?_setCells_out g _ _ _ _ (fun _ _ => Or.inr (by simp; omega))]
        exact h1.room j (by omega) hj2
    · exact below_setCells hown.ge _ _ _ (hb1.mono hbase)
  · intro hg v' w' hrow hgrow
    obtain ⟨hl2, hv | ⟨g', cap', cur, rfl, hge, hheap, hnc, hcm, hcs, htake⟩⟩ := hrow
    · omega
    · have hg' : g' < w'.heap.size := (Array.getElem?_eq_some_iff.1 hheap).1
      have hcell : ∀ j, w'.cell? ⟨g', j, none⟩ = cur[j]? := fun j => by simp only [World.cell?, hheap]; rfl
      refine h g' cap' w' ⟨Nat.le_trans hbase (Nat.le_trans hb1.size hge), hg', by simpa using hnc, ?_, ?_⟩ ?_
      · intro k hk
        have hk' : k < (l.length + 1) * 1 := by simpa using hk
        have e1 : cur.toList[k]? = (l.map byteV' ++ [Value.int .u8 (v : Int)])[k]? := by rw [← htake, List.getElem?_take, if_pos hk']
        rw [Nat.zero_add, hcell k, ← Array.getElem?_toList, e1]
        rw [show l.map byteV' ++ [Value.int .u8 (v : Int)] = (l ++ [v]).map byteV' by rw [List.map_append]; rfl, List.getElem?_map, List.getElem?_eq_getElem hk, List.getD_eq_getElem?_getD, List.getElem?_eq_getElem hk]
        rfl
      · intro j _ hj2
        rw [hcell j]
        exact ⟨by rw [Array.getElem?_eq_getElem (by omega)]; rfl, by simp [World.frozen?, hheap]⟩
      · exact (hb1.mono hbase).grown hgrow (Nat.le_trans hbase hb1.size) (fun k hk => by cases hk)

/-- '[]byte(s)'. -/
theorem wpList_bytes {P : Program} {ops : Array Oper} {rest : List Oper} {o : Oper} {a : Act} {w : World} {Q : Exit → Act → World → Prop} (hgd : o.guard = none) (x : Operand) (src dst e : TypeId)
    (ho : o.op = Op.convert src dst x) (hs : P.underlying src = some .string) (hd : P.underlying dst = some (.slice e)) (he : P.underlying e = some (.int .u8))
    (s : ByteArray) (hx : a.eval x = .string s) (base : Nat) (hbase : base ≤ w.heap.size)
    (h : ∀ cap W, OwnB W base w.heap.size cap (bytesOf s) → Below w.heap.size w W → wpList P ops Q rest (a.put o.dst (.slice (some ⟨w.heap.size, 0, none⟩) s.size cap)) W) :
    wpList P ops Q (o :: rest) a w := by
  refine wpList_plain hgd fun K hK' => ?_
  have hrun := run_bytes_of_string (P := P) w src dst e s hs hd he
  unfold Oper.wp
  simp [execOp, ho, hx, hrun, Result.andThen]
  refine hK' _ _ (h _ _ ?_ ?_)
  · have hge := grownCap_ge w s.size 0 e
    generalize grownCap w s.size 0 e = cap at hge
    have hsz : (bytesRow s cap).size = cap := by
      unfold bytesRow
      rw [Array.size_append, Array.size_map, Array.size_replicate]
      have : s.data.size = s.size := rfl
      omega
    have hheap : (w.drew.alloc (.cells (bytesRow s cap) e ((bytesRow s cap).size, (bytesRow s cap).size + 1))).heap[w.heap.size]? = some (.cells (bytesRow s cap) e ((bytesRow s cap).size, (bytesRow s cap).size + 1)) := by
      show (w.heap.push _)[w.heap.size]? = _
      simp
    have hcell : ∀ j, (w.drew.alloc (.cells (bytesRow s cap) e ((bytesRow s cap).size, (bytesRow s cap).size + 1))).cell? ⟨w.heap.size, j, none⟩ = (bytesRow s cap)[j]? := fun j => by simp only [World.cell?, hheap]; rfl
    refine ⟨hbase, (Array.getElem?_eq_some_iff.1 hheap).1, by rw [bytesOf_len]; exact hge, ?_, ?_⟩
    · intro i hi
      rw [bytesOf_len] at hi
      rw [Nat.zero_add, hcell i]
      unfold bytesRow
      rw [Array.getElem?_append_left (by rw [Array.size_map]; exact hi), bytesOf_get s i hi]
    · intro j _ hj2
      rw [hcell j]
      refine ⟨by rw [Array.getElem?_eq_getElem (by omega)]; rfl, ?_⟩
      simp only [World.frozen?, hheap]
      simp
      omega
  · exact (Below.refl _ _).drew.alloc (Nat.le_refl _) _
end Go.Proofs.YtgkenhmbilkhdaaGreatDoor
