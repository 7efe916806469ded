import Derived.Test.YtgkenhmbilkhdaaGreatDoorSrc
import Derived.Test.YtgkenhmbilkhdaaGreatDoorMd5Add
import Derived.Lib.AppendStr
import Derived.Deep.RegionLaw
import Derived.Laws.IdiomCopy
namespace Go.Proofs.YtgkenhmbilkhdaaGreatDoor
open Go.RowKit

/-- The row of the bytes that have come: nil, or a row of its own from place 0 on. -/
def RowAt (w : World) (B : Nat) (hv : Value) (xs : List Nat) : Prop :=
  (hv = .slice none 0 0 ∧ xs = []) ∨
  ∃ g cap cur, hv = .slice (some ⟨g, 0, none⟩) xs.length cap ∧ B ≤ g ∧ Blk w g cur 5 ∧ xs.length ≤ cap ∧ cap ≤ maxLen ∧ cur.size = cap ∧ cur.toList.take xs.length = xs.map byteV
/-- The row's block, if there is one. -/
def rowX (hv : Value) : List Nat := match hv.ownBlock with | some g => [g] | none => []
theorem rowX_some (g n c : Nat) : rowX (.slice (some ⟨g, 0, none⟩) n c) = [g] := rfl
theorem rowX_none (n c : Nat) : rowX (.slice none n c) = [] := rfl
theorem RowAt.own {w : World} {B : Nat} {hv : Value} {xs : List Nat} (h : RowAt w B hv xs) : w.ownsRow B 5 1 hv xs.length (xs.map byteV) := by
  refine ⟨by simp, ?_⟩
  rcases h with ⟨rfl, rfl⟩ | ⟨g, cap, cur, rfl, h1, h2, h3, h4, h5, h6⟩
  · exact Or.inl ⟨rfl, rfl⟩
  · exact Or.inr ⟨g, cap, cur, rfl, h1, h2, h3, h4, by simpa using h5, by simpa using h6⟩
theorem RowAt.of_own {w : World} {B : Nat} {hv : Value} {xs : List Nat} (h : w.ownsRow B 5 1 hv xs.length (xs.map byteV)) : RowAt w B hv xs := by
  rcases h.2 with ⟨rfl, h0⟩ | ⟨g, cap, cur, rfl, h1, h2, h3, h4, h5, h6⟩
  · exact Or.inl ⟨rfl, List.eq_nil_of_length_eq_zero h0⟩
  · exact Or.inr ⟨g, cap, cur, rfl, h1, h2, h3, h4, by simpa using h5, by simpa using h6⟩
theorem RowAt.keep {w w' : World} {B : Nat} {hv : Value} {xs : List Nat} {X : List Nat} (h : RowAt w B hv xs) (hk : KeptX X w w') (hX : ∀ g ∈ rowX hv, g ∉ X) : RowAt w' B hv xs := by
  rcases h with h | ⟨g, cap, cur, rfl, h1, h2, h3⟩
  · exact Or.inl h
  · exact Or.inr ⟨g, cap, cur, rfl, h1, hk.blk h2 (hX g (by simp [rowX_some])), h3⟩
theorem RowAt.slice {w : World} {B : Nat} {hv : Value} {xs : List Nat} (h : RowAt w B hv xs) : ∃ ap cap, hv = .slice ap xs.length cap := by
  rcases h with ⟨rfl, rfl⟩ | ⟨g, cap, cur, rfl, _⟩
  · exact ⟨none, 0, rfl⟩
  · exact ⟨_, cap, rfl⟩
theorem RowAt.ne {w : World} {B : Nat} {hv : Value} {xs : List Nat} {b : Nat} {cs : Array Value} {t : TypeId} (h : RowAt w B hv xs) (hb : Blk w b cs t) (ht : t ≠ 5) : b ∉ rowX hv := by
  rcases h with ⟨rfl, _⟩ | ⟨g, cap, cur, rfl, h1, h2, h3⟩
  · simp [rowX_none]
  · rw [rowX_some]
    intro hm
    exact hb.ne h2 ht (by simpa using hm)
theorem RowAt.ge {w : World} {B : Nat} {hv : Value} {xs : List Nat} (h : RowAt w B hv xs) : ∀ g ∈ rowX hv, B ≤ g ∧ g < w.heap.size := by
  rcases h with ⟨rfl, _⟩ | ⟨g, cap, cur, rfl, h1, h2, h3⟩
  · simp [rowX_none]
  · rw [rowX_some]
    intro g' hm
    obtain rfl : g' = g := by simpa using hm
    exact ⟨h1, h2.lt⟩
/-- A byte of the row. -/
theorem RowAt.cell {w : World} {B : Nat} {hv : Value} {xs : List Nat} (h : RowAt w B hv xs) {i : Nat} (hi : i < xs.length) : ∃ g cap, hv = .slice (some ⟨g, 0, none⟩) xs.length cap ∧ xs.length ≤ cap ∧ w.cell? ⟨g, i, none⟩ = some (.int .u8 (xs.getD i 0 : Nat)) := by
  rcases h with ⟨_, rfl⟩ | ⟨g, cap, cur, rfl, h1, h2, h3, h4, h5, h6⟩
  · simp at hi
  · refine ⟨g, cap, rfl, h3, ?_⟩
    rw [h2.cell]
    have h7 := congrArg (fun l => l[i]?) h6
    simp only [List.getElem?_take, hi, if_true, List.getElem?_map] at h7
    rw [Array.getElem?_toList] at h7
    rw [h7, List.getD_eq_getElem?_getD, List.getElem?_eq_getElem hi]
    rfl
theorem RowAt.bytes {w : World} {B g n cap : Nat} {xs : List Nat} (h : RowAt w B (.slice (some ⟨g, 0, none⟩) n cap) xs) : Bytes8 w g 0 xs := by
  intro i hi
  obtain ⟨g', cap', e, _, hc⟩ := h.cell hi
  injection e with e1 e2 e3
  injection e1 with e1
  injection e1 with e1
  subst e1
  rw [Nat.zero_add]
  exact hc

theorem run_text (w : World) (ty B : Nat) (hv : Value) (xs : List Nat) (hR : RowAt w B hv xs) (s : ByteArray) (hlen : xs.length + s.size ≤ 140737488355328) (hB : B ≤ w.heap.size) :
    ∃ v' w', (Builtin.append_ #[136, 9] ty #[hv, .string s]).run Tryz.prog w = .ok v' w' ∧ RowAt w' B v' (xs ++ bytesOf s) ∧ KeptX (rowX hv) w w' ∧ (∀ g ∈ rowX v', g ∈ rowX hv ∨ w.heap.size ≤ g) := by
  have hinfo : (Tryz.prog.info? 5).map (fun i => (i.zero, i.size, i.bytes)) = some (some (.int .u8 0), 1, 1) := by kernel_rfl
  obtain ⟨i, hi, hz0, hz1, hz2⟩ := info_parts hinfo
  obtain ⟨v', w', hr, hO, hg, h4⟩ := Lib.run_append_own_string (P := Tryz.prog) w B 136 9 ty 5 i Tryz.underlying136 Tryz.underlying9 hi hz0 hz1 hz2 hv xs.length (xs.map byteV) hR.own s (by unfold maxLen; omega) hlen hB
  have e : (xs ++ bytesOf s).length = xs.length + s.size := by rw [List.length_append, bytesOf_len]
  have e2 : (xs ++ bytesOf s).map byteV = xs.map byteV ++ Lib.strCells s := by
    rw [List.map_append]
    unfold bytesOf Lib.strCells
    rw [List.map_map]
    rfl
  refine ⟨v', w', hr, RowAt.of_own (by rw [e, e2]; exact hO), ⟨hg.os, hg.tape, hg.output, hg.size, fun k hk hx => hg.block k hk ?_⟩, ?_⟩
  · intro e
    apply hx
    unfold rowX
    rw [← e]
    simp
  · rcases hR with ⟨rfl, rfl⟩ | ⟨g, cap, cur, rfl, h1, h2, h3, h5, h6, h7⟩
    · by_cases h0 : s.size = 0
      · rw [h4.2 ⟨rfl, h0⟩]
        simp [rowX_none]
      · have hr2 := run_append_nil_string (P := Tryz.prog) w 136 9 ty 5 i (.int .u8 0) Tryz.underlying136 Tryz.underlying9 hi hz0 s (by omega) (by simp at hlen; omega) (by rw [hz2]; simp at hlen; omega)
        rw [hr] at hr2
        injection hr2 with e1 _
        rw [e1, rowX_some]
        intro g hm
        obtain rfl : g = w.heap.size := by simpa using hm
        exact Or.inr (Nat.le_refl _)
    · by_cases hroom : xs.length + s.size ≤ cap
      · have hr2 := Lib.run_append_room_string (P := Tryz.prog) w 136 9 ty 5 i Tryz.underlying136 Tryz.underlying9 hi hz1 g xs.length cap cur h2 s hroom (by omega)
        rw [hr] at hr2
        injection hr2 with e1 _
        rw [e1, rowX_some, rowX_some]
        intro g' hm
        exact Or.inl hm
      · have hR' : RowAt w B (.slice (some ⟨g, 0, none⟩) xs.length cap) xs := Or.inr ⟨g, cap, cur, rfl, h1, h2, h3, h5, h6, h7⟩
        have hr2 := Lib.run_append_grow_string (P := Tryz.prog) w 136 9 ty 5 i (.int .u8 0) Tryz.underlying136 Tryz.underlying9 hi hz0 ⟨g, 0, none⟩ xs.length cap (xs.map byteV) (by rw [hz1]; simp) (hR'.own.cells (g := g) rfl) s (by omega) (by omega) (by rw [hz2]; exact growslice_fits (by omega) (by omega))
        rw [hr] at hr2
        injection hr2 with e1 _
        rw [e1, rowX_some]
        intro g' hm
        obtain rfl : g' = w.heap.size := by simpa using hm
        exact Or.inr (Nat.le_refl _)

/-- The append of a text to the row. -/
theorem wpList_text {ops : Array Oper} {rest : List Oper} {o : Oper} {a : Act} {w : World} {Q : Exit → Act → World → Prop} (hgd : o.guard = none) (sl x : Operand)
    (ho : o.op = .call { callee := .builtin .append, args := #[sl, x], argTypes := #[136, 9] }) (B : Nat) (hv : Value) (xs : List Nat) (hs : a.eval sl = hv) (hR : RowAt w B hv xs) (s : ByteArray) (hx : a.eval x = .string s)
    (hlen : xs.length + s.size ≤ 140737488355328) (hB : B ≤ w.heap.size)
    (h : ∀ ap n cap w', Hid (RowAt w' B (.slice ap n cap) (xs ++ bytesOf s)) → KeptX (rowX hv) w w' → Hid (∀ g ∈ rowX (.slice ap n cap), g ∈ rowX hv ∨ w.heap.size ≤ g) → wpList Tryz.prog ops Q rest (a.put o.dst (.slice ap n cap)) w') : wpList Tryz.prog ops Q (o :: rest) a w := by
  refine wpList_plain hgd fun K hK => ?_
  obtain ⟨v', w', hr, h2, h3, h4⟩ := run_text w o.type B hv xs hR s hlen hB
  obtain ⟨ap, cap, rfl⟩ := h2.slice
  unfold Oper.wp execOp
  simp only [ho, resolve, invoke, builtin, Sem.run_bind, Sem.run_pure, Result.andThen_ok, List.map_toArray, List.map_cons, List.map_nil, hs, hx, hr]
  exact hK _ _ (h ap _ cap w' h2 h3 h4)

/-! ### a reader's block -/
def srcV (c : Nat) : Value := .iface 82 (.pointer (some ⟨c, 0, none⟩))
/-- What both readers have, and what else stands behind it. -/
def rdCells (c : Nat) (hv : Value) (gone : Nat) (stop : Value) (pos : Nat) (mk : Bool) (mark : Nat) (ex : List Value) : Array Value :=
  (srcV c :: hv :: .int .i64 gone :: stop :: .int .i64 pos :: .bool mk :: .int .i64 mark :: ex).toArray
theorem rd_have (c : Nat) (hv : Value) (gone : Nat) (stop : Value) (pos : Nat) (mk : Bool) (mark : Nat) (ex : List Value) (v : Value) : (rdCells c hv gone stop pos mk mark ex).setIfInBounds 1 v = rdCells c v gone stop pos mk mark ex := by simp [rdCells]
theorem rd_gone (c : Nat) (hv : Value) (gone : Nat) (stop : Value) (pos : Nat) (mk : Bool) (mark : Nat) (ex : List Value) (n : Nat) : (rdCells c hv gone stop pos mk mark ex).setIfInBounds 2 (.int .i64 n) = rdCells c hv n stop pos mk mark ex := by simp [rdCells]
theorem rd_stop (c : Nat) (hv : Value) (gone : Nat) (stop : Value) (pos : Nat) (mk : Bool) (mark : Nat) (ex : List Value) (v : Value) : (rdCells c hv gone stop pos mk mark ex).setIfInBounds 3 v = rdCells c hv gone v pos mk mark ex := by simp [rdCells]
theorem rd_pos (c : Nat) (hv : Value) (gone : Nat) (stop : Value) (pos : Nat) (mk : Bool) (mark : Nat) (ex : List Value) (n : Nat) : (rdCells c hv gone stop pos mk mark ex).setIfInBounds 4 (.int .i64 n) = rdCells c hv gone stop n mk mark ex := by simp [rdCells]
theorem rd_c0 {w : World} {p c : Nat} {hv : Value} {gone : Nat} {stop : Value} {pos : Nat} {mk : Bool} {mark : Nat} {ex : List Value} {t : TypeId} (h : Blk w p (rdCells c hv gone stop pos mk mark ex) t) :
    w.cell? ⟨p, 0, none⟩ = some (srcV c) ∧ w.cell? ⟨p, 1, none⟩ = some hv ∧ w.cell? ⟨p, 2, none⟩ = some (.int .i64 gone) ∧ w.cell? ⟨p, 3, none⟩ = some stop ∧ w.cell? ⟨p, 4, none⟩ = some (.int .i64 pos) ∧ w.cell? ⟨p, 5, none⟩ = some (.bool mk) ∧ w.cell? ⟨p, 6, none⟩ = some (.int .i64 mark) := by
  refine ⟨(h.cell 0).trans ?_, (h.cell 1).trans ?_, (h.cell 2).trans ?_, (h.cell 3).trans ?_, (h.cell 4).trans ?_, (h.cell 5).trans ?_, (h.cell 6).trans ?_⟩ <;> simp [rdCells]

theorem drop_row (cur : List Value) (xs : List Nat) (k : Nat) :
    (cur.take 0 ++ (xs.drop k).map byteV ++ cur.drop (0 + ((xs.drop k).map byteV).length)).take (xs.drop k).length = (xs.drop k).map byteV := by
  rw [List.take_zero, List.nil_append, List.take_append_of_le_length (by simp), List.take_of_length_le (by simp)]

/-- 'copy' within rows, the source perhaps of no element. -/
theorem step_copy_any {P : Program} {ops : Array Oper} {o : Oper} {a : Act} {w : World} {K : Act → World → Prop} {Q : Exit → Act → World → Prop} {E : Prop} (hgd : o.guard = none) (d s : Operand) (dT sT : TypeId)
    (ho : o.op = .call { callee := .builtin .copy, args := #[d, s], argTypes := #[dT, sT] }) (elem : TypeId) (hu : P.underlying dT = some (.slice elem)) (hsz : (P.info? elem).map (·.size) = some 1)
    (p off dLen dCap : Nat) (sp : Option Addr) (sLen sCap : Nat) (hd : a.eval d = .slice (some ⟨p, off, none⟩) dLen dCap) (hs : a.eval s = .slice sp sLen sCap)
    (cur : Array Value) (t : TypeId) (hg : Blk w p cur t) (cs : List Value) (hn : cs.length = Nat.min sLen dLen)
    (hsrc : 0 < cs.length → ∃ ad : Addr, sp = some ad ∧ ∀ j v, cs[j]? = some v → w.cell? (ad.add j) = some v) (hfit : off + cs.length ≤ cur.size) (h1 : ∀ v ∈ cs, v.oneCell' = true)
    (h : ∀ w', Kept p w w' → Blk w' p (cur.toList.take off ++ cs ++ cur.toList.drop (off + cs.length)).toArray t → K (a.put o.dst (goInt cs.length)) w') :
    if Region.wanted o (yielded ops a.tmps) = true then Oper.wp P o a w K Q else E := by
  by_cases h0 : cs.length = 0
  · obtain rfl : cs = [] := List.eq_nil_of_length_eq_zero h0
    have hw : Region.wanted o (yielded ops a.tmps) = true := by simp [Region.wanted, hgd]
    rw [if_pos hw]
    have hrun := run_copy_none (P := P) w dT sT o.type elem (some ⟨p, off, none⟩) sp dLen dCap sLen sCap hu hsz (by simpa using hn.symm)
    unfold Oper.wp
    simp [execOp, ho, resolve, invoke, builtin, hd, hs, hrun, Result.andThen]
    refine h w (Kept.refl _ _) ?_
    simpa using hg
  · obtain ⟨ad, rfl, hsrc'⟩ := hsrc (by omega)
    exact step_copy_kept hgd d s dT sT ho elem hu hsz p off dLen dCap ad sLen sCap hd hs cur t hg cs hn hsrc' hfit h1 h

theorem letGo_kept {w w2 : World} {g p n c : Nat} {v u : Value} (hk : Kept g w.drew w2) : KeptX (p :: rowX (.slice (some ⟨g, 0, none⟩) n c)) w ((w2.setCell ⟨p, 1, none⟩ v).setCell ⟨p, 2, none⟩ u) := by
  have h0 : KeptX (p :: rowX (.slice (some ⟨g, 0, none⟩) n c)) w w2 := ⟨hk.os, hk.tape, hk.output, hk.size, fun i hi hx => hk.block i hi (fun e => hx (by rw [rowX_some, e]; simp))⟩
  exact (h0.setCell (by simp) 1 v).setCell (by simp) 2 u
theorem letGo_row {w2 : World} {B g p cap k : Nat} {cur : Array Value} {xs : List Nat} {t : TypeId} (g1 : B ≤ g) (hkl : k ≤ xs.length) (g4 : cap ≤ maxLen) (g5 : cur.size = cap) (hB2 : Blk w2 g (cur.toList.take 0 ++ (xs.drop k).map byteV ++ cur.toList.drop (0 + ((xs.drop k).map byteV).length)).toArray t) (hne : p ≠ g) (v u : Value) (hxc : xs.length ≤ cap) (ht : t = 5 := by rfl) :
    RowAt ((w2.setCell ⟨p, 1, none⟩ v).setCell ⟨p, 2, none⟩ u) B (.slice (some ⟨g, 0, none⟩) (xs.length - k) cap) (xs.drop k) := by
  subst ht
  refine Or.inr ⟨g, cap, _, by rw [List.length_drop], g1, (hB2.other (p := ⟨p, 1, none⟩) hne.symm _).other (p := ⟨p, 2, none⟩) hne.symm _, by rw [List.length_drop]; omega, g4, ?_, drop_row _ _ _⟩
  simp
  omega

set_option maxHeartbeats 1000000 in
set_option maxRecDepth 10000 in
theorem letGo (B p c : Nat) (t : TypeId) (hv : Value) (gone keep : Nat) (stop : Value) (pos : Nat) (mk : Bool) (mark : Nat) (ex : List Value) (xs : List Nat) (w : World) (hBl : Blk w p (rdCells c hv gone stop pos mk mark ex) t) (ht : t ≠ 5) (hR : RowAt w B hv xs) (h1 : gone ≤ keep) (h2 : keep ≤ gone + xs.length) (hs : gone + xs.length ≤ 1048576) :
    Calls Tryz.prog 316 #[.pointer (some ⟨p, 0, none⟩), .int .i64 keep] w fun e w' => ∃ hv', e = .returned (.tuple #[]) ∧ KeptX (p :: rowX hv) w w' ∧ Blk w' p (rdCells c hv' keep stop pos mk mark ex) t ∧ RowAt w' B hv' (xs.drop (keep - gone)) ∧ rowX hv' = rowX hv := by
  obtain ⟨c0, c1, c2, c3, c4, c5, c6⟩ := rd_c0 hBl
  by_cases hk : keep = gone
  · have hz : (keep : Int) - (gone : Int) = 0 := by omega
    go_enter Tryz.func316, Tryz.ntmps316
    go_wp2
    refine bodyPost_ret (v := .tuple #[]) (by simp [results, Tryz.results316, go_sem]) rfl ?_
    exact ⟨hv, rfl, KeptX.refl _ _, by rw [hk]; exact hBl, by rw [hk]; simpa using hR, rfl⟩
  · rcases hR with ⟨rfl, rfl⟩ | ⟨g, cap, cur, rfl, g1, g2, g3, g4, g5, g6⟩
    · simp at h2; omega
    · obtain ⟨k, hkk⟩ : ∃ k : Nat, (keep : Int) - (gone : Int) = (k : Int) := ⟨keep - gone, by omega⟩
      have HK : Hid (keep - gone = k) := by show _ = _; omega
      have hgp : p ≠ g := hBl.ne g2 ht
      have hk0 : ((k : Int) == 0) = false := by simp; omega
      have hkl : (k : Int) ≤ (xs.length : Int) := by omega
      have hkc : (k : Int) ≤ (cap : Int) := by omega
      go_enter Tryz.func316, Tryz.ntmps316
      go_wp2
      have hcl : ((xs.drop k).map byteV).length = xs.length - k := by simp
      have hmin : xs.length - k = Nat.min (xs.length - k) xs.length := (Nat.min_eq_left (by omega)).symm
      have hsrc : ∀ (W : World), Blk W g cur 5 → ∀ j v, ((xs.drop k).map byteV)[j]? = some v → W.cell? ((⟨g, k, none⟩ : Addr).add j) = some v := by
        intro W hW j v hv
        have hR' : RowAt W B (.slice (some ⟨g, 0, none⟩) xs.length cap) xs := Or.inr ⟨g, cap, cur, rfl, g1, hW, g3, g4, g5, g6⟩
        have := bytes_range (hR'.bytes.drop k) (xs.length - k) (by simp) j v (by rw [List.take_of_length_le (by simp)]; exact hv)
        rwa [Nat.zero_add] at this
      have HCL := hid (hcl.trans hmin)
      have HSRC := hid hsrc
      have HL : Hid (0 + ((xs.drop k).map byteV).length ≤ cur.size) := by show _ ≤ _; rw [hcl, g5]; omega
      have HG := hid g2
      clear hcl hmin hsrc g6
      by_cases hck : cap = k
      · subst hck
        have HC0 : Hid (((xs.drop cap).map byteV).length = Nat.min 0 xs.length) := by show _ = _; simp; omega
        have hx0 : xs.length - cap = 0 := by omega
        have HSR : Hid (∀ W : World, Blk W g cur 5 → 0 < ((xs.drop cap).map byteV).length → ∃ ad : Addr, (some (⟨g, 0, none⟩ : Addr)) = some ad ∧ ∀ j v, ((xs.drop cap).map byteV)[j]? = some v → W.cell? (ad.add j) = some v) := by
          intro W hW h0
          simp at h0
          omega
        go_region_held3 (fun w' => w'.cell? ⟨p, 1, none⟩ = some (.slice (some ⟨g, 0, none⟩) xs.length cap)) (first | go_keep | exact (hk2.cell (a := ⟨p, 1, none⟩) hBl.lt hgp).trans c1)
          ((refine step_copy_any rfl (.tmp 17) (.tmp 23) 136 136 rfl 5 Tryz.underlying136 (by kernel_rfl) g 0 xs.length cap (some ⟨g, 0, none⟩) 0 0 rfl rfl cur 5 HG.out.drew ((xs.drop cap).map byteV) HC0.out (HSR.out _ HG.out.drew) HL.out (bytes_one _) ?_; intro w2 hk2 hB2))
        have hBp := hk2.blk hBl.drew hgp
        obtain ⟨d0, d1, d2, d3, d4, d5, d6⟩ := rd_c0 hBp
        have f1 := hBp.free 1
        have f2 := hBp.free 2
        have hBp1 := hBp.set 1 (.slice (some ⟨g, 0, none⟩) 0 cap)
        rw [rd_have] at hBp1
        have z2 := (rd_c0 hBp1).2.2.1
        go_wp2
        go_end0
        have hBp2 := hBp1.set 2 (.int .i64 keep)
        rw [rd_gone] at hBp2
        refine ⟨_, rfl, ?_, hBp2, ?_, rfl⟩
        · exact letGo_kept hk2
        · rw [HK.out]
          have := letGo_row g1 (by omega) g4 g5 hB2 (hBp.ne hB2 ht) (.slice (some ⟨g, 0, none⟩) 0 cap) (.int .i64 keep) (by omega)
          rw [hx0] at this
          exact this
      · have hck' : ¬ (k : Int) = (cap : Int) := by omega
        have HSR : Hid (∀ W : World, Blk W g cur 5 → 0 < ((xs.drop k).map byteV).length → ∃ ad : Addr, (some (⟨g, k, none⟩ : Addr)) = some ad ∧ ∀ j v, ((xs.drop k).map byteV)[j]? = some v → W.cell? (ad.add j) = some v) := by
          intro W hW h0
          simp at h0
          exact ⟨_, rfl, HSRC.out W hW⟩
        go_region_held3 (fun w' => w'.cell? ⟨p, 1, none⟩ = some (.slice (some ⟨g, 0, none⟩) xs.length cap)) (first | go_keep | exact (hk2.cell (a := ⟨p, 1, none⟩) hBl.lt hgp).trans c1)
          ((refine step_copy_any rfl (.tmp 17) (.tmp 23) 136 136 rfl 5 Tryz.underlying136 (by kernel_rfl) g 0 xs.length cap (some ⟨g, k, none⟩) (xs.length - k) (cap - k) rfl rfl cur 5 HG.out.drew ((xs.drop k).map byteV) HCL.out (HSR.out _ HG.out.drew) HL.out (bytes_one _) ?_; intro w2 hk2 hB2))
        have hBp := hk2.blk hBl.drew hgp
        obtain ⟨d0, d1, d2, d3, d4, d5, d6⟩ := rd_c0 hBp
        have f1 := hBp.free 1
        have f2 := hBp.free 2
        have hBp1 := hBp.set 1 (.slice (some ⟨g, 0, none⟩) (xs.length - k) cap)
        rw [rd_have] at hBp1
        have z2 := (rd_c0 hBp1).2.2.1
        have q1 : ((xs.length - k : Nat) : Int) ≤ (cap : Int) := by omega
        go_wp2
        go_end0
        have hBp2 := hBp1.set 2 (.int .i64 keep)
        rw [rd_gone] at hBp2
        refine ⟨_, rfl, ?_, hBp2, ?_, rfl⟩
        · exact letGo_kept hk2
        · rw [HK.out]
          exact letGo_row g1 (by omega) g4 g5 hB2 (hBp.ne hB2 ht) _ _ (by omega)
end Go.Proofs.YtgkenhmbilkhdaaGreatDoor
