import Derived.Test.YtgkenhmbilkhdaaGreatDoorGMd5Sum
import Derived.Laws.BytesArg
import Derived.Test.YtgkenhmbilkhdaaGreatDoorGSkOpen
namespace Go.Proofs.YtgkenhmbilkhdaaGreatDoor
open Go.RowKit

/-! ### A list stored over a whole block -/
def setFrom (cs : Array Value) (o : Nat) : List Value → Array Value
  | [] => cs
  | v :: r => setFrom (cs.setIfInBounds o v) (o + 1) r
theorem Blk.setCells {b : Nat} {t : TypeId} : ∀ (vs : List Value) (o : Nat) {w : World} {cs : Array Value}, Blk w b cs t → Blk (w.setCells b o vs) b (setFrom cs o vs) t
  | [], _, _, _, h => h
  | v :: r, o, _, _, h => Blk.setCells r (o + 1) (h.set o v)
theorem setFrom_size : ∀ (vs : List Value) (cs : Array Value) (o : Nat), (setFrom cs o vs).size = cs.size
  | [], _, _ => rfl
  | v :: r, cs, o => by
    show (setFrom (cs.setIfInBounds o v) (o + 1) r).size = _
    rw [setFrom_size r, Array.size_setIfInBounds]
theorem setFrom_get : ∀ (vs : List Value) (cs : Array Value) (o i : Nat), o + vs.length ≤ cs.size → (setFrom cs o vs)[i]? = if o ≤ i ∧ i < o + vs.length then vs[i - o]? else cs[i]?
  | [], cs, o, i, _ => by
    rw [if_neg (by rw [List.length_nil]; omega)]; rfl
  | v :: r, cs, o, i, h => by
    show (setFrom (cs.setIfInBounds o v) (o + 1) r)[i]? = _
    rw [List.length_cons] at h
    rw [setFrom_get r _ (o + 1) i (by rw [Array.size_setIfInBounds]; omega)]
    by_cases h1 : i = o
    · subst h1
      rw [if_neg (by omega), if_pos (by simp), Array.getElem?_setIfInBounds, if_pos rfl, if_pos (by omega), Nat.sub_self]
      rfl
    · by_cases h2 : o + 1 ≤ i ∧ i < o + 1 + r.length
      · rw [if_pos h2, if_pos (by rw [List.length_cons]; omega), show i - o = (i - (o + 1)) + 1 by omega, List.getElem?_cons_succ]
      · rw [if_neg h2, if_neg (by rw [List.length_cons]; omega), Array.getElem?_setIfInBounds, if_neg (Ne.symm h1)]
theorem setFrom_all (cs : Array Value) (L : List Value) (h : cs.size = L.length) : setFrom cs 0 L = L.toArray := by
  apply Array.ext_getElem?
  intro i
  rw [setFrom_get L cs 0 i (by omega)]
  by_cases hi : i < L.length
  · rw [if_pos (by omega), Nat.sub_zero, List.getElem?_toArray]
  · rw [if_neg (by omega), Array.getElem?_eq_none (by omega), Array.getElem?_eq_none (by rw [List.size_toArray]; omega)]

/-- A list of n cells stored into a new block: the world behind it is a letter. -/
theorem wpList_store_whole {ops : Array Oper} {rest : List Oper} {op : Oper} {a : Act} {w : World} {Q : Exit → Act → World → Prop} (hgd : op.guard = none) (ty : TypeId) (x y : Operand) (ho : op.op = .store ty x y)
    (C : Array Value) (t : TypeId) (L : List Value) (hC : C.size = L.length) (hi : (Tryz.prog.info? ty).map (·.size) = some L.length) (hx : a.eval x = .pointer (some ⟨w.heap.size, 0, none⟩)) (hy : a.eval y = .agg L.toArray) (h1 : L.toArray.all (·.oneCell') = true)
    (h : ∀ W, Below w.heap.size w W → Blk W w.heap.size L.toArray t → W.heap.size = w.heap.size + 1 → wpList Tryz.prog ops Q rest (a.put op.dst undef) W) : wpList Tryz.prog ops Q (op :: rest) a (w.alloc (.cells C t)) := by
  have hth : (w.alloc (.cells C t)).there w.heap.size 0 L.toArray.size := there_whole (Blk.new _ _ _) (by simp [hC])
  refine wpList_store_mid hgd ty x y ho w.heap.size 0 L.toArray hx hy hth (by rw [List.size_toArray]; exact hi) h1 ?_
  refine h _ (below_setCells (Nat.le_refl _) _ _ _ (by go_grown)) ?_ ?_
  · rw [List.toList_toArray, ← setFrom_all C L hC]
    exact Blk.setCells L 0 (Blk.new w C t)
  · have hs : ∀ (vs : List Value) (o : Nat) (w : World) (b : Nat), (w.setCells b o vs).heap.size = w.heap.size := by
      intro vs
      induction vs with
      | nil => intro o w b; rfl
      | cons v r ih => intro o w b; exact (ih (o + 1) _ b).trans (World.size_setCell _ _ _)
    rw [hs, World.size_alloc]

/-! ### The digest -/
def digW (q : Quad) (i : Nat) : Nat := if i = 0 then q.a else if i = 1 then q.b else if i = 2 then q.c else q.d
def dig (q : Quad) (j : Nat) : Nat := digW q (j / 4) / 2 ^ (8 * (j % 4)) % 256
def outCells (q : Quad) (m : Nat) : Array Value := ((List.range 16).map fun j => Value.int .u8 ((if j < m then dig q j else 0 : Nat) : Int)).toArray
def digest (q : Quad) : ByteArray := strOfNums ((List.range 16).map fun j => (dig q j : Int))
theorem outCells_get (q : Quad) (m j : Nat) (h : j < 16) : (outCells q m)[j]? = some (.int .u8 ((if j < m then dig q j else 0 : Nat) : Int)) := by simp [outCells, h]
theorem outCells_size (q : Quad) (m : Nat) : (outCells q m).size = 16 := by simp [outCells]
theorem outCells_next (q : Quad) (m : Nat) (h : m < 16) : (outCells q m).setIfInBounds m (.int .u8 (dig q m : Nat)) = outCells q (m + 1) := by
  apply Array.ext_getElem?
  intro i
  have hs := outCells_size q m
  have hs1 := outCells_size q (m + 1)
  rw [Array.getElem?_setIfInBounds]
  rcases Nat.lt_or_ge i 16 with hi | hi
  · rw [outCells_get q (m + 1) i hi]
    by_cases e : m = i
    · subst e
      rw [if_pos rfl, if_pos (by omega), if_pos (by omega)]
    · rw [if_neg e, outCells_get q m i hi]
      have : (i < m ↔ i < m + 1) := by omega
      simp only [this]
  · rw [if_neg (by omega), Array.getElem?_eq_none (by omega), Array.getElem?_eq_none (by omega)]
theorem outCells_zero (q : Quad) : outCells q 0 = #[.int .u8 0, .int .u8 0, .int .u8 0, .int .u8 0, .int .u8 0, .int .u8 0, .int .u8 0, .int .u8 0, .int .u8 0, .int .u8 0, .int .u8 0, .int .u8 0, .int .u8 0, .int .u8 0, .int .u8 0, .int .u8 0] := by
  unfold outCells
  simp only [Nat.not_lt_zero, if_false]
  rfl
theorem padded_len (l : List Nat) : (padded l).length % 64 = 0 := by
  unfold padded pad1 padZ
  simp only [List.length_append, List.length_cons, List.length_nil, List.length_replicate, List.length_map, List.length_range]
  omega

theorem md_list_len (q : Quad) (bl : List Nat) (n : Nat) (h : bl.length = 64) : (mdCells q bl n).toList.length = 69 := by
  unfold mdCells
  simp [h]
theorem md_one (q : Quad) (bl : List Nat) (n : Nat) : (mdCells q bl n).toList.toArray.all (·.oneCell') = true := by
  refine all_oneCell_toArray ?_
  intro v hv
  unfold mdCells at hv
  simp only [List.mem_append, List.mem_cons, List.mem_map, List.not_mem_nil, or_false] at hv
  rcases hv with ((rfl | rfl | rfl | rfl) | ⟨x, _, rfl⟩) | rfl <;> rfl
theorem info127 : (Tryz.prog.info? 197).map (·.size) = some 69 := by kernel_rfl
theorem zero127 : Tryz.zeroCells197.size = 69 := by kernel_rfl

theorem digW_at (qa qb qc qd k : Nat) (h : k < 4) : (#[Value.int .u32 (qa : Int), .int .u32 (qb : Int), .int .u32 (qc : Int), .int .u32 (qd : Int)] : Array Value)[k]? = some (.int .u32 ((digW ⟨qa, qb, qc, qd⟩ k : Nat) : Int)) := by
  rcases (show k = 0 ∨ k = 1 ∨ k = 2 ∨ k = 3 by omega) with rfl | rfl | rfl | rfl <;> rfl
theorem digW_lt (qa qb qc qd k : Nat) (ha : qa < 4294967296) (hb : qb < 4294967296) (hc : qc < 4294967296) (hd : qd < 4294967296) : digW ⟨qa, qb, qc, qd⟩ k < 4294967296 := by
  unfold digW
  split
  · exact ha
  split
  · exact hb
  split
  · exact hc
  · exact hd
theorem dig_at (q : Quad) (k j : Nat) (hj : j < 4) : dig q (4 * k + j) = digW q k / 2 ^ (8 * j) % 256 := by
  unfold dig
  rw [show (4 * k + j) / 4 = k by omega, show (4 * k + j) % 4 = j by omega]
theorem byte_cast (v j : Nat) : (v : Int) / 2 ^ (8 * j) % 256 = ((v / 2 ^ (8 * j) % 256 : Nat) : Int) := by
  rw [Int.natCast_emod, Int.natCast_ediv, Int.natCast_pow]
  rfl

set_option maxHeartbeats 4000000 in
set_option maxRecDepth 10000 in
theorem sum_core (X : ByteArray) (p : Nat) (l : List Nat) (HX : Hid (X = digest (md (padded l) ((padded l).length / 64)))) (hlen : l.length ≤ 1048576) (w : World) (hT : MdTabs w) (hM : MdAt w p l) :
    Calls Tryz.prog 74 #[.pointer (some ⟨p, 0, none⟩)] w fun e w' => e = .returned (.string X) ∧ Below w.heap.size w w' := by
  obtain ⟨bl, h64, hbl, htk, hB⟩ := hM
  have hlen69 := md_list_len (md l (l.length / 64)) bl l.length h64
  have hone := md_one (md l (l.length / 64)) bl l.length
  have hrange := range_whole hB
  have hMk : ∀ W, Blk W w.heap.size (mdCells (md l (l.length / 64)) bl l.length).toList.toArray 197 → MdAt W w.heap.size l := fun W h => ⟨bl, h64, hbl, htk, by rwa [Array.toArray_toList] at h⟩
  generalize (mdCells (md l (l.length / 64)) bl l.length).toList = L at hlen69 hone hrange hMk
  have HI : Hid ((Tryz.prog.info? 197).map (·.size) = some L.length) := by show _ = _; rw [hlen69]; exact info127
  have HZ : Hid (Tryz.zeroCells197.size = L.length) := by show _ = _; rw [hlen69]; exact zero127
  have HO := hid hone
  have HR := hid hrange
  have HK := hid hMk
  clear hone hrange hMk hlen69 hB htk hbl h64
  go_enter Tryz.func74, Tryz.ntmps74
  go_wp2_with (first
    | (refine wpList_load_mid rfl 197 _ rfl p 0 rfl L _ HR.out Tryz.underlying197 rfl HI.out ?_)
    | (refine wpList_store_whole rfl 197 _ _ rfl Tryz.zeroCells197 197 L HZ.out HI.out rfl rfl HO.out ?_; intro W hbW hBW hsW))
  have hMW := HK.out W hBW
  have hTW := hT.below hbW
  refine (pad_any w.heap.size l hlen W hTW hT.2.2 hMW).mono ?_
  rintro e w2 ⟨rfl, hk2, hM2⟩
  have hb2 : Below w.heap.size w w2 := hbW.trans (hk2.below (Nat.le_refl _) hbW.size)
  have hl2 : w.heap.size < w2.heap.size := hM2.lt
  obtain ⟨bl2, _, _, _, hB2⟩ := hM2
  obtain ⟨q, HQ⟩ : ∃ q, Hid (q = md (padded l) ((padded l).length / 64)) := ⟨_, rfl⟩
  have hq : q.ok := by rw [HQ.out]; exact md_ok _ _
  rw [← HQ.out] at hB2
  obtain ⟨qa, qb, qc, qd⟩ := q
  obtain ⟨ha, hb, hc, hd⟩ := hq
  simp only at ha hb hc hd
  have c0 := hB2.cell 0
  have c1 := hB2.cell 1
  have c2 := hB2.cell 2
  have c3 := hB2.cell 3
  rw [mdCells_a] at c0
  rw [mdCells_b] at c1
  rw [mdCells_c] at c2
  rw [mdCells_d] at c3
  simp only at c0 c1 c2 c3
  clear hMW hTW hBW hbW hk2 hB2 HK HR HO HZ HI hT
  go_wp2
  go_loopw [14] (fun i wr => ∃ k : Nat, k ≤ 4 ∧ i = .int .i64 k ∧ Below w2.heap.size w2 wr ∧ Blk wr w2.heap.size (outCells ⟨qa, qb, qc, qd⟩ (4 * k)) 198) (fun i _ => 4 - (intOf i).toNat)
  case atStart => exact ⟨0, by omega, rfl, by go_grown, by rw [outCells_zero]; exact Blk.new _ _ _⟩
  case round =>
    obtain ⟨k, hk4, rfl, hbr, hBr⟩ := hrel
    by_cases hlt : k < 4
    · have hidx := idx_arr (P := Tryz.prog) (t := 194) Tryz.underlying194 Tryz.underlying193 (by kernel_rfl) _ k _ hlt (digW_at qa qb qc qd k hlt)
      have hv := digW_lt qa qb qc qd k ha hb hc hd
      have HD : Hid (∀ j, j < 4 → dig ⟨qa, qb, qc, qd⟩ (4 * k + j) = digW ⟨qa, qb, qc, qd⟩ k / 2 ^ (8 * j) % 256) := fun j hj => dig_at _ k j hj
      generalize digW ⟨qa, qb, qc, qd⟩ k = v at hidx hv HD
      have hlt' : (k : Int) < 4 := by omega
      go_wp2
      go_loopw [18] (fun i wx => ∃ j : Nat, j ≤ 4 ∧ i = .int .i64 j ∧ Below w2.heap.size w2 wx ∧ Blk wx w2.heap.size (outCells ⟨qa, qb, qc, qd⟩ (4 * k + j)) 198) (fun i _ => 4 - (intOf i).toNat)
      case atStart => exact ⟨0, by omega, rfl, hbr, hBr⟩
      case round =>
        obtain ⟨j, hj4, rfl, hbx, hBx⟩ := hrel
        by_cases hjl : j < 4
        · have hjl' : (j : Int) < 4 := by omega
          have cx := hBx.cell (4 * k + j)
          rw [outCells_get _ _ _ (by omega)] at cx
          have fx := hBx.free (4 * k + j)
          have hBn := hBx.set (4 * k + j) (.int .u8 (dig ⟨qa, qb, qc, qd⟩ (4 * k + j) : Nat))
          rw [outCells_next _ _ (by omega), HD.out j hjl, ← byte_cast] at hBn
          have HBN := hid hBn
          clear hBn
          go_wp2
          go_roundw
          case rel => exact ⟨j + 1, by omega, by go_num, hbx.setCell (p := ⟨w2.heap.size, 4 * k + j, none⟩) (by simp) _, HBN.out⟩
          case measure => simp [intOf]; omega
        · obtain rfl : j = 4 := by omega
          go_wp2
          go_roundw
          case rel => exact ⟨k + 1, by omega, by go_num, hbx, by rw [show 4 * (k + 1) = 4 * k + 4 by omega]; exact hBx⟩
          case measure => simp [intOf]; omega
    · obtain rfl : k = 4 := by omega
      have hcv := run_convert_bytes_arg (P := Tryz.prog) wr 136 5 Tryz.underlying136 Tryz.underlying5 w2.heap.size 0 16 16 ((List.range 16).map fun j => (dig ⟨qa, qb, qc, qd⟩ j : Int)) (by simp) (by
        intro i hi
        rw [Nat.zero_add, hBr.cell i, outCells_get _ _ _ hi, if_pos (by omega)]
        simp [hi]) 9 Tryz.underlying9
      have HS : Hid (X = strOfNums ((List.range 16).map fun j => (dig ⟨qa, qb, qc, qd⟩ j : Int))) := by
        show X = _
        rw [HX.out, ← HQ.out]
        rfl
      generalize strOfNums ((List.range 16).map fun j => (dig ⟨qa, qb, qc, qd⟩ j : Int)) = S at hcv HS
      go_wp2
      go_ret
      exact ⟨by rw [HS.out]; rfl, hb2.trans (hbr.mono (Nat.le_of_lt hl2))⟩

theorem sum_any (p : Nat) (l : List Nat) (hlen : l.length ≤ 1048576) (w : World) (hT : MdTabs w) (hM : MdAt w p l) :
    Calls Tryz.prog 74 #[.pointer (some ⟨p, 0, none⟩)] w fun e w' => e = .returned (.string (digest (md (padded l) ((padded l).length / 64)))) ∧ Below w.heap.size w w' :=
  sum_core _ p l rfl hlen w hT hM
end Go.Proofs.YtgkenhmbilkhdaaGreatDoor

namespace Go.Proofs.YtgkenhmbilkhdaaGreatDoor
open Go.RowKit

theorem St.setCells {C : Cx} {b : Nat} {t : TypeId} {Bs : List Bk} {pos : Nat} (hB : C.B ≤ b) : ∀ (L : List Value) (o : Nat) {cs : Array Value} {w : World}, St C (⟨b, cs, t⟩ :: Bs) pos w → St C (⟨b, setFrom cs o L, t⟩ :: Bs) pos (w.setCells b o L)
  | [], _, _, _, h => h
  | v :: r, o, _, _, h => St.setCells hB r (o + 1) (h.set hB o v)
theorem size_setCells (b : Nat) : ∀ (L : List Value) (o : Nat) (w : World), (w.setCells b o L).heap.size = w.heap.size
  | [], _, _ => rfl
  | _ :: r, o, _ => (size_setCells b r (o + 1) _).trans (World.size_setCell _ _ _)
theorem Blk.there {w : World} {b : Nat} {cs : Array Value} {t : TypeId} (h : Blk w b cs t) (o n : Nat) (hn : o + n ≤ cs.size) : w.there b o n := by
  intro j hj
  refine ⟨?_, h.free _⟩
  rw [h.cell, Array.getElem?_eq_getElem (by omega)]
  rfl
theorem Blk.range {w : World} {b : Nat} {cs : Array Value} {t : TypeId} (h : Blk w b cs t) (o : Nat) (L : List Value) (hL : ∀ j v, L[j]? = some v → cs[o + j]? = some v) : w.rangeAt b o L := fun j v hv => (h.cell _).trans (hL j v hv)

/-- A struct stored into a block: the world behind it is a letter. -/
theorem wpList_store_st {ops : Array Oper} {rest : List Oper} {op : Oper} {a : Act} {w : World} {Q : Exit → Act → World → Prop} (hgd : op.guard = none) (ty : TypeId) (x y : Operand) (ho : op.op = .store ty x y)
    {C : Cx} {b : Nat} {cs : Array Value} {t : TypeId} {Bs : List Bk} {pos : Nat} (h : St C (⟨b, cs, t⟩ :: Bs) pos w) (hB : C.B ≤ b) (o : Nat) (L : List Value) (hs : o + L.length ≤ cs.size) (hi : (Tryz.prog.info? ty).map (·.size) = some L.length)
    (hx : a.eval x = .pointer (some ⟨b, o, none⟩)) (hy : a.eval y = .agg L.toArray) (h1 : L.toArray.all (·.oneCell') = true)
    (hK : ∀ W, St C (⟨b, setFrom cs o L, t⟩ :: Bs) pos W → W.heap.size = w.heap.size → wpList Tryz.prog ops Q rest (a.put op.dst undef) W) : wpList Tryz.prog ops Q (op :: rest) a w := by
  refine wpList_store_mid hgd ty x y ho b o L.toArray hx hy (h.head.there o _ (by simpa using hs)) (by rw [List.size_toArray]; exact hi) h1 ?_
  rw [List.toList_toArray]
  exact hK _ (h.setCells hB L o) (size_setCells _ _ _ _)
theorem KeptX.setCells {X : List Nat} {a : World} {p : Nat} (hp : p ∈ X) : ∀ (L : List Value) (o : Nat) {w : World}, KeptX X a w → KeptX X a (w.setCells p o L)
  | [], _, _, h => h
  | v :: r, o, _, h => KeptX.setCells hp r (o + 1) (h.setCell hp o v)
/-- The same in a region that draws its order. -/
theorem wp_store_st {op : Oper} {a : Act} {w : World} {K : Act → World → Prop} {Q : Exit → Act → World → Prop} (ty : TypeId) (x y : Operand) (ho : op.op = .store ty x y)
    {C : Cx} {b : Nat} {cs : Array Value} {t : TypeId} {Bs : List Bk} {pos : Nat} (h : St C (⟨b, cs, t⟩ :: Bs) pos w) (hB : C.B ≤ b) (o : Nat) (L : List Value) (hs : o + L.length ≤ cs.size) (hi : (Tryz.prog.info? ty).map (·.size) = some L.length)
    (hx : a.eval x = .pointer (some ⟨b, o, none⟩)) (hy : a.eval y = .agg L.toArray) (h1 : L.toArray.all (·.oneCell') = true)
    (hK : ∀ W, St C (⟨b, setFrom cs o L, t⟩ :: Bs) pos W → K (a.put op.dst undef) W) : op.wp Tryz.prog a w K Q := by
  refine wp_store_mid ty x y ho b o L.toArray hx hy (h.head.there o _ (by simpa using hs)) (by rw [List.size_toArray]; exact hi) h1 ?_
  rw [List.toList_toArray]
  exact hK _ (h.setCells hB L o)
theorem wp_store_blk {op : Oper} {a : Act} {w : World} {K : Act → World → Prop} {Q : Exit → Act → World → Prop} (ty : TypeId) (x y : Operand) (ho : op.op = .store ty x y)
    {b : Nat} {cs : Array Value} {t : TypeId} (h : Blk w b cs t) (o : Nat) (L : List Value) (hs : o + L.length ≤ cs.size) (hi : (Tryz.prog.info? ty).map (·.size) = some L.length)
    (hx : a.eval x = .pointer (some ⟨b, o, none⟩)) (hy : a.eval y = .agg L.toArray) (h1 : L.toArray.all (·.oneCell') = true)
    (hK : ∀ W, KeptX [b] w W → Blk W b (setFrom cs o L) t → K (a.put op.dst undef) W) : op.wp Tryz.prog a w K Q := by
  refine wp_store_mid ty x y ho b o L.toArray hx hy (h.there o _ (by simpa using hs)) (by rw [List.size_toArray]; exact hi) h1 ?_
  rw [List.toList_toArray]
  exact hK _ ((KeptX.refl _ _).setCells (by simp) L o) (h.setCells L o)
theorem wpList_store_blk {ops : Array Oper} {rest : List Oper} {op : Oper} {a : Act} {w : World} {Q : Exit → Act → World → Prop} (hgd : op.guard = none) (ty : TypeId) (x y : Operand) (ho : op.op = .store ty x y)
    {b : Nat} {cs : Array Value} {t : TypeId} (h : Blk w b cs t) (o : Nat) (L : List Value) (hs : o + L.length ≤ cs.size) (hi : (Tryz.prog.info? ty).map (·.size) = some L.length)
    (hx : a.eval x = .pointer (some ⟨b, o, none⟩)) (hy : a.eval y = .agg L.toArray) (h1 : L.toArray.all (·.oneCell') = true)
    (hK : ∀ W, KeptX [b] w W → Blk W b (setFrom cs o L) t → wpList Tryz.prog ops Q rest (a.put op.dst undef) W) : wpList Tryz.prog ops Q (op :: rest) a w :=
  wpList_plain hgd fun _ hKK => wp_store_blk ty x y ho h o L hs hi hx hy h1 (fun W h1 h2 => hKK _ _ (hK W h1 h2))
end Go.Proofs.YtgkenhmbilkhdaaGreatDoor
