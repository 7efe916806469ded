import Derived.Test.YtgkenhmbilkhdaaGreatDoorGBits64
import Derived.Deep.MidRow
namespace Go.Proofs.YtgkenhmbilkhdaaGreatDoor
open Go.RowKit

theorem idx_arr {P : Program} {t e : TypeId} {n : Nat} {k0 : IntKind} (hu : P.underlying t = some (.array n e)) (he : P.underlying e = some (.int k0)) (hs : (P.info? e).map (·.size) = some 1)
    (cs : Array Value) (k : Nat) (v : Value) (hk : k < n) (hv : cs[k]? = some v) (w : World) : (Instr.index t (.agg cs) (.int .i64 k)).run P w = .ok v w := by
  obtain ⟨i, hi, hs1⟩ := Option.map_eq_some_iff.1 hs
  simp [Instr.index, asIntOf, run_underlying hu, part, isAgg, run_underlying he, sizeOf, typeInfo, hi, hs1, hv]
  intro h
  omega

/-- A word of which the bytes ahead of place k have been taken. -/
def wpart (l : List Nat) (k g : Nat) : Nat :=
  (if 4 * g < k then l.getD (4 * g) 0 else 0) + (if 4 * g + 1 < k then l.getD (4 * g + 1) 0 else 0) * 256 + (if 4 * g + 2 < k then l.getD (4 * g + 2) 0 else 0) * 65536 + (if 4 * g + 3 < k then l.getD (4 * g + 3) 0 else 0) * 16777216
def wCells (l : List Nat) (k : Nat) : Array Value := ((List.range 16).map fun g => Value.int .u32 (wpart l k g : Nat)).toArray

theorem wpart_full (l : List Nat) (g : Nat) (hg : g < 16) : wpart l 64 g = wordOf l g := by
  unfold wpart wordOf
  rw [if_pos (by omega), if_pos (by omega), if_pos (by omega), if_pos (by omega)]
theorem wpart_zero (l : List Nat) (g : Nat) : wpart l 0 g = 0 := by
  unfold wpart
  rw [if_neg (by omega), if_neg (by omega), if_neg (by omega), if_neg (by omega)]
theorem wpart_other (l : List Nat) (k g : Nat) (h : k / 4 ≠ g) : wpart l (k + 1) g = wpart l k g := by
  unfold wpart
  have h0 : (4 * g < k + 1 ↔ 4 * g < k) := by omega
  have h1 : (4 * g + 1 < k + 1 ↔ 4 * g + 1 < k) := by omega
  have h2 : (4 * g + 2 < k + 1 ↔ 4 * g + 2 < k) := by omega
  have h3 : (4 * g + 3 < k + 1 ↔ 4 * g + 3 < k) := by omega
  simp only [h0, h1, h2, h3]
theorem wCells_get (l : List Nat) (k g : Nat) (h : g < 16) : (wCells l k)[g]? = some (.int .u32 (wpart l k g : Nat)) := by
  simp [wCells, h]
theorem wCells_size (l : List Nat) (k : Nat) : (wCells l k).size = 16 := by simp [wCells]
theorem wCells_next (l : List Nat) (k : Nat) (h : k < 64) : (wCells l k).setIfInBounds (k / 4) (.int .u32 (wpart l (k + 1) (k / 4) : Nat)) = wCells l (k + 1) := by
  apply Array.ext_getElem?
  intro i
  have hs := wCells_size l k
  have hs1 := wCells_size l (k + 1)
  rw [Array.getElem?_setIfInBounds]
  rcases Nat.lt_or_ge i 16 with hi | hi
  · rw [wCells_get l (k + 1) i hi]
    by_cases e : k / 4 = i
    · rw [if_pos e, if_pos (by omega), e]
    · rw [if_neg e, wCells_get l k i hi, wpart_other l k i e]
  · rw [if_neg (by omega), Array.getElem?_eq_none (by omega), Array.getElem?_eq_none (by omega)]

/-- A byte more of a word, in the walk's own form, by its place. -/
theorem wor0 (l : List Nat) (g : Nat) : wpart l (4 * g + 1) g = l.getD (4 * g) 0 ∧ wpart l (4 * g) g = 0 := by
  unfold wpart
  constructor
  · rw [if_pos (by omega), if_neg (by omega), if_neg (by omega), if_neg (by omega)]; omega
  · rw [if_neg (by omega), if_neg (by omega), if_neg (by omega), if_neg (by omega)]
theorem wor1 (l : List Nat) (g : Nat) : wpart l (4 * g + 2) g = l.getD (4 * g) 0 + l.getD (4 * g + 1) 0 * 256 ∧ wpart l (4 * g + 1) g = l.getD (4 * g) 0 := by
  unfold wpart
  constructor
  · rw [if_pos (by omega), if_pos (by omega), if_neg (by omega), if_neg (by omega)]; omega
  · rw [if_pos (by omega), if_neg (by omega), if_neg (by omega), if_neg (by omega)]; omega
theorem wor2 (l : List Nat) (g : Nat) : wpart l (4 * g + 3) g = l.getD (4 * g) 0 + l.getD (4 * g + 1) 0 * 256 + l.getD (4 * g + 2) 0 * 65536 ∧ wpart l (4 * g + 2) g = l.getD (4 * g) 0 + l.getD (4 * g + 1) 0 * 256 := by
  unfold wpart
  constructor
  · rw [if_pos (by omega), if_pos (by omega), if_pos (by omega), if_neg (by omega)]; omega
  · rw [if_pos (by omega), if_pos (by omega), if_neg (by omega), if_neg (by omega)]; omega
theorem wor3 (l : List Nat) (g : Nat) : wpart l (4 * g + 4) g = l.getD (4 * g) 0 + l.getD (4 * g + 1) 0 * 256 + l.getD (4 * g + 2) 0 * 65536 + l.getD (4 * g + 3) 0 * 16777216 ∧ wpart l (4 * g + 3) g = l.getD (4 * g) 0 + l.getD (4 * g + 1) 0 * 256 + l.getD (4 * g + 2) 0 * 65536 := by
  unfold wpart
  constructor
  · rw [if_pos (by omega), if_pos (by omega), if_pos (by omega), if_pos (by omega)]
  · rw [if_pos (by omega), if_pos (by omega), if_pos (by omega), if_neg (by omega)]; omega

/-- The word, with a byte or'ed in at place r. -/
theorem wor (l : List Nat) (hl : ∀ x ∈ l, x < 256) (k : Nat) : wpart l k (k / 4) ||| (l.getD k 0 * 2 ^ (8 * (k % 4))) = wpart l (k + 1) (k / 4) := by
  have b0 := byte_lt hl (4 * (k / 4)); have b1 := byte_lt hl (4 * (k / 4) + 1); have b2 := byte_lt hl (4 * (k / 4) + 2); have b3 := byte_lt hl (4 * (k / 4) + 3)
  obtain ⟨g, r, hr, rfl⟩ : ∃ g r, r < 4 ∧ k = 4 * g + r := ⟨k / 4, k % 4, by omega, by omega⟩
  have hg : (4 * g + r) / 4 = g := by omega
  have hm : (4 * g + r) % 4 = r := by omega
  rw [hg] at b0 b1 b2 b3 ⊢
  rw [hm]
  rcases (show r = 0 ∨ r = 1 ∨ r = 2 ∨ r = 3 by omega) with rfl | rfl | rfl | rfl
  · rw [Nat.add_zero, (wor0 l g).1, (wor0 l g).2]; simp
  · rw [(wor1 l g).1, (wor1 l g).2, Nat.or_comm, nat_join 8 _ _ (by omega) (by omega)]; omega
  · rw [(wor2 l g).1, (wor2 l g).2, Nat.or_comm, nat_join 16 _ _ (by omega) (by omega)]; omega
  · rw [(wor3 l g).1, (wor3 l g).2, Nat.or_comm, nat_join 24 _ _ (by omega) (by omega)]; omega

theorem range_block {w : World} {p : Nat} {q : Quad} {bl : List Nat} {n : Nat} {t : TypeId} (h : Blk w p (mdCells q bl n) t) : w.rangeAt p 4 (bl.map byteV) := by
  intro j v hv
  have hj : j < bl.length := by
    rcases Nat.lt_or_ge j bl.length with h | h
    · exact h
    · rw [List.getElem?_eq_none (by simpa using h)] at hv; cases hv
  rw [h.cell (4 + j), mdCells_block q bl n j hj]
  rw [List.getElem?_map, List.getElem?_eq_getElem hj] at hv
  rw [List.getD_eq_getElem?_getD, List.getElem?_eq_getElem hj]
  exact hv

theorem wCells_zero (l : List Nat) : wCells l 0 = #[.int .u32 0, .int .u32 0, .int .u32 0, .int .u32 0, .int .u32 0, .int .u32 0, .int .u32 0, .int .u32 0, .int .u32 0, .int .u32 0, .int .u32 0, .int .u32 0, .int .u32 0, .int .u32 0, .int .u32 0, .int .u32 0] := by
  unfold wCells
  simp only [wpart_zero]
  rfl

/-- What holds while the words are gathered. -/
def WordsW (w : World) (bl : List Nat) (k : Nat) (wr : World) : Prop :=
  Below w.heap.size w wr ∧ Blk wr w.heap.size #[.int .u32 0, .int .u32 0, .int .u32 0, .int .u32 0, .int .u32 0, .int .u32 0, .int .u32 0, .int .u32 0, .int .u32 0, .int .u32 0, .int .u32 0, .int .u32 0, .int .u32 0, .int .u32 0, .int .u32 0, .int .u32 0] 250 ∧ Blk wr (w.heap.size + 1) (wCells bl k) 250

theorem WordsW.next {w wr : World} {bl : List Nat} {k : Nat} (h : WordsW w bl k wr) (hk : k < 64) : WordsW w bl (k + 1) (wr.setCell ⟨w.heap.size + 1, k / 4, none⟩ (.int .u32 (wpart bl (k + 1) (k / 4) : Nat))) :=
  ⟨h.1.setCell (p := ⟨w.heap.size + 1, k / 4, none⟩) (by simp) _, h.2.1.other (p := ⟨w.heap.size + 1, k / 4, none⟩) (by simp) _, by rw [← wCells_next bl k hk]; exact h.2.2.set _ _⟩
theorem WordsW.drew {w wr : World} {bl : List Nat} {k : Nat} (h : WordsW w bl k wr) : WordsW w bl k wr.drew := ⟨h.1.drew, h.2.1.drew, h.2.2.drew⟩

theorem or32_at (y v z m : Nat) (hy : y < 4294967296) (hv : v * m < 4294967296) (h : y ||| v * m = z) : bits .or .u32 (y : Int) ((v : Int) * (m : Int)) = (z : Int) := by
  have := u32_or_nat y (v * m) hy hv
  rw [h, Int.natCast_mul] at this
  exact this

theorem below_setCells {B b : Nat} {a : World} (hB : B ≤ b) : ∀ (vs : List Value) (o : Nat) (w : World), Below B a w → Below B a (w.setCells b o vs)
  | [], _, _, h => h
  | v :: r, o, _, h => below_setCells hB r (o + 1) _ (h.setCell (p := ⟨b, o, none⟩) hB v)
theorem range_whole {w : World} {b : Nat} {cs : Array Value} {t : TypeId} (h : Blk w b cs t) : w.rangeAt b 0 cs.toList := by
  intro j v hv
  rw [Nat.zero_add, h.cell j, ← hv, Array.getElem?_toList]
theorem there_whole {w : World} {b n : Nat} {cs : Array Value} {t : TypeId} (h : Blk w b cs t) (hn : n ≤ cs.size) : w.there b 0 n := by
  intro j hj
  rw [Nat.zero_add, h.cell j]
  exact ⟨by rw [Array.getElem?_eq_getElem (by omega)]; rfl, h.free j⟩
theorem wCells_one (l : List Nat) (k : Nat) : (wCells l k).all (·.oneCell') = true := by
  unfold wCells
  refine all_oneCell_toArray ?_
  intro v hv
  obtain ⟨g, _, rfl⟩ := List.mem_map.1 hv
  rfl

set_option maxHeartbeats 2000000 in
set_option maxRecDepth 10000 in
theorem words_any (p : Nat) (q : Quad) (bl : List Nat) (n : Nat) (h64 : bl.length = 64) (hbl : ∀ x ∈ bl, x < 256) (w : World) (hB : Blk w p (mdCells q bl n) 197) :
    Calls Tryz.prog 123 #[.pointer (some ⟨p, 0, none⟩)] w fun e w' => e = .returned (.agg (wCells bl 64)) ∧ Below w.heap.size w w' := by
  have hr : ∀ o1 o2, ((w.alloc o1).alloc o2).rangeAt p 4 (bl.map byteV) := fun o1 o2 => range_block ((hB.alloc o1).alloc o2)
  have HR : Hid (∀ o1 o2, ((w.alloc o1).alloc o2).rangeAt p 4 (bl.map byteV)) := hr
  clear hr
  have hlen : (Tryz.prog.info? 195).map (·.size) = some (bl.map byteV).length := by rw [List.length_map, h64]; kernel_rfl
  go_enter Tryz.func123, Tryz.ntmps123
  go_wp2_with (refine wpList_load_mid rfl 195 _ rfl p 4 rfl (bl.map byteV) _ (HR.out _ _) Tryz.underlying195 rfl hlen ?_)
  go_loopw [10] (fun i wr => ∃ k : Nat, k ≤ 64 ∧ i = .int .i64 k ∧ WordsW w bl k wr) (fun i _ => 64 - (intOf i).toNat)
  case atStart => exact ⟨0, by omega, rfl, by go_grown, (Blk.new _ _ _).alloc _, by
    rw [wCells_zero]
    have h := Blk.new (w.alloc (.cells #[.int .u32 0, .int .u32 0, .int .u32 0, .int .u32 0, .int .u32 0, .int .u32 0, .int .u32 0, .int .u32 0, .int .u32 0, .int .u32 0, .int .u32 0, .int .u32 0, .int .u32 0, .int .u32 0, .int .u32 0, .int .u32 0] 250)) #[.int .u32 0, .int .u32 0, .int .u32 0, .int .u32 0, .int .u32 0, .int .u32 0, .int .u32 0, .int .u32 0, .int .u32 0, .int .u32 0, .int .u32 0, .int .u32 0, .int .u32 0, .int .u32 0, .int .u32 0, .int .u32 0] 250
    rw [World.size_alloc] at h
    exact h⟩
  case round =>
    obtain ⟨k, hk, rfl, hW⟩ := hrel
    by_cases hlt : k < 64
    · have hidx := idx_arr (P := Tryz.prog) (t := 195) Tryz.underlying195 Tryz.underlying5 (by kernel_rfl) (bl.map byteV).toArray k (.int .u8 (bl.getD k 0 : Nat)) hlt (by rw [List.getElem?_toArray, List.getElem?_map, List.getElem?_eq_getElem (by omega), List.getD_eq_getElem?_getD, List.getElem?_eq_getElem (by omega)]; rfl)
      have hv := byte_lt hbl k
      have hz := wor bl hbl k
      have hy : wpart bl k (k / 4) < 4294967296 := by
        have b0 := byte_lt hbl (4 * (k / 4)); have b1 := byte_lt hbl (4 * (k / 4) + 1); have b2 := byte_lt hbl (4 * (k / 4) + 2); have b3 := byte_lt hbl (4 * (k / 4) + 3)
        unfold wpart
        split <;> split <;> split <;> split <;> omega
      have hc := hW.2.2.cell (k / 4)
      have hf := hW.2.2.free (k / 4)
      rw [wCells_get _ _ _ (by omega)] at hc
      have HN : Hid (WordsW w bl (k + 1) (wr.setCell ⟨w.heap.size + 1, k / 4, none⟩ (.int .u32 (wpart bl (k + 1) (k / 4) : Nat)))) := hW.next hlt
      have h4 : (k : Int) / 4 = ((k / 4 : Nat) : Int) := by omega
      have hg16 : k / 4 < 16 := by omega
      generalize bl.getD k 0 = v at hidx hv hz
      generalize wpart bl k (k / 4) = y at hy hz hc
      generalize wpart bl (k + 1) (k / 4) = z at hz HN
      generalize k / 4 = g at hc hf h4 hg16 HN
      have hlt' : (k : Int) < 64 := by omega
      have hg' : (g : Int) < 16 := by omega
      rcases (show k % 4 = 0 ∨ k % 4 = 1 ∨ k % 4 = 2 ∨ k % 4 = 3 by omega) with hm | hm | hm | hm
      all_goals
        rw [hm] at hz
        simp only [Nat.reduceMul, Nat.reducePow] at hz
      · have h5 : (k : Int) % 4 = 0 := by omega
        have hor := or32_at y v z 1 hy (by omega) hz
        simp only [Int.cast_ofNat_Int, Int.mul_one] at hor
        clear hz hm
        go_wp2
        go_region
        go_wp2
        go_roundw
        case rel => exact ⟨k + 1, by omega, by go_num, HN.out.drew⟩
        case measure => simp [intOf]; omega
      · have h5 : (k : Int) % 4 = 1 := by omega
        have hor := or32_at y v z 256 hy (by omega) hz
        simp only [Int.cast_ofNat_Int] at hor
        clear hz hm
        go_wp2
        go_region
        go_wp2
        go_roundw
        case rel => exact ⟨k + 1, by omega, by go_num, HN.out.drew⟩
        case measure => simp [intOf]; omega
      · have h5 : (k : Int) % 4 = 2 := by omega
        have hor := or32_at y v z 65536 hy (by omega) hz
        simp only [Int.cast_ofNat_Int] at hor
        clear hz hm
        go_wp2
        go_region
        go_wp2
        go_roundw
        case rel => exact ⟨k + 1, by omega, by go_num, HN.out.drew⟩
        case measure => simp [intOf]; omega
      · have h5 : (k : Int) % 4 = 3 := by omega
        have hor := or32_at y v z 16777216 hy (by omega) hz
        simp only [Int.cast_ofNat_Int] at hor
        clear hz hm
        go_wp2
        go_region
        go_wp2
        go_roundw
        case rel => exact ⟨k + 1, by omega, by go_num, HN.out.drew⟩
        case measure => simp [intOf]; omega
    · obtain rfl : k = 64 := by omega
      have hone := wCells_one bl 64
      have hsz := wCells_size bl 64
      have hB2 := hW.2.2
      have hB1 := hW.2.1
      have hbl0 := hW.1
      clear hW
      have HC : Hid (wCells bl 64 = (wCells bl 64).toList.toArray) := (Array.toArray_toList).symm
      have h16 : (wCells bl 64).toList.length = 16 := by rw [Array.length_toList]; exact hsz
      rw [← Array.toArray_toList (xs := wCells bl 64)] at hone hsz hB2
      generalize (wCells bl 64).toList = L at hone hsz hB2 h16 HC
      have hr2 : wr.rangeAt (w.heap.size + 1) 0 L := by have h := range_whole hB2; rwa [List.toList_toArray] at h
      have hinfo : (Tryz.prog.info? 250).map (·.size) = some L.length := by rw [h16]; kernel_rfl
      have hinfo' : (Tryz.prog.info? 250).map (·.size) = some L.toArray.size := by rw [hsz]; kernel_rfl
      have hth : wr.there w.heap.size 0 L.toArray.size := there_whole hB1 (by rw [hsz]; decide)
      have HR2 : Hid (wr.rangeAt (w.heap.size + 1) 0 L) := hr2
      have HTH : Hid (wr.there w.heap.size 0 L.toArray.size) := hth
      have HI : Hid ((Tryz.prog.info? 250).map (·.size) = some L.length) := hinfo
      have HI' : Hid ((Tryz.prog.info? 250).map (·.size) = some L.toArray.size) := hinfo'
      have HO : Hid (L.toArray.all (·.oneCell') = true) := hone
      clear hr2 hinfo hinfo' hone hsz h16 hB2 hB1 hth
      go_wp2_with (first
        | (refine wpList_load_mid rfl 250 _ rfl (w.heap.size + 1) 0 rfl L _ HR2.out Tryz.underlying250 rfl HI.out ?_)
        | (refine wpList_store_mid rfl 250 _ _ rfl w.heap.size 0 L.toArray rfl rfl HTH.out HI'.out HO.out ?_))
      have hload := run_loadVar_mid (P := Tryz.prog) (wr.setCells w.heap.size 0 L) w.heap.size 0 250 L _ (World.rangeAt_setCells_same wr w.heap.size 0 L (by simpa using HTH.out)) Tryz.underlying250 rfl HI.out
      refine bodyPost_ret (v := .agg L.toArray) (by simp [results, Tryz.results123, asAddr, Act.put, hload]) rfl ?_
      refine ⟨by rw [HC.out], ?_⟩
      exact below_setCells (Nat.le_refl _) _ _ _ hbl0
end Go.Proofs.YtgkenhmbilkhdaaGreatDoor
