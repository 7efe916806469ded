import Derived.Test.YtgkenhmbilkhdaaGreatDoorGLawOpens
namespace Go.Proofs.YtgkenhmbilkhdaaGreatDoor
open Go.RowKit

set_option maxHeartbeats 8000000 in
set_option maxRecDepth 100000 in
theorem base10_45 (w : World) (b u nd : Nat) (hu : u < 2097152) (hR : R24 w b) (hnd : nd = 4 ∨ nd = 5) :
    Calls Tryz.prog 243 #[.slice (some ⟨b, 1, none⟩) nd 23, .int .u64 u] w fun e w' => e = .returned (.tuple #[]) ∧ R24 w' b ∧ Kept b w w' := by
  obtain ⟨z1, h1⟩ := hR.cell 1 (by omega)
  obtain ⟨z2, h2⟩ := hR.cell 2 (by omega)
  obtain ⟨z3, h3⟩ := hR.cell 3 (by omega)
  obtain ⟨z4, h4⟩ := hR.cell 4 (by omega)
  obtain ⟨z5, h5⟩ := hR.cell 5 (by omega)
  obtain ⟨z6, h6⟩ := hR.cell 6 (by omega)
  obtain ⟨z7, h7⟩ := hR.cell 7 (by omega)
  have f1 := hR.free 1
  have f2 := hR.free 2
  have f3 := hR.free 3
  have f4 := hR.free 4
  have f5 := hR.free 5
  have f6 := hR.free 6
  have f7 := hR.free 7
  have hu' : (u : Int) < 2097152 := by omega
  rcases hnd with rfl | rfl
  all_goals
    go_enter Tryz.func243, Tryz.ntmps243
    go_name_bytes SM hSM
    have eSM : SM = Lib.smalls := by rw [← hSM]; decide +kernel
    subst eSM
    clear hSM
    go_wp2
    refine wp_loop_rounds 1 ?_
    rw [rounds_succ]
    go_wp2
    go_name_slot 15 x15 hx15
    have ha15 : 0 ≤ x15 := by omega
    have hb15 : x15 ≤ 198 := by omega
    have hA15 : ∀ w, (Instr.index 9 (.string Lib.smalls) (.int .u32 (x15 + 1))).run Tryz.prog w = .ok (.int .u8 ((Lib.sm (x15.toNat + 1)).toNat : Int)) w := Lib.idx_smalls 9 Tryz.underlying9 .u32 _ _ (by omega) (by omega)
    have hB15 : ∀ w, (Instr.index 9 (.string Lib.smalls) (.int .u32 x15)).run Tryz.prog w = .ok (.int .u8 ((Lib.sm x15.toNat).toNat : Int)) w := Lib.idx_smalls 9 Tryz.underlying9 .u32 _ _ (by omega) (by omega)
    generalize ((Lib.sm (x15.toNat + 1)).toNat : Int) = yA15 at hA15
    generalize ((Lib.sm x15.toNat).toNat : Int) = yB15 at hB15
    clear hx15
    go_name_slot 14 x14 hx14
    have ha14 : 0 ≤ x14 := by omega
    have hb14 : x14 ≤ 198 := by omega
    have hA14 : ∀ w, (Instr.index 9 (.string Lib.smalls) (.int .u32 (x14 + 1))).run Tryz.prog w = .ok (.int .u8 ((Lib.sm (x14.toNat + 1)).toNat : Int)) w := Lib.idx_smalls 9 Tryz.underlying9 .u32 _ _ (by omega) (by omega)
    have hB14 : ∀ w, (Instr.index 9 (.string Lib.smalls) (.int .u32 x14)).run Tryz.prog w = .ok (.int .u8 ((Lib.sm x14.toNat).toNat : Int)) w := Lib.idx_smalls 9 Tryz.underlying9 .u32 _ _ (by omega) (by omega)
    generalize ((Lib.sm (x14.toNat + 1)).toNat : Int) = yA14 at hA14
    generalize ((Lib.sm x14.toNat).toNat : Int) = yB14 at hB14
    clear hx14
    go_region
    go_wp2
    go_region
    go_wp2
    go_end0
    exact ⟨rfl, by repeat (first | (with_reducible exact hR) | (with_reducible apply R24.drew) | (with_reducible apply R24.set)), by repeat (first | (with_reducible exact Kept.refl _ _) | (with_reducible apply Kept.drew) | (with_reducible apply Kept.setCell))⟩
end Go.Proofs.YtgkenhmbilkhdaaGreatDoor

namespace Go.Proofs.YtgkenhmbilkhdaaGreatDoor
open Go.RowKit

set_option maxHeartbeats 8000000 in
set_option maxRecDepth 100000 in
theorem base10_67 (w : World) (b u nd : Nat) (hu : u < 2097152) (hR : R24 w b) (hnd : nd = 6 ∨ nd = 7) :
    Calls Tryz.prog 243 #[.slice (some ⟨b, 1, none⟩) nd 23, .int .u64 u] w fun e w' => e = .returned (.tuple #[]) ∧ R24 w' b ∧ Kept b w w' := by
  obtain ⟨z1, h1⟩ := hR.cell 1 (by omega)
  obtain ⟨z2, h2⟩ := hR.cell 2 (by omega)
  obtain ⟨z3, h3⟩ := hR.cell 3 (by omega)
  obtain ⟨z4, h4⟩ := hR.cell 4 (by omega)
  obtain ⟨z5, h5⟩ := hR.cell 5 (by omega)
  obtain ⟨z6, h6⟩ := hR.cell 6 (by omega)
  obtain ⟨z7, h7⟩ := hR.cell 7 (by omega)
  have f1 := hR.free 1
  have f2 := hR.free 2
  have f3 := hR.free 3
  have f4 := hR.free 4
  have f5 := hR.free 5
  have f6 := hR.free 6
  have f7 := hR.free 7
  have hu' : (u : Int) < 2097152 := by omega
  rcases hnd with rfl | rfl
  all_goals
    go_enter Tryz.func243, Tryz.ntmps243
    go_name_bytes SM hSM
    have eSM : SM = Lib.smalls := by rw [← hSM]; decide +kernel
    subst eSM
    clear hSM
    go_wp2
    refine wp_loop_rounds 1 ?_
    rw [rounds_succ]
    go_wp2
    go_name_slot 15 x15 hx15
    have ha15 : 0 ≤ x15 := by omega
    have hb15 : x15 ≤ 198 := by omega
    have hA15 : ∀ w, (Instr.index 9 (.string Lib.smalls) (.int .u32 (x15 + 1))).run Tryz.prog w = .ok (.int .u8 ((Lib.sm (x15.toNat + 1)).toNat : Int)) w := Lib.idx_smalls 9 Tryz.underlying9 .u32 _ _ (by omega) (by omega)
    have hB15 : ∀ w, (Instr.index 9 (.string Lib.smalls) (.int .u32 x15)).run Tryz.prog w = .ok (.int .u8 ((Lib.sm x15.toNat).toNat : Int)) w := Lib.idx_smalls 9 Tryz.underlying9 .u32 _ _ (by omega) (by omega)
    generalize ((Lib.sm (x15.toNat + 1)).toNat : Int) = yA15 at hA15
    generalize ((Lib.sm x15.toNat).toNat : Int) = yB15 at hB15
    clear hx15
    go_name_slot 14 x14 hx14
    have ha14 : 0 ≤ x14 := by omega
    have hb14 : x14 ≤ 198 := by omega
    have hA14 : ∀ w, (Instr.index 9 (.string Lib.smalls) (.int .u32 (x14 + 1))).run Tryz.prog w = .ok (.int .u8 ((Lib.sm (x14.toNat + 1)).toNat : Int)) w := Lib.idx_smalls 9 Tryz.underlying9 .u32 _ _ (by omega) (by omega)
    have hB14 : ∀ w, (Instr.index 9 (.string Lib.smalls) (.int .u32 x14)).run Tryz.prog w = .ok (.int .u8 ((Lib.sm x14.toNat).toNat : Int)) w := Lib.idx_smalls 9 Tryz.underlying9 .u32 _ _ (by omega) (by omega)
    generalize ((Lib.sm (x14.toNat + 1)).toNat : Int) = yA14 at hA14
    generalize ((Lib.sm x14.toNat).toNat : Int) = yB14 at hB14
    clear hx14
    go_region
    go_wp2
    go_region
    go_wp2
    go_name_slot 16 x16 hx16
    have ha16 : 0 ≤ x16 := by omega
    have hb16 : x16 ≤ 198 := by omega
    have hA16 : ∀ w, (Instr.index 9 (.string Lib.smalls) (.int .u32 (x16 + 1))).run Tryz.prog w = .ok (.int .u8 ((Lib.sm (x16.toNat + 1)).toNat : Int)) w := Lib.idx_smalls 9 Tryz.underlying9 .u32 _ _ (by omega) (by omega)
    have hB16 : ∀ w, (Instr.index 9 (.string Lib.smalls) (.int .u32 x16)).run Tryz.prog w = .ok (.int .u8 ((Lib.sm x16.toNat).toNat : Int)) w := Lib.idx_smalls 9 Tryz.underlying9 .u32 _ _ (by omega) (by omega)
    generalize ((Lib.sm (x16.toNat + 1)).toNat : Int) = yA16 at hA16
    generalize ((Lib.sm x16.toNat).toNat : Int) = yB16 at hB16
    clear hx16
    go_region
    go_wp2
    go_end0
    exact ⟨rfl, by repeat (first | (with_reducible exact hR) | (with_reducible apply R24.drew) | (with_reducible apply R24.set)), by repeat (first | (with_reducible exact Kept.refl _ _) | (with_reducible apply Kept.drew) | (with_reducible apply Kept.setCell))⟩
end Go.Proofs.YtgkenhmbilkhdaaGreatDoor

namespace Go.Proofs.YtgkenhmbilkhdaaGreatDoor
open Go.RowKit

theorem base10_any (w : World) (b u nd : Nat) (hu : u < 2097152) (hR : R24 w b) (hnd : nd ≤ 7) :
    Calls Tryz.prog 243 #[.slice (some ⟨b, 1, none⟩) nd 23, .int .u64 u] w fun e w' => e = .returned (.tuple #[]) ∧ R24 w' b ∧ Kept b w w' := by
  rcases (show nd < 2 ∨ (nd = 2 ∨ nd = 3) ∨ (nd = 4 ∨ nd = 5) ∨ (nd = 6 ∨ nd = 7) by omega) with h | h | h | h
  · exact base10_lt2 w b u nd hu hR h
  · exact base10_23 w b u nd hu hR h
  · exact base10_45 w b u nd hu hR h
  · exact base10_67 w b u nd hu hR h

theorem R24.new (w : World) : R24 (w.alloc (.cells #[.int .u8 0, .int .u8 0, .int .u8 0, .int .u8 0, .int .u8 0, .int .u8 0, .int .u8 0, .int .u8 0, .int .u8 0, .int .u8 0, .int .u8 0, .int .u8 0, .int .u8 0, .int .u8 0, .int .u8 0, .int .u8 0, .int .u8 0, .int .u8 0, .int .u8 0, .int .u8 0, .int .u8 0, .int .u8 0, .int .u8 0, .int .u8 0] 340)) w.heap.size := by
  refine ⟨_, Blk.new _ _ _, fun i hi => ⟨0, ?_⟩⟩
  rw [show (#[Value.int .u8 0, .int .u8 0, .int .u8 0, .int .u8 0, .int .u8 0, .int .u8 0, .int .u8 0, .int .u8 0, .int .u8 0, .int .u8 0, .int .u8 0, .int .u8 0, .int .u8 0, .int .u8 0, .int .u8 0, .int .u8 0, .int .u8 0, .int .u8 0, .int .u8 0, .int .u8 0, .int .u8 0, .int .u8 0, .int .u8 0, .int .u8 0] : Array Value) = Array.replicate 24 (.int .u8 0) from rfl, Array.getElem?_replicate, if_pos hi]

theorem R24.nums {w : World} {b : Nat} (h : R24 w b) (n : Nat) (hn : n ≤ 7) : ∃ l : List Int, l.length = n ∧ ∀ i, i < n → w.cell? ⟨b, 1 + i, none⟩ = some (.int .u8 (l.getD i 0)) := by
  refine ⟨(List.range n).map fun i => match w.cell? ⟨b, 1 + i, none⟩ with | some (.int .u8 z) => z | _ => 0, by simp, fun i hi => ?_⟩
  obtain ⟨z, hz⟩ := h.cell (1 + i) (by omega)
  rw [hz, List.getD_eq_getElem?_getD, List.getElem?_map, List.getElem?_range hi]
  simp [hz]

set_option maxHeartbeats 1000000 in
set_option maxRecDepth 100000 in
theorem fmt_pos (n : Nat) (h0 : 100 ≤ n) (h1 : n < 2097152) : FmtOk (n : Int) := by
  intro w ht
  have g0 : decide ((n : Int) < 100) = false := by simp; omega
  have G1 := hid h1
  have HN := hid (fun W (hW : Tab W) => numDigits_any n h1 W hW)
  have hwu : IntKind.u64.wrap (n : Int) = (n : Int) := by rw [IntKind.wrap_u64]; omega
  clear h0 h1
  go_enter Tryz.func240, Tryz.ntmps240
  go_wp2_with fail
  refine (HN.out _ (ht.below ht.lt (by go_grown))).mono ?_
  rintro e w1 ⟨nd, hnd, rfl, rfl⟩
  have HB := hid (fun nd hnd => base10_any _ w.heap.size n nd G1.out (R24.new w) hnd)
  rcases (show nd = 0 ∨ nd = 1 ∨ nd = 2 ∨ nd = 3 ∨ nd = 4 ∨ nd = 5 ∨ nd = 6 ∨ nd = 7 by omega) with rfl | rfl | rfl | rfl | rfl | rfl | rfl | rfl
  · clear hnd
    go_wp2_with fail
    refine (HB.out 0 (by omega)).mono ?_
    rintro e w2 ⟨rfl, hR2, hK2⟩
    obtain ⟨l, hl, hcell⟩ := hR2.nums 0 (by omega)
    have hcv := run_convert_bytes_arg (P := Tryz.prog) w2 136 5 Tryz.underlying136 Tryz.underlying5 w.heap.size 1 0 23 l hl hcell 9 Tryz.underlying9
    have HL := hid hl
    clear hl hcell
    go_wp2
    go_ret
    refine ⟨_, rfl, by rw [strOfNums_size, HL.out]; omega, ?_⟩
    exact Below.trans (by go_grown) (hK2.below (Nat.le_refl _) (by simp))
  · clear hnd
    go_wp2_with fail
    refine (HB.out 1 (by omega)).mono ?_
    rintro e w2 ⟨rfl, hR2, hK2⟩
    obtain ⟨l, hl, hcell⟩ := hR2.nums 1 (by omega)
    have hcv := run_convert_bytes_arg (P := Tryz.prog) w2 136 5 Tryz.underlying136 Tryz.underlying5 w.heap.size 1 1 23 l hl hcell 9 Tryz.underlying9
    have HL := hid hl
    clear hl hcell
    go_wp2
    go_ret
    refine ⟨_, rfl, by rw [strOfNums_size, HL.out]; omega, ?_⟩
    exact Below.trans (by go_grown) (hK2.below (Nat.le_refl _) (by simp))
  · clear hnd
    go_wp2_with fail
    refine (HB.out 2 (by omega)).mono ?_
    rintro e w2 ⟨rfl, hR2, hK2⟩
    obtain ⟨l, hl, hcell⟩ := hR2.nums 2 (by omega)
    have hcv := run_convert_bytes_arg (P := Tryz.prog) w2 136 5 Tryz.underlying136 Tryz.underlying5 w.heap.size 1 2 23 l hl hcell 9 Tryz.underlying9
    have HL := hid hl
    clear hl hcell
    go_wp2
    go_ret
    refine ⟨_, rfl, by rw [strOfNums_size, HL.out]; omega, ?_⟩
    exact Below.trans (by go_grown) (hK2.below (Nat.le_refl _) (by simp))
  · clear hnd
    go_wp2_with fail
    refine (HB.out 3 (by omega)).mono ?_
    rintro e w2 ⟨rfl, hR2, hK2⟩
    obtain ⟨l, hl, hcell⟩ := hR2.nums 3 (by omega)
    have hcv := run_convert_bytes_arg (P := Tryz.prog) w2 136 5 Tryz.underlying136 Tryz.underlying5 w.heap.size 1 3 23 l hl hcell 9 Tryz.underlying9
    have HL := hid hl
    clear hl hcell
    go_wp2
    go_ret
    refine ⟨_, rfl, by rw [strOfNums_size, HL.out]; omega, ?_⟩
    exact Below.trans (by go_grown) (hK2.below (Nat.le_refl _) (by simp))
  · clear hnd
    go_wp2_with fail
    refine (HB.out 4 (by omega)).mono ?_
    rintro e w2 ⟨rfl, hR2, hK2⟩
    obtain ⟨l, hl, hcell⟩ := hR2.nums 4 (by omega)
    have hcv := run_convert_bytes_arg (P := Tryz.prog) w2 136 5 Tryz.underlying136 Tryz.underlying5 w.heap.size 1 4 23 l hl hcell 9 Tryz.underlying9
    have HL := hid hl
    clear hl hcell
    go_wp2
    go_ret
    refine ⟨_, rfl, by rw [strOfNums_size, HL.out]; omega, ?_⟩
    exact Below.trans (by go_grown) (hK2.below (Nat.le_refl _) (by simp))
  · clear hnd
    go_wp2_with fail
    refine (HB.out 5 (by omega)).mono ?_
    rintro e w2 ⟨rfl, hR2, hK2⟩
    obtain ⟨l, hl, hcell⟩ := hR2.nums 5 (by omega)
    have hcv := run_convert_bytes_arg (P := Tryz.prog) w2 136 5 Tryz.underlying136 Tryz.underlying5 w.heap.size 1 5 23 l hl hcell 9 Tryz.underlying9
    have HL := hid hl
    clear hl hcell
    go_wp2
    go_ret
    refine ⟨_, rfl, by rw [strOfNums_size, HL.out]; omega, ?_⟩
    exact Below.trans (by go_grown) (hK2.below (Nat.le_refl _) (by simp))
  · clear hnd
    go_wp2_with fail
    refine (HB.out 6 (by omega)).mono ?_
    rintro e w2 ⟨rfl, hR2, hK2⟩
    obtain ⟨l, hl, hcell⟩ := hR2.nums 6 (by omega)
    have hcv := run_convert_bytes_arg (P := Tryz.prog) w2 136 5 Tryz.underlying136 Tryz.underlying5 w.heap.size 1 6 23 l hl hcell 9 Tryz.underlying9
    have HL := hid hl
    clear hl hcell
    go_wp2
    go_ret
    refine ⟨_, rfl, by rw [strOfNums_size, HL.out]; omega, ?_⟩
    exact Below.trans (by go_grown) (hK2.below (Nat.le_refl _) (by simp))
  · clear hnd
    go_wp2_with fail
    refine (HB.out 7 (by omega)).mono ?_
    rintro e w2 ⟨rfl, hR2, hK2⟩
    obtain ⟨l, hl, hcell⟩ := hR2.nums 7 (by omega)
    have hcv := run_convert_bytes_arg (P := Tryz.prog) w2 136 5 Tryz.underlying136 Tryz.underlying5 w.heap.size 1 7 23 l hl hcell 9 Tryz.underlying9
    have HL := hid hl
    clear hl hcell
    go_wp2
    go_ret
    refine ⟨_, rfl, by rw [strOfNums_size, HL.out]; omega, ?_⟩
    exact Below.trans (by go_grown) (hK2.below (Nat.le_refl _) (by simp))
set_option maxRecDepth 100000 in
theorem fmt_small (n : Nat) (h : n < 100) : FmtOk (n : Int) := by
  intro w ht
  have g0 : decide ((n : Int) < 100) = true := by simp; omega
  have g00 : (n : Int) < 100 := by omega
  by_cases h10 : n < 10
  · have g1 : (n : Int) < 10 := by omega
    go_enter Tryz.func240, Tryz.ntmps240
    go_wp2
    go_ret
    exact ⟨_, rfl, by simp [ByteArray.size_extract]; omega, Below.refl _ _⟩
  · have g1 : ¬ (n : Int) < 10 := by omega
    go_enter Tryz.func240, Tryz.ntmps240
    go_wp2
    go_ret
    exact ⟨_, rfl, by simp [ByteArray.size_extract]; omega, Below.refl _ _⟩
theorem itoa_all (n : Nat) (h : n ≤ 1048576) : ItoaOk (n : Int) := by
  refine itoa_of _ ?_ (by omega) (by omega)
  by_cases h0 : n < 100
  · exact fmt_small n h0
  · exact fmt_pos n (by omega) (by omega)
end Go.Proofs.YtgkenhmbilkhdaaGreatDoor
