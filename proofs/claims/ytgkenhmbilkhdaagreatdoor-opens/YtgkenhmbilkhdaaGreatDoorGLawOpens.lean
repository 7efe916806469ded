import Derived.Test.YtgkenhmbilkhdaaGreatDoorRefOpen3
import Derived.Test.YtgkenhmbilkhdaaGreatDoorGRefuse
import Derived.Test.YtgkenhmbilkhdaaGreatDoorGItoa
import Derived.Test.YtgkenhmbilkhdaaGreatDoorMd5Mix
import Derived.Test.YtgkenhmbilkhdaaGreatDoorGFastWord
import Derived.Lib.ItoaWalk
import Derived.BigRegion
namespace Go.Proofs.YtgkenhmbilkhdaaGreatDoor
open Go.RowKit

theorem same_eq (x f a : Int) (w : World) : Calls Tryz.prog 22 #[faultV x f a, faultV x f a] w fun e w' => e = .returned (.bool true) ∧ Below w.heap.size w w' := by
  unfold faultV
  by_cases h1 : x = 1
  · subst h1
    go_enter Tryz.func22, Tryz.ntmps22
    go_wp2
    go_ret
    exact ⟨rfl, by go_grown⟩
  · have h1' : (x == 1) = false := by simp [h1]
    go_enter Tryz.func22, Tryz.ntmps22
    go_wp2
    go_ret
    exact ⟨rfl, by go_grown⟩

theorem refInfo_range {w : World} {mb sb : Nat} {d : RefD} {t : TypeId} (h : Blk w mb (rdecCells sb d) t) : w.rangeAt mb 1 (infoL d.info) := by
  refine h.range 1 _ fun j v hv => ?_
  rcases j with _ | _ | _ | _ | _ | _ | _ | _ | _ | j
  all_goals first | exact hv | cases hv

set_option maxRecDepth 10000 in
set_option maxHeartbeats 4000000 in
theorem stands_yes {C : Cx} {db dp c mb sb : Nat} (hc : C.c = c) {d : DecS} {m : RefD} {Bs : List Bk} {pos : Nat} {w : World} (hi : m.info = d.info) (hb : m.byte = d.byte) (hS : St C (⟨db, pdCells dp c, 96⟩ :: dB C dp d :: Bs) pos w) (hM : Blk w mb (rdecCells sb m) 113) :
    Calls Tryz.prog 23 #[.pointer (some ⟨db, 0, none⟩), .pointer (some ⟨mb, 0, none⟩)] w fun e w' => e = .returned (.bool true) ∧ Below w.heap.size w w' := by
  have HI := hid info_size
  have HA := hid about_size
  have HS := hid hS
  have HM := hid hM
  obtain ⟨i, hii⟩ : ∃ i, i = d.info := ⟨_, rfl⟩
  have HIE := hid hii
  have HPI := hid (pdInfo C.k C.p dp c db d w hS.head hS.tail.head)
  rw [← hii] at HPI hi
  have HMI := hid hi
  have HMB := hid hb
  clear hS hM hii hi hb
  go_enter Tryz.func23, Tryz.ntmps23
  go_wp2_with fail
  refine HPI.out.mono ?_
  rintro e w1 ⟨rfl, hb1⟩
  have HB1 := hid hb1
  clear hb1 HPI
  go_wp2_with (refine wpList_store_blk rfl 121 _ _ rfl (Blk.new _ _ _) 0 (infoL i) (Nat.le_of_ble_eq_true rfl) HI.out rfl rfl (info_one _) ?_; intro W2 hK2 hW2)
  rw [setFrom_info] at hW2
  have hbW2 : Below w.heap.size w W2 := by
    have h0 : Below w.heap.size w (w1.alloc (.cells #[.int .i64 0, .int .i64 0, .int .i64 0, .int .i64 0, .int .i64 0, .int .i64 0, .int .i64 0, .int .i64 0, .string ⟨#[]⟩] 121)) := HB1.out.alloc HB1.out.size _
    exact h0.trans (hK2.below (by simpa using HB1.out.size) h0.size)
  have hS2 := HS.out.below hbW2
  have hM2 := HM.out.below hbW2 HM.out.lt
  have x0 : W2.cell? ⟨w1.heap.size, 0, none⟩ = some (.int .i64 (i.minB : Int)) := hW2.cell 0
  have x1 : W2.cell? ⟨w1.heap.size, 1, none⟩ = some (.int .i64 (i.maxB : Int)) := hW2.cell 1
  have HS2 := hid hS2
  have HM2 := hid hM2
  have HW2 := hid hW2
  have HB2 := hid hbW2
  clear hK2 hW2 hbW2 hS2 hM2 x0 x1
  go_wp2_with fail
  refine (pdAt C.k C.p dp c db d W2 HS2.out.head HS2.out.tail.head).mono ?_
  rintro e w3 ⟨rfl, rfl⟩
  go_wp2_with fail
  refine (pdOdd dp c db hc w3 HS2.out.head HS2.out).mono ?_
  rintro e w4 ⟨rfl, rfl⟩
  have hir : w4.rangeAt mb 1 (infoL i) := by rw [← HMI.out]; exact refInfo_range HM2.out
  have HIR := hid hir
  clear hir
  go_upto_region 4 with fail
  go_wp2_with (first
    | (refine wpList_load_mid rfl 111 _ rfl mb 1 rfl (infoL i) _ HIR.out Tryz.underlying111 rfl HA.out ?_)
    | (refine wpList_store_blk rfl 111 _ _ rfl (Blk.new _ _ _) 0 (infoL i) (Nat.le_of_ble_eq_true rfl) HA.out rfl rfl (info_one _) ?_; intro W5 hK5 hW5; rw [setFrom_info] at hW5; have hi5 := hK5.blk (HW2.out.alloc _) (by have := HW2.out.lt; simp; omega); have hm5 := hK5.blk (HM2.out.alloc _) (by have := HM2.out.lt; simp; omega); have x0 : W5.cell? ⟨w1.heap.size, 0, none⟩ = some (.int .i64 (i.minB : Int)) := hi5.cell 0; have y0 : W5.cell? ⟨w4.heap.size, 0, none⟩ = some (.int .i64 (i.minB : Int)) := hW5.cell 0; have x1 : W5.cell? ⟨w1.heap.size, 1, none⟩ = some (.int .i64 (i.maxB : Int)) := hi5.cell 1; have y1 : W5.cell? ⟨w4.heap.size, 1, none⟩ = some (.int .i64 (i.maxB : Int)) := hW5.cell 1; have x2 : W5.cell? ⟨w1.heap.size, 2, none⟩ = some (.int .i64 (i.minF : Int)) := hi5.cell 2; have y2 : W5.cell? ⟨w4.heap.size, 2, none⟩ = some (.int .i64 (i.minF : Int)) := hW5.cell 2; have x3 : W5.cell? ⟨w1.heap.size, 3, none⟩ = some (.int .i64 (i.maxF : Int)) := hi5.cell 3; have y3 : W5.cell? ⟨w4.heap.size, 3, none⟩ = some (.int .i64 (i.maxF : Int)) := hW5.cell 3; have x4 : W5.cell? ⟨w1.heap.size, 4, none⟩ = some (.int .i64 (i.rate : Int)) := hi5.cell 4; have y4 : W5.cell? ⟨w4.heap.size, 4, none⟩ = some (.int .i64 (i.rate : Int)) := hW5.cell 4; have x5 : W5.cell? ⟨w1.heap.size, 5, none⟩ = some (.int .i64 (i.chans : Int)) := hi5.cell 5; have y5 : W5.cell? ⟨w4.heap.size, 5, none⟩ = some (.int .i64 (i.chans : Int)) := hW5.cell 5; have x6 : W5.cell? ⟨w1.heap.size, 6, none⟩ = some (.int .i64 (i.depth : Int)) := hi5.cell 6; have y6 : W5.cell? ⟨w4.heap.size, 6, none⟩ = some (.int .i64 (i.depth : Int)) := hW5.cell 6; have x7 : W5.cell? ⟨w1.heap.size, 7, none⟩ = some (.int .i64 (i.total : Int)) := hi5.cell 7; have y7 : W5.cell? ⟨w4.heap.size, 7, none⟩ = some (.int .i64 (i.total : Int)) := hW5.cell 7; have x8 : W5.cell? ⟨w1.heap.size, 8, none⟩ = some (.string (strOf i.sum)) := hi5.cell 8; have y8 : W5.cell? ⟨w4.heap.size, 8, none⟩ = some (.string (strOf i.sum)) := hW5.cell 8; have m10 : W5.cell? ⟨mb, 10, none⟩ = some (.int .i64 (m.byte : Int)) := hm5.cell 10; rw [HMB.out] at m10; have HK5 := hid hK5; clear hi5 hm5 hK5 hW5))
  go_ret
  have h0 := HB2.out.alloc HB2.out.size (.cells #[.int .i64 0, .int .i64 0, .int .i64 0, .int .i64 0, .int .i64 0, .int .i64 0, .int .i64 0, .int .i64 0, .string ⟨#[]⟩] 111)
  exact ⟨rfl, h0.trans (HK5.out.below (by simpa using HB2.out.size) h0.size)⟩

theorem refOpen_no (s : ByteArray) (pv : Value) (br kd : Int) (h0 : kd ≠ 0) (h1 : kd ≠ 1) (w : World) : Calls Tryz.prog 21 #[.string s, pv, .int .i64 br, .int .i64 kd] w fun e w' => e = .returned (.tuple #[.pointer none, faultV 15 (-1) 0]) ∧ Below w.heap.size w w' := by
  have g0 : (kd != 0) = true := by simp [h0]
  have g1 : (kd != 1) = true := by simp [h1]
  go_enter Tryz.func21, Tryz.ntmps21
  go_wp2
  refine bodyPost_ret (v := .tuple #[.pointer none, faultV 15 (-1) 0]) (by simp [results, Tryz.results21, go_sem, faultV]) rfl ?_
  exact ⟨rfl, by go_grown⟩

theorem opens_far (s : ByteArray) (ap : Option Addr) (l c : Nat) (br kind : Int) (h : ¬ (s.size ≤ 1048576 ∧ l ≤ 1048576)) (w : World) :
    Calls Tryz.prog 5 #[.string s, .slice ap l c, .int .i64 br, .int .i64 kind] w fun e w' => e = .returned (.bool true) ∧ Below w.heap.size w w' := by
  go_enter Tryz.func5, Tryz.ntmps5
  go_wp2_with fail
  refine (small3_no s ap none l c 0 0 (fun h2 => h ⟨h2.1, h2.2.1⟩) _).mono ?_
  rintro e w1 ⟨rfl, rfl⟩
  go_wp2
  go_ret
  exact ⟨rfl, by go_grown⟩

set_option maxHeartbeats 2000000 in
set_option maxRecDepth 10000 in
theorem opens_no (s : ByteArray) (ap : Option Addr) (l c : Nat) (br kind : Int) (hs : s.size ≤ 1048576) (hl : l ≤ 1048576) (h0 : kind ≠ 0) (h1 : kind ≠ 1) (w : World) (hG : Ground0 w) :
    Calls Tryz.prog 5 #[.string s, .slice ap l c, .int .i64 br, .int .i64 kind] w fun e w' => e = .returned (.bool true) ∧ Below w.heap.size w w' := by
  go_enter Tryz.func5, Tryz.ntmps5
  go_wp2_with fail
  refine (small3_yes s ap none l c 0 0 hs hl (by omega) _).mono ?_
  rintro e w1 ⟨rfl, rfl⟩
  go_wp2_with fail
  refine (plainOpen_no s ap l c br kind h0 h1 _ hG).mono ?_
  rintro e w2 ⟨rfl, hb2⟩
  go_wp2_with fail
  refine (refOpen_no s (.slice ap l c) br kind h0 h1 _).mono ?_
  rintro e w3 ⟨rfl, hb3⟩
  have hb3' : Below w1.heap.size w1 w3 := (hb2.alloc hb2.size _).trans (hb3.mono (by rw [World.size_alloc]; have := hb2.size; omega))
  have hc0 : ∀ k, k < 3 → w3.cell? ⟨w2.heap.size, k, none⟩ = some ([Value.int .i64 15, .int .i64 (-1), .int .i64 0].getD k .nilIface) := by
    intro k hk
    have := (Blk.new w2 #[.int .i64 15, .int .i64 (-1), .int .i64 0] 26).below hb3 (by rw [World.size_alloc]; omega)
    rw [this.cell k]
    rcases (show k = 0 ∨ k = 1 ∨ k = 2 by omega) with rfl | rfl | rfl <;> rfl
  have c0 : w3.cell? ⟨w2.heap.size, 0, none⟩ = some (.int .i64 15) := hc0 0 (by omega)
  have c1 : w3.cell? ⟨w2.heap.size, 1, none⟩ = some (.int .i64 (-1)) := hc0 1 (by omega)
  have c2 : w3.cell? ⟨w2.heap.size, 2, none⟩ = some (.int .i64 0) := hc0 2 (by omega)
  have hlt : w2.heap.size < w3.heap.size := by have := hb3.size; rw [World.size_alloc] at this; omega
  clear hc0
  unfold faultV
  go_wp2_with fail
  refine (same_eq 15 (-1) 0 _).mono ?_
  rintro e w4 ⟨rfl, hb4⟩
  go_wp2
  go_ret
  have h5 := hb3'.alloc hb3'.size (.cells #[.int .i64 15, .int .i64 (-1), .int .i64 0] 43)
  exact ⟨rfl, h5.trans (hb4.mono h5.size)⟩
end Go.Proofs.YtgkenhmbilkhdaaGreatDoor

namespace Go.Proofs.YtgkenhmbilkhdaaGreatDoor
open Go.RowKit

set_option maxHeartbeats 4000000 in
set_option maxRecDepth 10000 in
theorem opens_yes (HI : ItoaAll) (k : Nat) (hk : k = 0 ∨ k = 1) (s : ByteArray) (ap : Option Addr) (cap : Nat) (br : Int) (P : List Int) (hs : s.size ≤ 1048576) (hP20 : P.length ≤ 1048576) (hpi : ∀ x ∈ P, -9223372036854775808 ≤ x ∧ x < 9223372036854775808) (hbr : br < 9223372036854775808) (w : World) (hG : Ground0 w) (hP : IntsAt w w.heap.size (.slice ap P.length cap) P) :
    Calls Tryz.prog 5 #[.string s, .slice ap P.length cap, .int .i64 br, .int .i64 (k : Int)] w fun e w' => e = .returned (.bool true) ∧ Below w.heap.size w w' := by
  have HSM := hid (fun W => small3_yes s ap none P.length cap 0 0 hs hP20 (by omega) W)
  have HPO := hid (plainOpen_yes HI k hk s ap cap br P w hs hP20 hpi hbr hG hP)
  have HRO : Hid (∀ W, Below w.heap.size w W → Calls Tryz.prog 21 #[.string s, .slice ap P.length cap, .int .i64 br, .int .i64 (k : Int)] W fun e w' => RefOpened W (inpOf s P br) e w') := fun W hb => refOpen_yes k hk s (.slice ap P.length cap) P br w.heap.size hs hP20 hpi hbr W hb.size (hP.below hb)
  clear hP hpi hG
  go_enter Tryz.func5, Tryz.ntmps5
  go_wp2_with fail
  refine (HSM.out _).mono ?_
  rintro e w1 ⟨rfl, rfl⟩
  go_wp2_with fail
  refine HPO.out.mono ?_
  rintro e w2 (⟨i, pos, db, ho, rfl, hO⟩ | ⟨x, a, ho, rfl, hb2⟩)
  · obtain ⟨dp, c, p, v, xs, md, bl, hW, h64, h256, hdp, hmd, hdb, hS⟩ := hO
    have hb2 : Below w1.heap.size w1 w2 := hS.bounds.2.2.2.2
    have HO := hid ho
    have HS := hid hS
    clear ho hS hW h64 h256 HPO HSM
    unfold faultV
    go_wp2_with fail
    refine (HRO.out _ (hb2.alloc hb2.size _)).mono ?_
    rintro e w3 ⟨hb3, ⟨i', pos', mb, sb, tx, ho', rfl, hM, hST, hmb, hsb⟩ | ⟨x, a, ho', rfl⟩⟩
    · have heq := HO.out.symm.trans ho'
      injection heq with heq
      injection heq with h1 h2
      subst h1; subst h2
      have hb3' : Below w1.heap.size w1 w3 := (hb2.alloc hb2.size _).trans (hb3.mono (by rw [World.size_alloc]; have := hb2.size; omega))
      have hF := (Blk.new w2 #[.int .i64 0, .int .i64 0, .int .i64 0] 26).below hb3 (by rw [World.size_alloc]; omega)
      have c0 : w3.cell? ⟨w2.heap.size, 0, none⟩ = some (.int .i64 0) := hF.cell 0
      have c1 : w3.cell? ⟨w2.heap.size, 1, none⟩ = some (.int .i64 0) := hF.cell 1
      have c2 : w3.cell? ⟨w2.heap.size, 2, none⟩ = some (.int .i64 0) := hF.cell 2
      have hlt : w2.heap.size < w3.heap.size := by have := hb3.size; rw [World.size_alloc] at this; omega
      have hS3 := (HS.out.below (w' := w2.alloc (.cells #[.int .i64 0, .int .i64 0, .int .i64 0] 26)) (by go_grown)).below hb3
      have HS3 := hid hS3
      have HM := hid hM
      have HB3 := hid hb3'
      clear hF hb3 hb3' hb2 hS3 hM hST ho' HO HS HRO
      unfold faultV
      go_wp2_with fail
      refine (same_eq 0 0 0 _).mono ?_
      rintro e w4 ⟨rfl, hb4⟩
      have h5 : Below w1.heap.size w1 w4 := by
        have h5 := HB3.out.alloc HB3.out.size (.cells #[.int .i64 0, .int .i64 0, .int .i64 0] 43)
        exact h5.trans (hb4.mono h5.size)
      have hb34 : Below w3.heap.size w3 w4 := Below.trans (by go_grown) (hb4.mono (by rw [World.size_alloc]; omega))
      have HS4 := hid (HS3.out.below hb34)
      have HM4 := hid (HM.out.below hb34 HM.out.lt)
      have HB5 := hid h5
      clear h5 hb34 hb4 HS3 HM HB3
      go_wp2_with fail
      refine (stands_yes (c := c) rfl rfl rfl HS4.out HM4.out).mono ?_
      rintro e w6 ⟨rfl, hb6⟩
      go_wp2
      go_ret
      exact ⟨rfl, HB5.out.trans (hb6.mono HB5.out.size)⟩
    · exact absurd (HO.out.symm.trans ho') (by simp)
  · have HO := hid ho
    clear ho HPO HSM
    unfold faultV
    go_wp2_with fail
    refine (HRO.out _ (hb2.alloc hb2.size _)).mono ?_
    rintro e w3 ⟨hb3, ⟨i', pos', mb, sb, tx, ho', rfl, hM, hST, hmb, hsb⟩ | ⟨x', a', ho', rfl⟩⟩
    · exact absurd (HO.out.symm.trans ho') (by simp)
    · have heq := HO.out.symm.trans ho'
      injection heq with heq
      injection heq with h1 h2
      subst h1; subst h2
      have hb3' : Below w1.heap.size w1 w3 := (hb2.alloc hb2.size _).trans (hb3.mono (by rw [World.size_alloc]; have := hb2.size; omega))
      have hF := (Blk.new w2 #[.int .i64 (x : Int), .int .i64 (-1), .int .i64 (a : Int)] 26).below hb3 (by rw [World.size_alloc]; omega)
      have c0 : w3.cell? ⟨w2.heap.size, 0, none⟩ = some (.int .i64 (x : Int)) := hF.cell 0
      have c1 : w3.cell? ⟨w2.heap.size, 1, none⟩ = some (.int .i64 (-1)) := hF.cell 1
      have c2 : w3.cell? ⟨w2.heap.size, 2, none⟩ = some (.int .i64 (a : Int)) := hF.cell 2
      have hlt : w2.heap.size < w3.heap.size := by have := hb3.size; rw [World.size_alloc] at this; omega
      have HB3 := hid hb3'
      clear hF hb3 hb3' hb2 ho' HO HRO
      unfold faultV
      go_wp2_with fail
      refine (same_eq (x : Int) (-1) (a : Int) _).mono ?_
      rintro e w4 ⟨rfl, hb4⟩
      go_wp2
      go_ret
      have h5 := HB3.out.alloc HB3.out.size (.cells #[.int .i64 (x : Int), .int .i64 (-1), .int .i64 (a : Int)] 43)
      exact ⟨rfl, h5.trans (hb4.mono h5.size)⟩
end Go.Proofs.YtgkenhmbilkhdaaGreatDoor

namespace Go.Proofs.YtgkenhmbilkhdaaGreatDoor
open Go.RowKit

theorem numDigits_any (u : Nat) (hu : u < 2097152) (w : World) (ht : Tab w) :
    Calls Tryz.prog 242 #[.int .u64 u] w fun e w' => ∃ nd : Nat, nd ≤ 7 ∧ e = .returned (.int .i64 nd) ∧ w' = w := by
  have hr := Lib.bitLen_le u 21 (by omega) (by simpa using hu)
  obtain ⟨v, hv⟩ := ht (Lib.bitLen u * 78913 / 262144) (by omega)
  have HL : ∀ W, Calls Tryz.prog 195 #[.int .u64 u] W fun e w' => e = .returned (.int .i64 (Lib.bitLen u : Int)) ∧ w' = W := len64 u (by omega)
  generalize Lib.bitLen u = r at hr hv HL
  obtain ⟨k, hk⟩ : ∃ k, k = r * 78913 / 262144 := ⟨_, rfl⟩
  rw [← hk] at hv
  have hk6 : k ≤ 6 := by omega
  have hki : (r : Int) * 78913 / 262144 = (k : Int) := by omega
  have hr' : (r : Int) ≤ 21 := by omega
  have hk' : (k : Int) < 20 := by omega
  go_enter Tryz.func242, Tryz.ntmps242
  go_wp2_with fail
  refine (HL _).mono ?_
  rintro e w' ⟨rfl, rfl⟩
  clear hk
  go_wp2
  all_goals go_ret
  · exact ⟨k + 1, by omega, by rfl, rfl⟩
  · exact ⟨k, by omega, by rfl, rfl⟩

/-- A block of 24 bytes, whatever they are. -/
def R24 (w : World) (b : Nat) : Prop := ∃ cs : Array Value, Blk w b cs 340 ∧ ∀ i, i < 24 → ∃ z : Int, cs[i]? = some (.int .u8 z)
theorem R24.drew {w : World} {b : Nat} (h : R24 w b) : R24 w.drew b := h
theorem R24.drewN {w : World} {b : Nat} (h : R24 w b) (n : Nat) : R24 (w.drewN n) b := h
theorem R24.set {w : World} {b : Nat} (h : R24 w b) (i : Nat) (z : Int) : R24 (w.setCell ⟨b, i, none⟩ (.int .u8 z)) b := by
  obtain ⟨cs, hB, hc⟩ := h
  refine ⟨_, hB.set i _, fun j hj => ?_⟩
  rw [Array.getElem?_setIfInBounds]
  by_cases e : i = j
  · subst e
    obtain ⟨z', hz⟩ := hc i hj
    rw [if_pos rfl, if_pos (Array.getElem?_eq_some_iff.1 hz).1]
    exact ⟨z, rfl⟩
  · rw [if_neg e]
    exact hc j hj
theorem R24.cell {w : World} {b : Nat} (h : R24 w b) (i : Nat) (hi : i < 24) : ∃ z : Int, w.cell? ⟨b, i, none⟩ = some (.int .u8 z) := by
  obtain ⟨cs, hB, hc⟩ := h
  obtain ⟨z, hz⟩ := hc i hi
  exact ⟨z, (hB.cell i).trans hz⟩
theorem R24.free {w : World} {b : Nat} (h : R24 w b) (i : Nat) : w.frozen? ⟨b, i, none⟩ = false := by
  obtain ⟨cs, hB, _⟩ := h
  exact hB.free i

set_option maxHeartbeats 4000000 in
set_option maxRecDepth 100000 in
theorem base10_lt2 (w : World) (b u nd : Nat) (hu : u < 2097152) (hR : R24 w b) (hnd : nd < 2) :
    Calls Tryz.prog 243 #[.slice (some ⟨b, 1, none⟩) nd 23, .int .u64 u] w fun e w' => e = .returned (.tuple #[]) ∧ R24 w' b ∧ Kept b w w' := by
  obtain ⟨z1, h1⟩ := hR.cell 1 (by omega)
  have f1 := hR.free 1
  have hu' : (u : Int) < 2097152 := by omega
  rcases (show nd = 0 ∨ nd = 1 by omega) with rfl | rfl
  · go_enter Tryz.func243, Tryz.ntmps243
    go_name_bytes SM hSM
    have eSM : SM = Lib.smalls := by rw [← hSM]; decide +kernel
    subst eSM
    clear hSM
    go_wp2
    refine wp_loop_rounds 1 ?_
    rw [rounds_succ]
    go_wp2
    go_end0
    exact ⟨rfl, hR, Kept.refl _ _⟩
  · go_enter Tryz.func243, Tryz.ntmps243
    go_name_bytes SM hSM
    have eSM : SM = Lib.smalls := by rw [← hSM]; decide +kernel
    subst eSM
    clear hSM
    go_wp2
    refine wp_loop_rounds 1 ?_
    rw [rounds_succ]
    go_wp2
    go_end0
    exact ⟨rfl, hR.set 1 _, (Kept.refl _ _).setCell 1 _⟩

end Go.Proofs.YtgkenhmbilkhdaaGreatDoor

namespace Go.Proofs.YtgkenhmbilkhdaaGreatDoor
open Go.RowKit

set_option maxHeartbeats 8000000 in
set_option maxRecDepth 100000 in
theorem base10_23 (w : World) (b u nd : Nat) (hu : u < 2097152) (hR : R24 w b) (hnd : nd = 2 ∨ nd = 3) :
    Calls Tryz.prog 243 #[.slice (some ⟨b, 1, none⟩) nd 23, .int .u64 u] w fun e w' => e = .returned (.tuple #[]) ∧ R24 w' b ∧ Kept b w w' := by
  obtain ⟨z1, h1⟩ := hR.cell 1 (by omega)
  obtain ⟨z2, h2⟩ := hR.cell 2 (by omega)
  obtain ⟨z3, h3⟩ := hR.cell 3 (by omega)
  obtain ⟨z4, h4⟩ := hR.cell 4 (by omega)
  obtain ⟨z5, h5⟩ := hR.cell 5 (by omega)
  obtain ⟨z6, h6⟩ := hR.cell 6 (by omega)
  obtain ⟨z7, h7⟩ := hR.cell 7 (by omega)
  have f1 := hR.free 1
  have f2 := hR.free 2
  have f3 := hR.free 3
  have f4 := hR.free 4
  have f5 := hR.free 5
  have f6 := hR.free 6
  have f7 := hR.free 7
  have hu' : (u : Int) < 2097152 := by omega
  rcases hnd with rfl | rfl
  all_goals
    go_enter Tryz.func243, Tryz.ntmps243
    go_name_bytes SM hSM
    have eSM : SM = Lib.smalls := by rw [← hSM]; decide +kernel
    subst eSM
    clear hSM
    go_wp2
    refine wp_loop_rounds 1 ?_
    rw [rounds_succ]
    go_wp2
    go_name_slot 16 x16 hx16
    have ha16 : 0 ≤ x16 := by omega
    have hb16 : x16 ≤ 198 := by omega
    have hA16 : ∀ w, (Instr.index 9 (.string Lib.smalls) (.int .u32 (x16 + 1))).run Tryz.prog w = .ok (.int .u8 ((Lib.sm (x16.toNat + 1)).toNat : Int)) w := Lib.idx_smalls 9 Tryz.underlying9 .u32 _ _ (by omega) (by omega)
    have hB16 : ∀ w, (Instr.index 9 (.string Lib.smalls) (.int .u32 x16)).run Tryz.prog w = .ok (.int .u8 ((Lib.sm x16.toNat).toNat : Int)) w := Lib.idx_smalls 9 Tryz.underlying9 .u32 _ _ (by omega) (by omega)
    generalize ((Lib.sm (x16.toNat + 1)).toNat : Int) = yA16 at hA16
    generalize ((Lib.sm x16.toNat).toNat : Int) = yB16 at hB16
    clear hx16
    go_region
    go_wp2
    go_end0
    exact ⟨rfl, by repeat (first | exact hR | apply R24.drew | apply R24.set), by repeat (first | exact Kept.refl _ _ | apply Kept.drew | apply Kept.setCell)⟩
end Go.Proofs.YtgkenhmbilkhdaaGreatDoor
