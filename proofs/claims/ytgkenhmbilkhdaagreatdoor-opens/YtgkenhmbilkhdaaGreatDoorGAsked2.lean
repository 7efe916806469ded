import Derived.Test.YtgkenhmbilkhdaaGreatDoorGRefBits
namespace Go.Proofs.YtgkenhmbilkhdaaGreatDoor
open Go.RowKit

theorem refAt (sb pos : Nat) (w : World) (h : w.cell? ⟨sb, 2, none⟩ = some (.int .i64 pos)) : Calls Tryz.prog 39 #[.pointer (some ⟨sb, 0, none⟩)] w fun e w' => e = .returned (.int .i64 (pos : Int)) ∧ w' = w := by
  go_enter Tryz.func39, Tryz.ntmps39
  go_wp2
  go_ret
  exact ⟨rfl, rfl⟩

set_option maxHeartbeats 8000000 in
set_option maxRecDepth 10000 in
theorem asked_read (HI : ItoaAll) (k : Nat) (hk : k = 0 ∨ k = 1) (B p c : Nat) (S : Src) (I : Inp) (pos : Nat) (mk : Bool) (mark : Nat) (r : RdS) (pb sb : Nat) (tx : ByteArray) (n : Nat) (hn : n ≤ 64) (w : World) (hB : 8 ≤ B) (hG : Ground0 w) (h : Ask k w B p c S I pos mk mark r pb sb tx) :
    Calls Tryz.prog 19 #[.pointer (some ⟨pb, 0, none⟩), .pointer (some ⟨sb, 0, none⟩), .int .i64 n] w fun e w' => AskPost k w B p c S I mk mark r pb sb tx e w' := by
  have hbd := h.rd.bounds
  have hw0 : Below w.heap.size w (w.alloc (.cells #[.int .i64 0, .int .i64 0, .int .i64 0] 26)) := by go_grown
  have h0 := h.below hw0
  have s2 := h.st.cells.2.2.1
  have hq : (pos : Int).tdiv 8 = ((pos / 8 : Nat) : Int) := by rw [Int.tdiv_eq_ediv_of_nonneg (by omega)]; omega
  have hop1 : ((n : Int) == -1) = false := by simp
  have hop2 : ((n : Int) == -2) = false := by simp
  have haa8 : pos / 8 ≤ 1048576 := by omega
  have HP := hid (pbRead HI k hk B p c S I pos mk mark r pb n hn _ hB (hG.below hw0) h0.rd h0.pb)
  have HH := hid h
  have HST : Hid (∀ e : Nat, (e = stopE I.st) → e = 3 ∨ e = 14 ∨ e = 16) := by intro e he; have := hbd.2.2.1; rw [he]; unfold stopE; split <;> omega
  clear h h0 hw0
  go_enter Tryz.func19, Tryz.ntmps19
  go_wp2_with fail
  refine (refAt sb pos w s2).mono ?_
  rintro e w9 ⟨rfl, rfl⟩
  go_wp2_with fail
  refine HP.out.mono ?_
  rintro e w1 (⟨hle, rfl, hS⟩ | ⟨hle, rfl, hS⟩)
  · unfold faultV
    obtain ⟨r1, hfb, hst3, hend⟩ := ask_mid HH.out hS 0 0 0
    obtain ⟨⟨y0, y1, y2⟩, ⟨z0, z1, z2⟩, g⟩ := put_fault hfb 0 0 0
    have HE := hid hend
    have HRF := hid (refRead sb tx I pos n hn _ hst3)
    clear hend hfb hS
    go_wp2_with fail
    refine HRF.out.mono ?_
    rintro e w2 (⟨hle2, rfl, hS2⟩ | ⟨hle2, rfl, hS2⟩)
    · obtain ⟨hfb4, hR4, hpb4, hpost⟩ := HE.out w2 hS2.1 hS2.2
      have a0 := hfb4.cell 0
      have a1 := hfb4.cell 1
      have a2 := hfb4.cell 2
      simp at a0 a1 a2
      have t2 := hS2.2.cells.2.2.1
      have HAT := hid (rdAt k hk B p c S I _ mk mark r1 pb w2 hR4 hpb4)
      generalize wrap64 (valAt I.T pos n : Nat) = vv
      go_wp2_with fail
      refine HAT.out.mono ?_
      rintro e w5 ⟨rfl, rfl⟩
      go_wp2_with fail
      refine (refAt sb _ w5 t2).mono ?_
      rintro e w6 ⟨rfl, rfl⟩
      go_wp2
      go_ret
      exact hpost
    · exact absurd hle hle2
  · obtain ⟨r1, hfb, hst3, hend⟩ := ask_mid HH.out hS (stopE I.st : Nat) (-1) ((pos / 8 : Nat) : Int)
    obtain ⟨⟨y0, y1, y2⟩, ⟨z0, z1, z2⟩, g⟩ := put_fault hfb (stopE I.st : Nat) (-1) ((pos / 8 : Nat) : Int)
    have HE := hid hend
    have HRF := hid (refRead sb tx I pos n hn _ hst3)
    clear hend hfb hS
    obtain ⟨ee, hee⟩ : ∃ ee, ee = stopE I.st := ⟨_, rfl⟩
    have he3 := HST.out ee hee
    have hee0 : ((ee : Int) == 0) = false := by simp; omega
    unfold faultV
    rw [← hee] at HE HRF ⊢
    have HEE := hid hee
    clear hee
    generalize pos / 8 = aa at *
    go_wp2_with fail
    refine HRF.out.mono ?_
    rintro e w2 (⟨hle2, rfl, hS2⟩ | ⟨hle2, rfl, hS2⟩)
    · exact absurd hle2 hle
    · obtain ⟨hfb4, hR4, hpb4, hpost⟩ := HE.out w2 hS2.1 hS2.2
      have a0 := hfb4.cell 0
      have a1 := hfb4.cell 1
      have a2 := hfb4.cell 2
      simp at a0 a1 a2
      have t2 := hS2.2.cells.2.2.1
      have HAT := hid (rdAt k hk B p c S I _ mk mark r1 pb w2 hR4 hpb4)
      go_wp2_with fail
      refine HAT.out.mono ?_
      rintro e w5 ⟨rfl, rfl⟩
      go_wp2_with fail
      refine (refAt sb _ w5 t2).mono ?_
      rintro e w6 ⟨rfl, rfl⟩
      go_wp2
      go_ret
      exact hpost
end Go.Proofs.YtgkenhmbilkhdaaGreatDoor

namespace Go.Proofs.YtgkenhmbilkhdaaGreatDoor
open Go.RowKit

set_option maxHeartbeats 8000000 in
set_option maxRecDepth 10000 in
theorem asked_arg (HI : ItoaAll) (k : Nat) (hk : k = 0 ∨ k = 1) (B p c : Nat) (S : Src) (I : Inp) (pos : Nat) (mk : Bool) (mark : Nat) (r : RdS) (pb sb : Nat) (tx : ByteArray) (n : Int) (hn : n < 0 ∨ 64 < n) (hn1 : n ≠ -1) (hn2 : n ≠ -2) (hn3 : -9223372036854775808 ≤ n) (hn4 : n < 9223372036854775808) (w : World) (hB : 8 ≤ B) (hG : Ground0 w) (h : Ask k w B p c S I pos mk mark r pb sb tx) :
    Calls Tryz.prog 19 #[.pointer (some ⟨pb, 0, none⟩), .pointer (some ⟨sb, 0, none⟩), .int .i64 n] w fun e w' => AskPost k w B p c S I mk mark r pb sb tx e w' := by
  have hbd := h.rd.bounds
  have hw0 : Below w.heap.size w (w.alloc (.cells #[.int .i64 0, .int .i64 0, .int .i64 0] 26)) := by go_grown
  have h0 := h.below hw0
  have s2 := h.st.cells.2.2.1
  have hq : (pos : Int).tdiv 8 = ((pos / 8 : Nat) : Int) := by rw [Int.tdiv_eq_ediv_of_nonneg (by omega)]; omega
  have hop1 : (n == -1) = false := by simp [hn1]
  have hop2 : (n == -2) = false := by simp [hn2]
  have haa8 : pos / 8 ≤ 1048576 := by omega
  have HP := hid (pbArg HI k hk B p c S I pos mk mark r pb n hn hn3 hn4 _ hB (hG.below hw0) h0.rd h0.pb)
  have HH := hid h
  have HST : Hid (∀ e : Nat, (e = stopE I.st) → e = 3 ∨ e = 14 ∨ e = 16) := by intro e he; have := hbd.2.2.1; rw [he]; unfold stopE; split <;> omega
  clear h h0 hw0
  go_enter Tryz.func19, Tryz.ntmps19
  go_wp2_with fail
  refine (refAt sb pos w s2).mono ?_
  rintro e w9 ⟨rfl, rfl⟩
  go_wp2_with fail
  refine HP.out.mono ?_
  rintro e w1 ⟨rfl, hS⟩
  obtain ⟨r1, hfb, hst3, hend⟩ := ask_mid HH.out hS 15 (-1) ((pos / 8 : Nat) : Int)
  obtain ⟨⟨y0, y1, y2⟩, ⟨z0, z1, z2⟩, g⟩ := put_fault hfb 15 (-1) ((pos / 8 : Nat) : Int)
  have HE := hid hend
  have HRF := hid (fun W => refArg sb n hn W)
  clear hend hfb hS
  unfold faultV
  generalize pos / 8 = aa at *
  go_wp2_with fail
  refine (HRF.out _).mono ?_
  rintro e w2 ⟨rfl, rfl⟩
  obtain ⟨hfb4, hR4, hpb4, hpost⟩ := HE.out _ (KeptX.refl _ _) hst3
  have a0 := hfb4.cell 0
  have a1 := hfb4.cell 1
  have a2 := hfb4.cell 2
  simp at a0 a1 a2
  have t2 := hst3.cells.2.2.1
  have HAT := hid (rdAt k hk B p c S I _ mk mark r1 pb _ hR4 hpb4)
  go_wp2_with fail
  refine HAT.out.mono ?_
  rintro e w5 ⟨rfl, rfl⟩
  go_wp2_with fail
  refine (refAt sb _ _ t2).mono ?_
  rintro e w6 ⟨rfl, rfl⟩
  go_wp2
  go_ret
  exact hpost

end Go.Proofs.YtgkenhmbilkhdaaGreatDoor

namespace Go.Proofs.YtgkenhmbilkhdaaGreatDoor
open Go.RowKit

set_option maxHeartbeats 8000000 in
set_option maxRecDepth 10000 in
theorem asked_align (k : Nat) (hk : k = 0 ∨ k = 1) (B p c : Nat) (S : Src) (I : Inp) (pos : Nat) (mk : Bool) (mark : Nat) (r : RdS) (pb sb : Nat) (tx : ByteArray) (w : World) (hB : 8 ≤ B) (hG : Ground0 w) (h : Ask k w B p c S I pos mk mark r pb sb tx) :
    Calls Tryz.prog 19 #[.pointer (some ⟨pb, 0, none⟩), .pointer (some ⟨sb, 0, none⟩), .int .i64 (-2)] w fun e w' => AskPost k w B p c S I mk mark r pb sb tx e w' := by
  have hbd := h.rd.bounds
  have hw0 : Below w.heap.size w (w.alloc (.cells #[.int .i64 0, .int .i64 0, .int .i64 0] 26)) := by go_grown
  have h0 := h.below hw0
  have s2 := h.st.cells.2.2.1
  have hq : (pos : Int).tdiv 8 = ((pos / 8 : Nat) : Int) := by rw [Int.tdiv_eq_ediv_of_nonneg (by omega)]; omega
  have haa8 : pos / 8 ≤ 1048576 := by omega
  have HP := hid (pbAlign k hk B p c S I pos mk mark r pb _ hB (hG.below hw0) h0.rd h0.pb)
  have HH := hid h
  have HST : Hid (∀ e : Nat, (e = stopE I.st) → e = 3 ∨ e = 14 ∨ e = 16) := by intro e he; have := hbd.2.2.1; rw [he]; unfold stopE; split <;> omega
  clear h h0 hw0
  go_enter Tryz.func19, Tryz.ntmps19
  go_wp2_with fail
  refine (refAt sb pos w s2).mono ?_
  rintro e w9 ⟨rfl, rfl⟩
  go_wp2_with fail
  refine HP.out.mono ?_
  rintro e w1 ⟨rfl, hle, hS⟩
  unfold faultV
  obtain ⟨r1, hfb, hst3, hend⟩ := ask_mid HH.out hS 0 0 0
  obtain ⟨⟨y0, y1, y2⟩, ⟨z0, z1, z2⟩, g⟩ := put_fault hfb 0 0 0
  have HE := hid hend
  have HRF := hid (refAlign sb tx I pos _ hst3)
  clear hend hfb hS
  go_wp2_with fail
  refine HRF.out.mono ?_
  rintro e w2 ⟨rfl, hS2⟩
  obtain ⟨hfb4, hR4, hpb4, hpost⟩ := HE.out w2 hS2.1 hS2.2
  have a0 := hfb4.cell 0
  have a1 := hfb4.cell 1
  have a2 := hfb4.cell 2
  simp at a0 a1 a2
  have t2 := hS2.2.cells.2.2.1
  have HAT := hid (rdAt k hk B p c S I _ mk mark r1 pb w2 hR4 hpb4)
  go_wp2_with fail
  refine HAT.out.mono ?_
  rintro e w5 ⟨rfl, rfl⟩
  go_wp2_with fail
  refine (refAt sb _ w5 t2).mono ?_
  rintro e w6 ⟨rfl, rfl⟩
  go_wp2
  go_ret
  exact hpost

end Go.Proofs.YtgkenhmbilkhdaaGreatDoor

namespace Go.Proofs.YtgkenhmbilkhdaaGreatDoor
open Go.RowKit

set_option maxHeartbeats 8000000 in
set_option maxRecDepth 10000 in
theorem asked_unary (HI : ItoaAll) (k : Nat) (hk : k = 0 ∨ k = 1) (B p c : Nat) (S : Src) (I : Inp) (pos : Nat) (mk : Bool) (mark : Nat) (r : RdS) (pb sb : Nat) (tx : ByteArray) (w : World) (hB : 8 ≤ B) (hG : Ground0 w) (h : Ask k w B p c S I pos mk mark r pb sb tx) :
    Calls Tryz.prog 19 #[.pointer (some ⟨pb, 0, none⟩), .pointer (some ⟨sb, 0, none⟩), .int .i64 (-1)] w fun e w' => AskPost k w B p c S I mk mark r pb sb tx e w' := by
  have hbd := h.rd.bounds
  have hw0 : Below w.heap.size w (w.alloc (.cells #[.int .i64 0, .int .i64 0, .int .i64 0] 26)) := by go_grown
  have h0 := h.below hw0
  have s2 := h.st.cells.2.2.1
  have hq : (pos : Int).tdiv 8 = ((pos / 8 : Nat) : Int) := by rw [Int.tdiv_eq_ediv_of_nonneg (by omega)]; omega
  have haa8 : pos / 8 ≤ 1048576 := by omega
  have HP := hid (pbUnary HI k hk B p c S I pos mk mark r pb _ hB (hG.below hw0) h0.rd h0.pb)
  have HH := hid h
  have HST : Hid (∀ e : Nat, (e = stopE I.st) → e = 3 ∨ e = 14 ∨ e = 16) := by intro e he; have := hbd.2.2.1; rw [he]; unfold stopE; split <;> omega
  clear h h0 hw0
  go_enter Tryz.func19, Tryz.ntmps19
  go_wp2_with fail
  refine (refAt sb pos w s2).mono ?_
  rintro e w9 ⟨rfl, rfl⟩
  go_wp2_with fail
  refine HP.out.mono ?_
  rintro e w1 (⟨q, hu, hle, rfl, hS⟩ | ⟨hu, rfl, hS⟩)
  · have HU := hid hu
    have hq20 : (q : Int) ≤ 8388608 := by omega
    clear hu
    unfold faultV
    obtain ⟨r1, hfb, hst3, hend⟩ := ask_mid HH.out hS 0 0 0
    obtain ⟨⟨y0, y1, y2⟩, ⟨z0, z1, z2⟩, g⟩ := put_fault hfb 0 0 0
    have HE := hid hend
    have HRF := hid (refUnary sb tx I pos _ hst3)
    clear hend hfb hS
    go_wp2_with fail
    refine HRF.out.mono ?_
    rintro e w2 (⟨q2, hu2, rfl, hS2⟩ | ⟨hu2, rfl, hS2⟩)
    · obtain rfl : q = q2 := by
        have e9 := HU.out.symm.trans hu2
        injection e9 with e9
        injection e9 with e9
      clear hu2
      obtain ⟨hfb4, hR4, hpb4, hpost⟩ := HE.out w2 hS2.1 hS2.2
      have a0 := hfb4.cell 0
      have a1 := hfb4.cell 1
      have a2 := hfb4.cell 2
      simp at a0 a1 a2
      have t2 := hS2.2.cells.2.2.1
      have HAT := hid (rdAt k hk B p c S I _ mk mark r1 pb w2 hR4 hpb4)
      go_wp2_with fail
      refine HAT.out.mono ?_
      rintro e w5 ⟨rfl, rfl⟩
      go_wp2_with fail
      refine (refAt sb _ w5 t2).mono ?_
      rintro e w6 ⟨rfl, rfl⟩
      go_wp2
      go_ret
      exact hpost
    · exact absurd (HU.out.symm.trans hu2) (by simp)
  · have HU := hid hu
    clear hu
    obtain ⟨r1, hfb, hst3, hend⟩ := ask_mid HH.out hS (stopE I.st : Nat) (-1) ((pos / 8 : Nat) : Int)
    obtain ⟨⟨y0, y1, y2⟩, ⟨z0, z1, z2⟩, g⟩ := put_fault hfb (stopE I.st : Nat) (-1) ((pos / 8 : Nat) : Int)
    have HE := hid hend
    have HRF := hid (refUnary sb tx I pos _ hst3)
    clear hend hfb hS
    obtain ⟨ee, hee⟩ : ∃ ee, ee = stopE I.st := ⟨_, rfl⟩
    have he3 := HST.out ee hee
    have hee0 : ((ee : Int) == 0) = false := by simp; omega
    unfold faultV
    rw [← hee] at HE HRF ⊢
    have HEE := hid hee
    clear hee
    generalize pos / 8 = aa at *
    go_wp2_with fail
    refine HRF.out.mono ?_
    rintro e w2 (⟨q2, hu2, rfl, hS2⟩ | ⟨hu2, rfl, hS2⟩)
    · exact absurd (HU.out.symm.trans hu2) (by simp)
    · obtain ⟨hfb4, hR4, hpb4, hpost⟩ := HE.out w2 hS2.1 hS2.2
      have a0 := hfb4.cell 0
      have a1 := hfb4.cell 1
      have a2 := hfb4.cell 2
      simp at a0 a1 a2
      have t2 := hS2.2.cells.2.2.1
      have HAT := hid (rdAt k hk B p c S I _ mk mark r1 pb w2 hR4 hpb4)
      go_wp2_with fail
      refine HAT.out.mono ?_
      rintro e w5 ⟨rfl, rfl⟩
      go_wp2_with fail
      refine (refAt sb _ w5 t2).mono ?_
      rintro e w6 ⟨rfl, rfl⟩
      go_wp2
      go_ret
      exact hpost
end Go.Proofs.YtgkenhmbilkhdaaGreatDoor

namespace Go.Proofs.YtgkenhmbilkhdaaGreatDoor
open Go.RowKit

theorem bytes_take (t : ByteArray) (c : Nat) : bytesOf (t.extract 0 c) = (bytesOf t).take c := by
  unfold bytesOf
  rw [ByteArray.data_extract, Array.toList_extract]
  simp
/-- What 'Of' makes. -/
def OfPost (w : World) (s : ByteArray) (N : Nat × Nat) (e : Ending) (w' : World) : Prop :=
  ∃ tx, e = .returned (.pointer (some ⟨w.heap.size, 0, none⟩)) ∧ Below w.heap.size w w' ∧ Blk w' w.heap.size (stCells tx N.2 0) 98 ∧ bytesOf tx = (bytesOf s).take N.1
theorem of_new (w : World) (s : ByteArray) (n st : Nat) (x : Int) (hx : x = (st : Int)) : OfPost w s (n, st) (.returned (.pointer (some ⟨w.heap.size, 0, none⟩))) (w.alloc (.cells #[.string (s.extract 0 n), .int .i64 x, .int .i64 0] 98)) := by
  subst hx
  exact ⟨s.extract 0 n, rfl, by go_grown, Blk.new _ _ _, bytes_take s n⟩
theorem of_all (w : World) (s : ByteArray) : OfPost w s (s.size, 1) (.returned (.pointer (some ⟨w.heap.size, 0, none⟩))) (w.alloc (.cells #[.string s, .int .i64 1, .int .i64 0] 98)) :=
  ⟨s, rfl, by go_grown, Blk.new _ _ _, by rw [List.take_of_length_le (by rw [bytesOf_len]; omega)]⟩

def OfRel (s : ByteArray) (P : List Int) (br : Int) (va ve vk : Value) : Prop :=
  ∃ k a e : Nat, va = .int .i64 a ∧ ve = .int .i64 e ∧ vk = .int .i64 k ∧ k ≤ P.length ∧ SrcOk s.size br a ∧ e ≤ 8 ∧ Hid (ofFrom s.size br P 0 0 = ofFrom s.size br (P.drop k) a e)

set_option maxHeartbeats 8000000 in
set_option maxRecDepth 10000 in
theorem of_neg (s : ByteArray) (pv : Value) (P : List Int) (br : Int) (B : Nat) (hs : s.size ≤ 1048576) (hP20 : P.length ≤ 1048576) (hpi : ∀ x ∈ P, -9223372036854775808 ≤ x ∧ x < 9223372036854775808) (hbr : br < 0) (w : World) (hP : IntsAt w B pv P) :
    Calls Tryz.prog 18 #[.string s, pv, .int .i64 br] w fun e w' => OfPost w s (ofFrom s.size br P 0 0) e w' := by
  have HPI := hid hpi
  clear hpi
  have h1 : decide (0 ≤ br) = false := by simp; omega
  obtain ⟨ap, cap, hpv, hcell⟩ : ∃ ap cap, pv = .slice ap P.length cap ∧ Hid (∀ i, i < P.length → ∃ g off, ap = some ⟨g, off, none⟩ ∧ w.cell? ⟨g, off + i, none⟩ = some (.int .i64 (P.getD i 0))) := by
    rcases hP with ⟨ap0, cap, rfl, rfl⟩ | ⟨g, off, cap, _, rfl, hc⟩
    · exact ⟨ap0, cap, rfl, fun i hi => by simp at hi⟩
    · exact ⟨_, cap, rfl, fun i hi => ⟨g, off, rfl, hc i hi⟩⟩
  subst hpv
  clear hP
  go_enter Tryz.func18, Tryz.ntmps18
  go_wp2
  go_loopg [7, 8, 9] (P.length + 1) (fun gk va ve vk wr => (OfRel s P br va ve vk ∧ wr = w) ∧ ∃ k : Nat, vk = .int .i64 k ∧ gk + k = P.length + 1)
  case atStart => exact ⟨⟨⟨0, 0, 0, rfl, rfl, rfl, by omega, ⟨by omega, by omega⟩, by omega, rfl⟩, rfl⟩, 0, rfl, rfl⟩
  case round =>
    obtain ⟨⟨⟨k, a, e, rfl, rfl, rfl, hk, hok, he, HR⟩, rfl⟩, k', hkk, hgk⟩ := hrel
    obtain rfl : k = k' := by injection hkk with _ hkk; omega
    clear hkk
    have ha := hok.1
    have ha2 := hok.2
    have he' : (e : Int) ≤ 8 := by omega
    by_cases hkl : k < P.length
    · have hkl' : (k : Int) < (P.length : Int) := by omega
      have hPk : P[k]? = some (P.getD k 0) := by rw [List.getD_eq_getElem?_getD, List.getElem?_eq_getElem hkl]; rfl
      obtain ⟨g, off, rfl, hck⟩ := hcell.out k hkl
      have hpb := HPI.out _ (List.mem_of_getElem? hPk)
      have HD := hid (drop_at hPk)
      generalize P.getD k 0 = p at hck hpb HD
      clear hPk
      by_cases hp0 : p ≤ 0
      · by_cases h8 : e = 8
        · subst h8
          go_wp2
          go_ret
          have hf : ofFrom s.size br P 0 0 = (a, 14) := by rw [HR.out, HD.out]; unfold ofFrom; rw [if_neg (by omega), if_pos hp0, if_pos (by omega)]
          rw [hf]
          exact of_new _ s a 14 _ rfl
        · have h8' : (e : Int) < 8 := by omega
          go_wp2
          go_roundg (P.length - k)
          case measure => omega
          case rel =>
            refine ⟨⟨⟨k + 1, a, e + 1, rfl, by go_num, by go_num, by omega, hok, by omega, ?_⟩, by trivial⟩, k + 1, by go_num, by omega⟩
            show _ = _
            rw [HR.out, HD.out]
            conv => lhs; unfold ofFrom
            rw [if_neg (by omega), if_pos hp0, if_neg (by omega)]
      · obtain ⟨q, rfl⟩ := Int.eq_ofNat_of_zero_le (show 0 ≤ p by omega)
        have hq0 : 0 < (q : Int) := by omega
        by_cases hlong : (s.size : Int) - (a : Int) < (q : Int)
        · have hf : ofFrom s.size br P 0 0 = finalOf s.size br := by rw [HR.out, HD.out]; unfold ofFrom; rw [if_neg (by omega), if_neg (by omega), if_pos hlong]
          have HF := hid hf
          clear hf
          go_wp2
          go_ret
          rw [HF.out]
          unfold finalOf
          rw [if_neg (by omega)]
          exact of_all _ s
        · have hl2 : ¬ (s.size : Int) - (a : Int) < (q : Int) := hlong
          have hstep : ofFrom s.size br P 0 0 = ofFrom s.size br (P.drop (k + 1)) (clip br (a + q)) 0 := by
            rw [HR.out, HD.out]
            conv => lhs; unfold ofFrom
            rw [if_neg (by omega), if_neg (by omega), if_neg hlong]
            rfl
          have HS := hid hstep
          clear hstep
          go_wp2
          go_roundg (P.length - k)
          case measure => omega
          case rel =>
            refine ⟨⟨⟨k + 1, a + q, 0, by rw [Int.natCast_add], rfl, by go_num, by omega, ⟨by omega, by omega⟩, by omega, ?_⟩, by trivial⟩, k + 1, by go_num, by omega⟩
            show _ = _
            rw [HS.out]
            unfold clip
            rw [if_neg (by omega)]
    · obtain rfl : k = P.length := by omega
      have hf : ofFrom s.size br P 0 0 = finalOf s.size br := by rw [HR.out, List.drop_length]; rfl
      have HF := hid hf
      clear hf
      go_wp2
      go_ret
      rw [HF.out]
      unfold finalOf
      rw [if_neg (by omega)]
      exact of_all _ s
end Go.Proofs.YtgkenhmbilkhdaaGreatDoor
