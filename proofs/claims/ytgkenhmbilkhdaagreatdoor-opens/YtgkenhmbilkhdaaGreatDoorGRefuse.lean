import Derived.Test.YtgkenhmbilkhdaaGreatDoorGFault
import Derived.Test.YtgkenhmbilkhdaaGreatDoorGRefOf2
namespace Go.Proofs.YtgkenhmbilkhdaaGreatDoor
open Go.RowKit

theorem flacBits_no (v : Value) (k : Int) (h0 : k ≠ 0) (h1 : k ≠ 1) (w : World) : Calls Tryz.prog 37 #[v, .int .i64 k] w fun e w' =>
    e = .returned (.tuple #[.nilIface, .iface 155 (.pointer (some ⟨w.heap.size, 0, none⟩))]) ∧ Below w.heap.size w w' ∧ ErrAt w.heap.size (-1) 0 (.iface 188 (.int .i64 15)) w' := by
  go_enter Tryz.func37, Tryz.ntmps37
  go_wp2_with (first | (go_at_call 69; refine (kind_no k h0 h1 _).mono ?_; rintro e w' ⟨rfl, rfl⟩) | (go_at_call 70; refine (wrong_any _).mono ?_; rintro e w' ⟨rfl, hb, hE⟩))
  go_ret2
  exact ⟨rfl, ‹_›, ‹_›⟩

theorem flacOpen_no (v : Value) (k : Int) (h0 : k ≠ 0) (h1 : k ≠ 1) (w : World) : Calls Tryz.prog 38 #[v, .int .i64 k] w fun e w' =>
    e = .returned (.tuple #[.nilIface, .iface 155 (.pointer (some ⟨w.heap.size, 0, none⟩))]) ∧ Below w.heap.size w w' ∧ ErrAt w.heap.size (-1) 0 (.iface 188 (.int .i64 15)) w' := by
  go_enter Tryz.func38, Tryz.ntmps38
  go_wp2_with (first | (go_at_call 69; refine (kind_no k h0 h1 _).mono ?_; rintro e w' ⟨rfl, rfl⟩) | (go_at_call 70; refine (wrong_any _).mono ?_; rintro e w' ⟨rfl, hb, hE⟩))
  go_ret2
  exact ⟨rfl, ‹_›, ‹_›⟩

set_option maxHeartbeats 1000000 in
theorem plainBits_no (s : ByteArray) (p : Option Addr) (l c : Nat) (br k : Int) (h0 : k ≠ 0) (h1 : k ≠ 1) (w : World) (hG : Ground0 w) :
    Calls Tryz.prog 15 #[.agg #[.string s, .slice p l c, .int .i64 br], .int .i64 k] w fun e w' =>
      e = .returned (.tuple #[.pointer none, .agg #[.int .i64 15, .int .i64 (-1), .int .i64 0]]) ∧ Below w.heap.size w w' := by
  go_enter Tryz.func15, Tryz.ntmps15
  go_wp2_with fail
  refine (flacBits_no _ k h0 h1 _).mono ?_
  rintro e w1 ⟨rfl, hb1, hE1⟩
  simp only [World.size_alloc] at hE1
  have hb0 : Below w.heap.size w w1 := Below.trans (by go_grown) (hb1.mono (by simp; omega))
  have hR : Blk w1 (w.heap.size + 1) #[.int .i64 0, .int .i64 0, .int .i64 0] 26 := by
    have h := Blk.new (w.alloc (.cells #[.string s, .slice p l c, .int .i64 br] 24)) #[.int .i64 0, .int .i64 0, .int .i64 0] 26
    rw [World.size_alloc] at h
    exact (h.alloc _).below hb1 (by simp)
  go_wp2_with fail
  refine (fault_wrong _ _ (hG.below hb0) hE1).mono ?_
  rintro e w2 ⟨rfl, hb2⟩
  have hb3 := hb0.trans (hb2.mono hb0.size)
  have hR2 := hR.below hb2 hR.lt
  have hlt := hR2.lt
  have hy0 := hR2.cell 0
  have hy1 := hR2.cell 1
  have hy2 := hR2.cell 2
  have hz0 := hR2.free 0
  have hz1 := hR2.free 1
  have hz2 := hR2.free 2
  simp at hy0 hy1 hy2
  have hn : w2.heap.size ≠ w.heap.size + 1 := by omega
  have hr := cell_far hn
  go_wp2
  go_region
  go_wp2
  have g := ((hR2.set 0 (.int .i64 15)).set 1 (.int .i64 (-1))).set 2 (.int .i64 0)
  have g0 := (hR2.set 0 (.int .i64 15)).cell 0
  have g1 := ((hR2.set 0 (.int .i64 15)).set 1 (.int .i64 (-1))).cell 1
  have g2 := g.cell 2
  simp at g0 g1 g2
  refine bodyPost_ret (v := .tuple #[.pointer none, .agg #[.int .i64 15, .int .i64 (-1), .int .i64 0]]) (by simp [results, Tryz.results15, go_sem, g0, g1, g2, hlt]) rfl ?_
  exact ⟨rfl, ((((hb3.setCell (p := ⟨w.heap.size + 1, 0, none⟩) (by simp) _).setCell (p := ⟨w.heap.size + 1, 1, none⟩) (by simp) _).setCell (p := ⟨w.heap.size + 1, 2, none⟩) (by simp) _).alloc (by simp; omega) _).drew⟩
set_option maxHeartbeats 1000000 in
theorem plainOpen_no (s : ByteArray) (p : Option Addr) (l c : Nat) (br k : Int) (h0 : k ≠ 0) (h1 : k ≠ 1) (w : World) (hG : Ground0 w) :
    Calls Tryz.prog 16 #[.agg #[.string s, .slice p l c, .int .i64 br], .int .i64 k] w fun e w' =>
      e = .returned (.tuple #[.pointer none, .agg #[.int .i64 15, .int .i64 (-1), .int .i64 0]]) ∧ Below w.heap.size w w' := by
  go_enter Tryz.func16, Tryz.ntmps16
  go_wp2_with fail
  refine (flacOpen_no _ k h0 h1 _).mono ?_
  rintro e w1 ⟨rfl, hb1, hE1⟩
  simp only [World.size_alloc] at hE1
  have hb0 : Below w.heap.size w w1 := Below.trans (by go_grown) (hb1.mono (by simp; omega))
  have hR : Blk w1 (w.heap.size + 1) #[.int .i64 0, .int .i64 0, .int .i64 0] 26 := by
    have h := Blk.new (w.alloc (.cells #[.string s, .slice p l c, .int .i64 br] 24)) #[.int .i64 0, .int .i64 0, .int .i64 0] 26
    rw [World.size_alloc] at h
    exact (h.alloc _).below hb1 (by simp)
  go_wp2_with fail
  refine (fault_wrong _ _ (hG.below hb0) hE1).mono ?_
  rintro e w2 ⟨rfl, hb2⟩
  have hb3 := hb0.trans (hb2.mono hb0.size)
  have hR2 := hR.below hb2 hR.lt
  have hlt := hR2.lt
  have hy0 := hR2.cell 0
  have hy1 := hR2.cell 1
  have hy2 := hR2.cell 2
  have hz0 := hR2.free 0
  have hz1 := hR2.free 1
  have hz2 := hR2.free 2
  simp at hy0 hy1 hy2
  have hn : w2.heap.size ≠ w.heap.size + 1 := by omega
  have hr := cell_far hn
  go_wp2
  go_region
  go_wp2
  have g := ((hR2.set 0 (.int .i64 15)).set 1 (.int .i64 (-1))).set 2 (.int .i64 0)
  have g0 := (hR2.set 0 (.int .i64 15)).cell 0
  have g1 := ((hR2.set 0 (.int .i64 15)).set 1 (.int .i64 (-1))).cell 1
  have g2 := g.cell 2
  simp at g0 g1 g2
  refine bodyPost_ret (v := .tuple #[.pointer none, .agg #[.int .i64 15, .int .i64 (-1), .int .i64 0]]) (by simp [results, Tryz.results16, go_sem, g0, g1, g2, hlt]) rfl ?_
  exact ⟨rfl, ((((hb3.setCell (p := ⟨w.heap.size + 1, 0, none⟩) (by simp) _).setCell (p := ⟨w.heap.size + 1, 1, none⟩) (by simp) _).setCell (p := ⟨w.heap.size + 1, 2, none⟩) (by simp) _).alloc (by simp; omega) _).drew⟩

set_option maxHeartbeats 2000000 in
theorem refused_yes (k : Int) (h : k = 0 ∨ k = 1) (w : World) : Calls Tryz.prog 3 #[.int .i64 k] w fun e w' => e = .returned (.bool true) ∧ Below w.heap.size w w' := by
  rcases h with rfl | rfl
  all_goals
    go_enter Tryz.func3, Tryz.ntmps3
    go_wp2
    go_ret
    exact ⟨rfl, by go_grown⟩

set_option maxHeartbeats 2000000 in
theorem refused_no (k : Int) (h0 : k ≠ 0) (h1 : k ≠ 1) (w : World) (hG : Ground0 w) : Calls Tryz.prog 3 #[.int .i64 k] w fun e w' => e = .returned (.bool true) ∧ Below w.heap.size w w' := by
  have g0 : (k == 0) = false := by simp [h0]
  have g1 : (k == 1) = false := by simp [h1]
  go_enter Tryz.func3, Tryz.ntmps3
  go_wp2_with fail
  refine (plainSums_no _ k 1 (Or.inl ⟨h0, h1⟩) _ (hG.below (by go_grown))).mono ?_
  rintro e w1 ⟨rfl, hb1⟩
  have hS1 := (Blk.new w #[.string ⟨#[]⟩, .slice none 0 0, .int .i64 (-1)] 24).below hb1 (by simp)
  have hB1 : Below w.heap.size w w1 := Below.trans (by go_grown) (hb1.mono (by simp))
  have hl1 := hS1.lt
  have a0 := hS1.cell 0
  have a1 := hS1.cell 1
  have a2 := hS1.cell 2
  simp at a0 a1 a2
  go_wp2_with fail
  refine (plainBits_no _ _ _ _ _ k h0 h1 _ (hG.below (by go_grown))).mono ?_
  rintro e w2 ⟨rfl, hb2⟩
  have hS2 := (hS1.alloc _).below hb2 (hS1.alloc _).lt
  have hF2 := (Blk.new w1 #[.int .i64 15, .int .i64 (-1), .int .i64 0] 26).below hb2 (by simp)
  have hB2 : Below w.heap.size w w2 := Below.trans (hB1.alloc hB1.size _) (hb2.mono (by simp; omega))
  have hl2 := hS2.lt
  have hl2' := hF2.lt
  clear a0 a1 a2
  have a0 := hS2.cell 0
  have a1 := hS2.cell 1
  have a2 := hS2.cell 2
  have b0 := hF2.cell 0
  have b1 := hF2.cell 1
  have b2 := hF2.cell 2
  simp at a0 a1 a2 b0 b1 b2
  go_wp2_with fail
  refine (plainOpen_no _ _ _ _ _ k h0 h1 _ (hG.below (by go_grown))).mono ?_
  rintro e w3 ⟨rfl, hb3⟩
  have hF3 := (hF2.alloc _).below hb3 (hF2.alloc _).lt
  have hH3 := (Blk.new w2 #[.int .i64 15, .int .i64 (-1), .int .i64 0] 26).below hb3 (by simp)
  have hB3 : Below w.heap.size w w3 := Below.trans (hB2.alloc hB2.size _) (hb3.mono (by simp; omega))
  have hl3 := hF3.lt
  have hl3' := hH3.lt
  clear a0 a1 a2 b0 b1 b2
  have b0 := hF3.cell 0
  have b1 := hF3.cell 1
  have b2 := hF3.cell 2
  have c0 := hH3.cell 0
  have c1 := hH3.cell 1
  have c2 := hH3.cell 2
  simp at b0 b1 b2 c0 c1 c2
  go_wp2
  go_ret
  exact ⟨rfl, hB3.alloc hB3.size _⟩
end Go.Proofs.YtgkenhmbilkhdaaGreatDoor

namespace Go.Proofs.YtgkenhmbilkhdaaGreatDoor
open Go.RowKit

theorem small3_yes (s : ByteArray) (ap aq : Option Addr) (l c m d : Nat) (hs : s.size ≤ 1048576) (hl : l ≤ 1048576) (hm : m ≤ 1048576) (w : World) : Calls Tryz.prog 17 #[.string s, .slice ap l c, .slice aq m d] w fun e w' => e = .returned (.bool true) ∧ w' = w := by
  have h1 : decide ((s.size : Int) ≤ 1048576) = true := by simp; omega
  have h2 : decide ((l : Int) ≤ 1048576) = true := by simp; omega
  have h3 : decide ((m : Int) ≤ 1048576) = true := by simp; omega
  have g1 : (s.size : Int) ≤ 1048576 := by omega
  have g2 : (l : Int) ≤ 1048576 := by omega
  have g3 : (m : Int) ≤ 1048576 := by omega
  go_enter Tryz.func17, Tryz.ntmps17
  go_wp2
  go_ret
  exact ⟨by simp, rfl⟩
theorem small3_no (s : ByteArray) (ap aq : Option Addr) (l c m d : Nat) (h : ¬ (s.size ≤ 1048576 ∧ l ≤ 1048576 ∧ m ≤ 1048576)) (w : World) : Calls Tryz.prog 17 #[.string s, .slice ap l c, .slice aq m d] w fun e w' => e = .returned (.bool false) ∧ w' = w := by
  by_cases a1 : s.size ≤ 1048576
  · have h1 : (s.size : Int) ≤ 1048576 := by omega
    by_cases a2 : l ≤ 1048576
    · have h2 : (l : Int) ≤ 1048576 := by omega
      have h3 : ¬ (m : Int) ≤ 1048576 := by omega
      go_enter Tryz.func17, Tryz.ntmps17
      go_wp2
      go_ret
      exact ⟨by simp, rfl⟩
    · have h2 : ¬ (l : Int) ≤ 1048576 := by omega
      go_enter Tryz.func17, Tryz.ntmps17
      go_wp2
      go_ret
      exact ⟨by simp, rfl⟩
  · have h1 : ¬ (s.size : Int) ≤ 1048576 := by omega
    go_enter Tryz.func17, Tryz.ntmps17
    go_wp2
    go_ret
    exact ⟨by simp, rfl⟩

theorem askAny (HI : ItoaAll) (k : Nat) (hk : k = 0 ∨ k = 1) (B p c : Nat) (S : Src) (I : Inp) (pos : Nat) (mk : Bool) (mark : Nat) (r : RdS) (pb sb : Nat) (tx : ByteArray) (n : Int) (h3 : -9223372036854775808 ≤ n) (h4 : n < 9223372036854775808) (w : World) (hB : 8 ≤ B) (hG : Ground0 w) (h : Ask k w B p c S I pos mk mark r pb sb tx) :
    Calls Tryz.prog 19 #[.pointer (some ⟨pb, 0, none⟩), .pointer (some ⟨sb, 0, none⟩), .int .i64 n] w fun e w' => AskPost k w B p c S I mk mark r pb sb tx e w' := by
  by_cases h1 : n = -1
  · subst h1; exact asked_unary HI k hk B p c S I pos mk mark r pb sb tx w hB hG h
  by_cases h2 : n = -2
  · subst h2; exact asked_align k hk B p c S I pos mk mark r pb sb tx w hB hG h
  by_cases h5 : 0 ≤ n ∧ n ≤ 64
  · obtain ⟨m, rfl⟩ := Int.eq_ofNat_of_zero_le h5.1
    exact asked_read HI k hk B p c S I pos mk mark r pb sb tx m (by omega) w hB hG h
  · exact asked_arg HI k hk B p c S I pos mk mark r pb sb tx n (by omega) h1 h2 h3 h4 w hB hG h

/-- What comes of a source, as numbers. -/
def inpOf (s : ByteArray) (P : List Int) (br : Int) : Inp := ⟨(bytesOf s).take (ofFrom s.size br P 0 0).1, (ofFrom s.size br P 0 0).2⟩
theorem inp_len (s : ByteArray) (P : List Int) (br : Int) : (inpOf s P br).T.length = (ofFrom s.size br P 0 0).1 ∧ (inpOf s P br).T.length ≤ s.size := by
  have h := of_ge (N := s.size) (br := br) P 0 0 ⟨by omega, by omega⟩
  have e : (inpOf s P br).T.length = (ofFrom s.size br P 0 0).1 := by
    show ((bytesOf s).take _).length = _
    rw [List.length_take, bytesOf_len]
    omega
  exact ⟨e, by omega⟩
def rd0 : RdS := ⟨.slice none 0 0, 0, 0, .nilIface, 0, 0, 0⟩
/-- A reader that has been made. -/
theorem rdk_new {w : World} {B p c k : Nat} (hk : k = 0 ∨ k = 1) {s : ByteArray} {pv : Value} {P : List Int} {br : Int} (hp : Blk w p (rdCells c (.slice none 0 0) 0 .nilIface 0 false 0 (rdEx k)) (rdT k)) (hc : Blk w c (srcCells s pv br 0 0 0) 84) (hP : IntsAt w B pv P) (h1 : B ≤ c) (h2 : B ≤ p) (h3 : B ≤ w.heap.size)
    (hs : s.size ≤ 1048576) (hP20 : P.length ≤ 1048576) (hpi : ∀ x ∈ P, -9223372036854775808 ≤ x ∧ x < 9223372036854775808) (hbr : br < 9223372036854775808) : RdK k w B p c ⟨s, pv, P, br⟩ (inpOf s P br) 0 false 0 rd0 := by
  have hl := inp_len s P br
  have hx : RdX w B p c (rdT k) (rdEx k) ⟨s, pv, P, br⟩ (inpOf s P br) 0 false 0 rd0 := by
    refine ⟨hp, ?_, Or.inl ⟨rfl, by simp [rd0]⟩, hc, hP, ⟨h1, h2, h3⟩, ⟨hs, hP20, hpi, hbr⟩, ⟨⟨by show 0 ≤ s.size; omega, by intro h; exact h⟩, by show 0 < 9223372036854775808; omega, by show 0 ≤ P.length; omega⟩, ?_, ⟨by show 0 ≤ 0; omega, by show 0 ≤ _; omega⟩, of_stop P 0 0, Or.inl ⟨rfl, rfl, ?_⟩⟩
    · unfold rdT
      rcases hk with rfl | rfl <;> simp <;> decide
    · rw [hl.1]; rfl
    · show srcRes s.size br P 0 0 0 0 = _
      unfold srcRes
      rw [if_pos rfl, List.drop_zero, hl.1]
      rfl
  have ho : RdOk w B p c (rdT k) (rdEx k) ⟨s, pv, P, br⟩ (inpOf s P br) 0 false 0 rd0 := ⟨hx, by show 0 ≤ 8 * 0; omega, by show 0 ≤ 0 / 8; omega, by intro h; cases h⟩
  rcases hk with rfl | rfl
  · exact ho
  · exact ⟨0, 0, ho, pool_none _ _, rfl, by show 0 + 0 ≤ 8 * 0; omega⟩

theorem bits_far (s : ByteArray) (ap aq : Option Addr) (l c m d : Nat) (br kind : Int) (h : ¬ (s.size ≤ 1048576 ∧ l ≤ 1048576 ∧ m ≤ 1048576)) (w : World) :
    Calls Tryz.prog 4 #[.string s, .slice ap l c, .int .i64 br, .int .i64 kind, .slice aq m d] w fun e w' => e = .returned (.bool true) ∧ Below w.heap.size w w' := by
  go_enter Tryz.func4, Tryz.ntmps4
  go_wp2_with fail
  refine (small3_no s ap aq l c m d h _).mono ?_
  rintro e w1 ⟨rfl, rfl⟩
  go_wp2
  go_ret
  exact ⟨rfl, by go_grown⟩

set_option maxHeartbeats 4000000 in
set_option maxRecDepth 10000 in
theorem bits_no (s : ByteArray) (ap aq : Option Addr) (l c m d : Nat) (br kind : Int) (hs : s.size ≤ 1048576) (hl : l ≤ 1048576) (hm : m ≤ 1048576) (h0 : kind ≠ 0) (h1 : kind ≠ 1) (w : World) (hG : Ground0 w) :
    Calls Tryz.prog 4 #[.string s, .slice ap l c, .int .i64 br, .int .i64 kind, .slice aq m d] w fun e w' => e = .returned (.bool true) ∧ Below w.heap.size w w' := by
  have g0 : (kind != 0) = true := by simp [h0]
  have g1 : (kind != 1) = true := by simp [h1]
  go_enter Tryz.func4, Tryz.ntmps4
  go_wp2_with fail
  refine (small3_yes s ap aq l c m d hs hl hm _).mono ?_
  rintro e w1 ⟨rfl, rfl⟩
  go_wp2_with fail
  refine (plainBits_no s ap l c br kind h0 h1 _ hG).mono ?_
  rintro e w2 ⟨rfl, hb2⟩
  go_wp2
  go_ret
  exact ⟨rfl, hb2.alloc hb2.size _⟩

theorem ground_lt {w : World} (h : Ground0 w) : 0 < w.heap.size ∧ 3 < w.heap.size := ⟨h.lt, h.1.lt⟩
end Go.Proofs.YtgkenhmbilkhdaaGreatDoor

namespace Go.Proofs.YtgkenhmbilkhdaaGreatDoor
open Go.RowKit

def BitsRel (k : Nat) (w : World) (p c : Nat) (S : Src) (I : Inp) (pb sb : Nat) (tx : ByteArray) (m : Nat) (v : Value) (wr : World) : Prop :=
  ∃ (j pos : Nat) (r : RdS), v = .int .i64 j ∧ j ≤ m ∧ Below w.heap.size w wr ∧ Ask k wr w.heap.size p c S I pos false 0 r pb sb tx

set_option maxHeartbeats 8000000 in
set_option maxRecDepth 10000 in
theorem bits_yes (HI : ItoaAll) (k : Nat) (hk : k = 0 ∨ k = 1) (s : ByteArray) (ap aq : Option Addr) (c d : Nat) (br : Int) (P O : List Int) (hs : s.size ≤ 1048576) (hP20 : P.length ≤ 1048576) (hO20 : O.length ≤ 1048576) (hpi : ∀ x ∈ P, -9223372036854775808 ≤ x ∧ x < 9223372036854775808) (hoi : ∀ x ∈ O, -9223372036854775808 ≤ x ∧ x < 9223372036854775808) (hbr : br < 9223372036854775808)
    (w : World) (hB : 8 ≤ w.heap.size) (hG : Ground0 w) (hP : IntsAt w w.heap.size (.slice ap P.length c) P) (hO : IntsAt w w.heap.size (.slice aq O.length d) O) :
    Calls Tryz.prog 4 #[.string s, .slice ap P.length c, .int .i64 br, .int .i64 (k : Int), .slice aq O.length d] w fun e w' => e = .returned (.bool true) ∧ Below w.heap.size w w' := by
  have g2 : ((k : Int) != 0 && (k : Int) != 1) = false := by rcases hk with rfl | rfl <;> rfl
  have HPI := hid hpi
  have HOI := hid hoi
  clear hpi hoi
  have HSM := hid (fun W => small3_yes s ap aq P.length c O.length d hs hP20 hO20 W)
  have HNB := hid (fun W => pbNew k hk s ap P.length c br W)
  have HOC : Hid (∀ i, i < O.length → ∃ g off, aq = some ⟨g, off, none⟩ ∧ g < w.heap.size ∧ w.cell? ⟨g, off + i, none⟩ = some (.int .i64 (O.getD i 0))) := by
    rcases hO with ⟨ap0, cap, e1, e2⟩ | ⟨g, off, cap, hg, e1, hc⟩
    · intro i hi; rw [e2] at hi; simp at hi
    · intro i hi
      injection e1 with e1 _ _
      exact ⟨g, off, e1, hg, hc i hi⟩
  have HP := hid hP
  clear hP hO
  go_enter Tryz.func4, Tryz.ntmps4
  go_wp2_with fail
  refine (HSM.out _).mono ?_
  rintro e w1 ⟨rfl, rfl⟩
  go_wp2_with fail
  refine (HNB.out _).mono ?_
  rintro e w2 ⟨pb, rfl, hb2, hpb, hPB, hRD, hSR⟩
  unfold faultV
  rcases hk with rfl | rfl
  all_goals
    have hb3 : Below w1.heap.size w1 (w2.alloc (.cells #[.int .i64 0, .int .i64 0, .int .i64 0] 26)) := hb2.alloc hb2.size _
    have HOF := hid (of_any s (.slice ap P.length c) P br w1.heap.size hs hP20 HPI.out hbr _ (HP.out.below hb3))
    go_wp2_with fail
    refine HOF.out.mono ?_
    rintro e w4 ⟨tx, rfl, hb4, hST, htx⟩
    have hlt4 := hST.lt
    simp only [World.size_alloc] at hST hb4 hlt4
    have hsz2 := hb2.size
    have hb5 : Below w1.heap.size w1 w4 := hb3.trans (hb4.mono (by omega))
    have hRD4 := (hRD.alloc _).below hb4 (by have := hRD.lt; omega)
    have hSR4 := (hSR.alloc _).below hb4 (by have := hSR.lt; omega)
    have hPB4 := (hPB.alloc _).below hb4 (by have := hPB.lt; omega)
    have hil := inp_len s P br
    have hask := Ask.mk (rdk_new (B := w1.heap.size) (by omega) hRD4 hSR4 (HP.out.below hb5) (by omega) (by omega) hb5.size hs hP20 HPI.out hbr) (⟨hST, htx, by omega, of_stop P 0 0, by omega⟩ : StAt w4 (w2.heap.size + 1) tx (inpOf s P br) 0) hPB4 (by omega)
    have HASK := hid hask
    clear hask hST htx hRD hSR hPB hRD4 hSR4 hPB4 HOF HNB HSM hil
    rw [World.size_alloc]
    go_wp2
    go_loopg [15] (O.length + 1) (fun gk v wr => BitsRel _ w1 (w1.heap.size + 3) (w1.heap.size + 2) ⟨s, .slice ap P.length c, P, br⟩ (inpOf s P br) pb (w2.heap.size + 1) tx O.length v wr ∧ ∃ j : Nat, v = .int .i64 j ∧ gk + j = O.length + 1)
    case atStart => exact ⟨⟨0, 0, rd0, rfl, by omega, hb5, HASK.out⟩, 0, rfl, rfl⟩
    case round =>
      obtain ⟨⟨j, pos, r, rfl, hj, hb, hA⟩, j', hjj, hgk⟩ := hrel
      obtain rfl : j = j' := by injection hjj with _ hjj; omega
      clear hjj
      by_cases hjl : j < O.length
      · have hjl' : (j : Int) < (O.length : Int) := by omega
        obtain ⟨g, off, rfl, hg, hcell⟩ := HOC.out j hjl
        have hcj := (hb.cell (p := ⟨g, off + j, none⟩) hg).trans hcell
        have hn := HOI.out (O.getD j 0) (by rw [List.getD_eq_getElem?_getD, List.getElem?_eq_getElem hjl]; exact List.getElem_mem hjl)
        clear hcell
        generalize O.getD j 0 = n at hcj hn
        have HQ := hid (askAny HI _ (by omega) w1.heap.size _ _ _ _ pos false 0 r pb (w2.heap.size + 1) tx n hn.1 hn.2 wr hB (hG.belowB hB hb) hA)
        have hbd := hA.rd.bounds
        have hge := hA.ge
        clear hA
        go_wp2_with fail
        refine HQ.out.mono ?_
        rintro e w6 ⟨r6, pos6, rfl, hK6, hf6, hR6, hS6, hP6⟩
        have hb6 : Below w1.heap.size wr w6 := hK6.below (fun i hi => by
          simp only [List.mem_cons] at hi
          rcases hi with h | h
          · omega
          · exact hbd.2.2.2.2 i (by simpa using h)) hb.size
        go_wp2
        go_roundg (O.length - j)
        case measure => omega
        case rel => exact ⟨⟨j + 1, pos6, r6, by go_num, by omega, hb.trans hb6, ⟨hR6, hS6, hP6, hge⟩⟩, j + 1, by go_num, by omega⟩
      · have HOD := hid (pbOdd _ _ _ _ _ _ _ _ _ _ pb wr hA.rd hA.pb)
        have hjl' : ¬ (j : Int) < (O.length : Int) := by omega
        clear hA
        go_wp2_with fail
        refine HOD.out.mono ?_
        rintro e w7 ⟨rfl, rfl⟩
        go_wp2
        go_ret
        exact ⟨rfl, hb⟩
end Go.Proofs.YtgkenhmbilkhdaaGreatDoor
