import Derived.Test.YtgkenhmbilkhdaaGreatDoorGround
namespace Go.Proofs.YtgkenhmbilkhdaaGreatDoor
open Go.RowKit

theorem flacBits_no (v : Value) (k : Int) (h0 : k ≠ 0) (h1 : k ≠ 1) (w : World) : Calls Tryz.prog 37 #[v, .int .i64 k] w fun e w' =>
    e = .returned (.tuple #[.nilIface, .iface 155 (.pointer (some ⟨w.heap.size, 0, none⟩))]) ∧ Below w.heap.size w w' ∧ ErrAt w.heap.size (-1) 0 (.iface 188 (.int .i64 15)) w' := by
  go_enter Tryz.func37, Tryz.ntmps37
  go_wp2_with (first | (go_at_call 69; refine (kind_no k h0 h1 _).mono ?_; rintro e w' ⟨rfl, rfl⟩) | (go_at_call 70; refine (wrong_any _).mono ?_; rintro e w' ⟨rfl, hb, hE⟩))
  go_ret2
  exact ⟨rfl, ‹_›, ‹_›⟩

theorem flacOpen_no (v : Value) (k : Int) (h0 : k ≠ 0) (h1 : k ≠ 1) (w : World) : Calls Tryz.prog 38 #[v, .int .i64 k] w fun e w' =>
    e = .returned (.tuple #[.nilIface, .iface 155 (.pointer (some ⟨w.heap.size, 0, none⟩))]) ∧ Below w.heap.size w w' ∧ ErrAt w.heap.size (-1) 0 (.iface 188 (.int .i64 15)) w' := by
  go_enter Tryz.func38, Tryz.ntmps38
  go_wp2_with (first | (go_at_call 69; refine (kind_no k h0 h1 _).mono ?_; rintro e w' ⟨rfl, rfl⟩) | (go_at_call 70; refine (wrong_any _).mono ?_; rintro e w' ⟨rfl, hb, hE⟩))
  go_ret2
  exact ⟨rfl, ‹_›, ‹_›⟩

set_option maxHeartbeats 1000000 in
theorem plainBits_no (s : ByteArray) (p : Option Addr) (l c : Nat) (br k : Int) (h0 : k ≠ 0) (h1 : k ≠ 1) (w : World) (hG : Ground0 w) :
    Calls Tryz.prog 15 #[.agg #[.string s, .slice p l c, .int .i64 br], .int .i64 k] w fun e w' =>
      e = .returned (.tuple #[.pointer none, .agg #[.int .i64 15, .int .i64 (-1), .int .i64 0]]) ∧ Below w.heap.size w w' := by
  go_enter Tryz.func15, Tryz.ntmps15
  go_wp2_with fail
  refine (flacBits_no _ k h0 h1 _).mono ?_
  rintro e w1 ⟨rfl, hb1, hE1⟩
  simp only [World.size_alloc] at hE1
  have hb0 : Below w.heap.size w w1 := Below.trans (by go_grown) (hb1.mono (by simp; omega))
  have hR : Blk w1 (w.heap.size + 1) #[.int .i64 0, .int .i64 0, .int .i64 0] 26 := by
    have h := Blk.new (w.alloc (.cells #[.string s, .slice p l c, .int .i64 br] 24)) #[.int .i64 0, .int .i64 0, .int .i64 0] 26
    rw [World.size_alloc] at h
    exact (h.alloc _).below hb1 (by simp)
  go_wp2_with fail
  refine (fault_wrong _ _ (hG.below hb0) hE1).mono ?_
  rintro e w2 ⟨rfl, hb2⟩
  have hb3 := hb0.trans (hb2.mono hb0.size)
  have hR2 := hR.below hb2 hR.lt
  have hlt := hR2.lt
  have hy0 := hR2.cell 0
  have hy1 := hR2.cell 1
  have hy2 := hR2.cell 2
  have hz0 := hR2.free 0
  have hz1 := hR2.free 1
  have hz2 := hR2.free 2
  simp at hy0 hy1 hy2
  have hn : w2.heap.size ≠ w.heap.size + 1 := by omega
  have hr := cell_far hn
  go_wp2
  go_region
  go_wp2
  have g := ((hR2.set 0 (.int .i64 15)).set 1 (.int .i64 (-1))).set 2 (.int .i64 0)
  have g0 := (hR2.set 0 (.int .i64 15)).cell 0
  have g1 := ((hR2.set 0 (.int .i64 15)).set 1 (.int .i64 (-1))).cell 1
  have g2 := g.cell 2
  simp at g0 g1 g2
  refine bodyPost_ret (v := .tuple #[.pointer none, .agg #[.int .i64 15, .int .i64 (-1), .int .i64 0]]) (by simp [results, Tryz.results15, go_sem, g0, g1, g2, hlt]) rfl ?_
  exact ⟨rfl, ((((hb3.setCell (p := ⟨w.heap.size + 1, 0, none⟩) (by simp) _).setCell (p := ⟨w.heap.size + 1, 1, none⟩) (by simp) _).setCell (p := ⟨w.heap.size + 1, 2, none⟩) (by simp) _).alloc (by simp; omega) _).drew⟩
set_option maxHeartbeats 1000000 in
theorem plainOpen_no (s : ByteArray) (p : Option Addr) (l c : Nat) (br k : Int) (h0 : k ≠ 0) (h1 : k ≠ 1) (w : World) (hG : Ground0 w) :
    Calls Tryz.prog 16 #[.agg #[.string s, .slice p l c, .int .i64 br], .int .i64 k] w fun e w' =>
      e = .returned (.tuple #[.pointer none, .agg #[.int .i64 15, .int .i64 (-1), .int .i64 0]]) ∧ Below w.heap.size w w' := by
  go_enter Tryz.func16, Tryz.ntmps16
  go_wp2_with fail
  refine (flacOpen_no _ k h0 h1 _).mono ?_
  rintro e w1 ⟨rfl, hb1, hE1⟩
  simp only [World.size_alloc] at hE1
  have hb0 : Below w.heap.size w w1 := Below.trans (by go_grown) (hb1.mono (by simp; omega))
  have hR : Blk w1 (w.heap.size + 1) #[.int .i64 0, .int .i64 0, .int .i64 0] 26 := by
    have h := Blk.new (w.alloc (.cells #[.string s, .slice p l c, .int .i64 br] 24)) #[.int .i64 0, .int .i64 0, .int .i64 0] 26
    rw [World.size_alloc] at h
    exact (h.alloc _).below hb1 (by simp)
  go_wp2_with fail
  refine (fault_wrong _ _ (hG.below hb0) hE1).mono ?_
  rintro e w2 ⟨rfl, hb2⟩
  have hb3 := hb0.trans (hb2.mono hb0.size)
  have hR2 := hR.below hb2 hR.lt
  have hlt := hR2.lt
  have hy0 := hR2.cell 0
  have hy1 := hR2.cell 1
  have hy2 := hR2.cell 2
  have hz0 := hR2.free 0
  have hz1 := hR2.free 1
  have hz2 := hR2.free 2
  simp at hy0 hy1 hy2
  have hn : w2.heap.size ≠ w.heap.size + 1 := by omega
  have hr := cell_far hn
  go_wp2
  go_region
  go_wp2
  have g := ((hR2.set 0 (.int .i64 15)).set 1 (.int .i64 (-1))).set 2 (.int .i64 0)
  have g0 := (hR2.set 0 (.int .i64 15)).cell 0
  have g1 := ((hR2.set 0 (.int .i64 15)).set 1 (.int .i64 (-1))).cell 1
  have g2 := g.cell 2
  simp at g0 g1 g2
  refine bodyPost_ret (v := .tuple #[.pointer none, .agg #[.int .i64 15, .int .i64 (-1), .int .i64 0]]) (by simp [results, Tryz.results16, go_sem, g0, g1, g2, hlt]) rfl ?_
  exact ⟨rfl, ((((hb3.setCell (p := ⟨w.heap.size + 1, 0, none⟩) (by simp) _).setCell (p := ⟨w.heap.size + 1, 1, none⟩) (by simp) _).setCell (p := ⟨w.heap.size + 1, 2, none⟩) (by simp) _).alloc (by simp; omega) _).drew⟩

set_option maxHeartbeats 2000000 in
theorem refused_yes (k : Int) (h : k = 0 ∨ k = 1) (w : World) : Calls Tryz.prog 3 #[.int .i64 k] w fun e w' => e = .returned (.bool true) ∧ Below w.heap.size w w' := by
  rcases h with rfl | rfl
  all_goals
    go_enter Tryz.func3, Tryz.ntmps3
    go_wp2
    go_ret
    exact ⟨rfl, by go_grown⟩

set_option maxHeartbeats 2000000 in
theorem refused_no (k : Int) (h0 : k ≠ 0) (h1 : k ≠ 1) (w : World) (hG : Ground0 w) : Calls Tryz.prog 3 #[.int .i64 k] w fun e w' => e = .returned (.bool true) ∧ Below w.heap.size w w' := by
  have g0 : (k == 0) = false := by simp [h0]
  have g1 : (k == 1) = false := by simp [h1]
  go_enter Tryz.func3, Tryz.ntmps3
  go_wp2_with fail
  refine (plainSums_no _ k 1 (Or.inl ⟨h0, h1⟩) _ (hG.below (by go_grown))).mono ?_
  rintro e w1 ⟨rfl, hb1⟩
  have hS1 := (Blk.new w #[.string ⟨#[]⟩, .slice none 0 0, .int .i64 (-1)] 24).below hb1 (by simp)
  have hB1 : Below w.heap.size w w1 := Below.trans (by go_grown) (hb1.mono (by simp))
  have hl1 := hS1.lt
  have a0 := hS1.cell 0
  have a1 := hS1.cell 1
  have a2 := hS1.cell 2
  simp at a0 a1 a2
  go_wp2_with fail
  refine (plainBits_no _ _ _ _ _ k h0 h1 _ (hG.below (by go_grown))).mono ?_
  rintro e w2 ⟨rfl, hb2⟩
  have hS2 := (hS1.alloc _).below hb2 (hS1.alloc _).lt
  have hF2 := (Blk.new w1 #[.int .i64 15, .int .i64 (-1), .int .i64 0] 26).below hb2 (by simp)
  have hB2 : Below w.heap.size w w2 := Below.trans (hB1.alloc hB1.size _) (hb2.mono (by simp; omega))
  have hl2 := hS2.lt
  have hl2' := hF2.lt
  clear a0 a1 a2
  have a0 := hS2.cell 0
  have a1 := hS2.cell 1
  have a2 := hS2.cell 2
  have b0 := hF2.cell 0
  have b1 := hF2.cell 1
  have b2 := hF2.cell 2
  simp at a0 a1 a2 b0 b1 b2
  go_wp2_with fail
  refine (plainOpen_no _ _ _ _ _ k h0 h1 _ (hG.below (by go_grown))).mono ?_
  rintro e w3 ⟨rfl, hb3⟩
  have hF3 := (hF2.alloc _).below hb3 (hF2.alloc _).lt
  have hH3 := (Blk.new w2 #[.int .i64 15, .int .i64 (-1), .int .i64 0] 26).below hb3 (by simp)
  have hB3 : Below w.heap.size w w3 := Below.trans (hB2.alloc hB2.size _) (hb3.mono (by simp; omega))
  have hl3 := hF3.lt
  have hl3' := hH3.lt
  clear a0 a1 a2 b0 b1 b2
  have b0 := hF3.cell 0
  have b1 := hF3.cell 1
  have b2 := hF3.cell 2
  have c0 := hH3.cell 0
  have c1 := hH3.cell 1
  have c2 := hH3.cell 2
  simp at b0 b1 b2 c0 c1 c2
  go_wp2
  go_ret
  exact ⟨rfl, hB3.alloc hB3.size _⟩
end Go.Proofs.YtgkenhmbilkhdaaGreatDoor
