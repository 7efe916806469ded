import Derived.Test.YtlonjkpnhdfjiaaDoorFault
namespace Go.Proofs.YtlonjkpnhdfjiaaDoor
open Go.RowKit

/-- What the world must hold for a fault to be made: the library's table, and the type's handle. -/
def Ground0 (w : World) : Prop := Tab w ∧ w.cell? ⟨0, 0, none⟩ = some (.iface 166 (.agg #[.pointer (some ⟨6, 47, none⟩)]))

theorem Ground0.lt {w : World} (h : Ground0 w) : 0 < w.heap.size := by
  have hg := h.2
  rcases Nat.lt_or_ge 0 w.heap.size with h | h
  · exact h
  · simp [World.cell?, Array.getElem?_eq_none h] at hg

theorem Ground0.below {w w' : World} (h : Ground0 w) (hb : Below w.heap.size w w') : Ground0 w' :=
  ⟨h.1.below h.1.lt hb, (hb.cell (p := ⟨0, 0, none⟩) h.lt).trans h.2⟩

theorem new_drew {X : World} {g : Nat} (h : X.heap.size = g) (C : Array Value) (t : TypeId) (i : Nat) : (X.alloc (.cells C t)).drew.cell? ⟨g, i, none⟩ = C[i]? := by
  subst h
  exact (Blk.new X C t).drew.cell i

theorem wrong_any (w : World) : Calls Tryd.prog 30 #[] w fun e w' => e = .returned (.iface 96 (.pointer (some ⟨w.heap.size, 0, none⟩))) ∧ Below w.heap.size w w' ∧ ErrAt w.heap.size (-1) 0 (.iface 118 (.int .i64 15)) w' := by
  go_enter Tryd.func30, Tryd.ntmps30
  go_wp2
  go_ret
  exact ⟨rfl, by go_grown, by simp [ErrAt]⟩

theorem kind_no (k : Int) (h0 : k ≠ 0) (h1 : k ≠ 1) (w : World) : Calls Tryd.prog 29 #[.int .i64 k] w fun e w' => e = .returned (.bool false) ∧ w' = w := by
  have g0 : (k == 0) = false := by simp [h0]
  have g1 : (k == 1) = false := by simp [h1]
  go_enter Tryd.func29, Tryd.ntmps29
  go_wp2
  go_ret
  exact ⟨rfl, rfl⟩

theorem kind_yes (k : Int) (h : k = 0 ∨ k = 1) (w : World) : Calls Tryd.prog 29 #[.int .i64 k] w fun e w' => e = .returned (.bool true) ∧ w' = w := by
  rcases h with rfl | rfl
  all_goals
    go_enter Tryd.func29, Tryd.ntmps29
    go_wp2
    go_ret
    exact ⟨rfl, rfl⟩

theorem fault_wrong (b : Nat) (w : World) (hG : Ground0 w) (hE : ErrAt b (-1) 0 (.iface 118 (.int .i64 15)) w) :
    Calls Tryd.prog 16 #[.iface 96 (.pointer (some ⟨b, 0, none⟩))] w fun e w' => e = .returned (.agg #[.int .i64 15, .int .i64 (-1), .int .i64 0]) ∧ Below w.heap.size w w' :=
  fault_A b 15 (by omega) (by omega) (-1) 0 itoa_neg1 itoa_zero w hG.1 hG.2 hE

theorem flacSums_no (s : ByteArray) (k n : Int) (h : (k ≠ 0 ∧ k ≠ 1) ∨ n < 1) (w : World) : Calls Tryd.prog 15 #[.string s, .int .i64 k, .int .i64 n] w fun e w' =>
    e = .returned (.tuple #[.int .u8 0, .int .u16 0, .string ⟨#[]⟩, .iface 96 (.pointer (some ⟨w.heap.size, 0, none⟩))]) ∧ Below w.heap.size w w' ∧ ErrAt w.heap.size (-1) 0 (.iface 118 (.int .i64 15)) w' := by
  by_cases hk : k ≠ 0 ∧ k ≠ 1
  · go_enter Tryd.func15, Tryd.ntmps15
    go_wp2_with (first | (go_at_call 29; refine (kind_no k hk.1 hk.2 _).mono ?_; rintro e w' ⟨rfl, rfl⟩) | (go_at_call 30; refine (wrong_any _).mono ?_; rintro e w' ⟨rfl, hb, hE⟩))
    exact bodyPost_ret (v := .tuple #[.int .u8 0, .int .u16 0, .string ⟨#[]⟩, .iface 96 (.pointer (some ⟨_, 0, none⟩))]) (by simp [results, Tryd.results15, go_sem]) rfl ⟨rfl, ‹_›, ‹_›⟩
  · have hn : n < 1 := by omega
    go_enter Tryd.func15, Tryd.ntmps15
    go_wp2_with (first | (go_at_call 29; refine (kind_yes k (by omega) _).mono ?_; rintro e w' ⟨rfl, rfl⟩) | (go_at_call 30; refine (wrong_any _).mono ?_; rintro e w' ⟨rfl, hb, hE⟩))
    exact bodyPost_ret (v := .tuple #[.int .u8 0, .int .u16 0, .string ⟨#[]⟩, .iface 96 (.pointer (some ⟨_, 0, none⟩))]) (by simp [results, Tryd.results15, go_sem]) rfl ⟨rfl, ‹_›, ‹_›⟩

theorem plainSums_no (s : ByteArray) (k n : Int) (h : (k ≠ 0 ∧ k ≠ 1) ∨ n < 1) (w : World) (hG : Ground0 w) : Calls Tryd.prog 6 #[.string s, .int .i64 k, .int .i64 n] w fun e w' =>
    e = .returned (.tuple #[.int .i64 0, .int .i64 0, .string ⟨#[]⟩, .agg #[.int .i64 15, .int .i64 (-1), .int .i64 0]]) ∧ Below w.heap.size w w' := by
  go_enter Tryd.func6, Tryd.ntmps6
  go_wp2_with fail
  refine (flacSums_no s k n h _).mono ?_
  rintro e w1 ⟨rfl, hb1, hE1⟩
  rw [World.size_alloc] at hE1
  have hb0 : Below w.heap.size w w1 := (show Below w.heap.size w (w.alloc (.cells #[.int .i64 0, .int .i64 0, .int .i64 0] 26)) by go_grown).trans (hb1.mono (by simp))
  have hR : Blk w1 w.heap.size #[.int .i64 0, .int .i64 0, .int .i64 0] 26 := (Blk.new _ _ _).below hb1 (by simp)
  go_wp2_with fail
  refine (fault_wrong _ _ (hG.below hb0) hE1).mono ?_
  rintro e w2 ⟨rfl, hb2⟩
  have hb3 := hb0.trans (hb2.mono hb0.size)
  have hR2 := hR.below hb2 hR.lt
  have hy0 := hR2.cell 0
  have hy1 := hR2.cell 1
  have hy2 := hR2.cell 2
  have hz0 := hR2.free 0
  have hz1 := hR2.free 1
  have hz2 := hR2.free 2
  simp at hy0 hy1 hy2
  have g0 := (hR2.set 0 (.int .i64 15)).cell 0
  have g1 := ((hR2.set 0 (.int .i64 15)).set 1 (.int .i64 (-1))).cell 1
  have g2 := (((hR2.set 0 (.int .i64 15)).set 1 (.int .i64 (-1))).set 2 (.int .i64 0)).cell 2
  simp at g0 g1 g2
  go_wp2
  refine bodyPost_ret (v := .tuple #[.int .i64 0, .int .i64 0, .string ⟨#[]⟩, .agg #[.int .i64 15, .int .i64 (-1), .int .i64 0]]) (by simp [results, Tryd.results6, go_sem, g0, g1, g2]) rfl ?_
  exact ⟨rfl, ((hb3.setCell (p := ⟨w.heap.size, 0, none⟩) (by simp) _).setCell (p := ⟨w.heap.size, 1, none⟩) (by simp) _).setCell (p := ⟨w.heap.size, 2, none⟩) (by simp) _⟩

theorem flacBits_no (v : Value) (k : Int) (h0 : k ≠ 0) (h1 : k ≠ 1) (w : World) : Calls Tryd.prog 17 #[v, .int .i64 k] w fun e w' =>
    e = .returned (.tuple #[.nilIface, .iface 96 (.pointer (some ⟨w.heap.size, 0, none⟩))]) ∧ Below w.heap.size w w' ∧ ErrAt w.heap.size (-1) 0 (.iface 118 (.int .i64 15)) w' := by
  go_enter Tryd.func17, Tryd.ntmps17
  go_wp2_with (first | (go_at_call 29; refine (kind_no k h0 h1 _).mono ?_; rintro e w' ⟨rfl, rfl⟩) | (go_at_call 30; refine (wrong_any _).mono ?_; rintro e w' ⟨rfl, hb, hE⟩))
  go_ret2
  exact ⟨rfl, ‹_›, ‹_›⟩

theorem flacOpen_no (v : Value) (k : Int) (h0 : k ≠ 0) (h1 : k ≠ 1) (w : World) : Calls Tryd.prog 18 #[v, .int .i64 k] w fun e w' =>
    e = .returned (.tuple #[.nilIface, .iface 96 (.pointer (some ⟨w.heap.size, 0, none⟩))]) ∧ Below w.heap.size w w' ∧ ErrAt w.heap.size (-1) 0 (.iface 118 (.int .i64 15)) w' := by
  go_enter Tryd.func18, Tryd.ntmps18
  go_wp2_with (first | (go_at_call 29; refine (kind_no k h0 h1 _).mono ?_; rintro e w' ⟨rfl, rfl⟩) | (go_at_call 30; refine (wrong_any _).mono ?_; rintro e w' ⟨rfl, hb, hE⟩))
  go_ret2
  exact ⟨rfl, ‹_›, ‹_›⟩

set_option maxHeartbeats 1000000 in
theorem plainBits_no (s : ByteArray) (p : Option Addr) (l c : Nat) (br k : Int) (h0 : k ≠ 0) (h1 : k ≠ 1) (w : World) (hG : Ground0 w) :
    Calls Tryd.prog 7 #[.agg #[.string s, .slice p l c, .int .i64 br], .int .i64 k] w fun e w' =>
      e = .returned (.tuple #[.pointer none, .agg #[.int .i64 15, .int .i64 (-1), .int .i64 0]]) ∧ Below w.heap.size w w' := by
  go_enter Tryd.func7, Tryd.ntmps7
  go_wp2_with fail
  refine (flacBits_no _ k h0 h1 _).mono ?_
  rintro e w1 ⟨rfl, hb1, hE1⟩
  simp only [World.size_alloc] at hE1
  have hb0 : Below w.heap.size w w1 := Below.trans (by go_grown) (hb1.mono (by simp; omega))
  have hR : Blk w1 (w.heap.size + 1) #[.int .i64 0, .int .i64 0, .int .i64 0] 26 := by
    have h := Blk.new (w.alloc (.cells #[.string s, .slice p l c, .int .i64 br] 24)) #[.int .i64 0, .int .i64 0, .int .i64 0] 26
    rw [World.size_alloc] at h
    exact (h.alloc _).below hb1 (by simp)
  go_wp2_with fail
  refine (fault_wrong _ _ (hG.below hb0) hE1).mono ?_
  rintro e w2 ⟨rfl, hb2⟩
  have hb3 := hb0.trans (hb2.mono hb0.size)
  have hR2 := hR.below hb2 hR.lt
  have hlt := hR2.lt
  have hy0 := hR2.cell 0
  have hy1 := hR2.cell 1
  have hy2 := hR2.cell 2
  have hz0 := hR2.free 0
  have hz1 := hR2.free 1
  have hz2 := hR2.free 2
  simp at hy0 hy1 hy2
  have hn : w2.heap.size ≠ w.heap.size + 1 := by omega
  have hr := cell_far hn
  go_wp2
  go_region
  go_wp2
  have g := ((hR2.set 0 (.int .i64 15)).set 1 (.int .i64 (-1))).set 2 (.int .i64 0)
  have g0 := (hR2.set 0 (.int .i64 15)).cell 0
  have g1 := ((hR2.set 0 (.int .i64 15)).set 1 (.int .i64 (-1))).cell 1
  have g2 := g.cell 2
  simp at g0 g1 g2
  refine bodyPost_ret (v := .tuple #[.pointer none, .agg #[.int .i64 15, .int .i64 (-1), .int .i64 0]]) (by simp [results, Tryd.results7, go_sem, g0, g1, g2, hlt]) rfl ?_
  exact ⟨rfl, ((((hb3.setCell (p := ⟨w.heap.size + 1, 0, none⟩) (by simp) _).setCell (p := ⟨w.heap.size + 1, 1, none⟩) (by simp) _).setCell (p := ⟨w.heap.size + 1, 2, none⟩) (by simp) _).alloc (by simp; omega) _).drew⟩
set_option maxHeartbeats 1000000 in
theorem plainOpen_no (s : ByteArray) (p : Option Addr) (l c : Nat) (br k : Int) (h0 : k ≠ 0) (h1 : k ≠ 1) (w : World) (hG : Ground0 w) :
    Calls Tryd.prog 8 #[.agg #[.string s, .slice p l c, .int .i64 br], .int .i64 k] w fun e w' =>
      e = .returned (.tuple #[.pointer none, .agg #[.int .i64 15, .int .i64 (-1), .int .i64 0]]) ∧ Below w.heap.size w w' := by
  go_enter Tryd.func8, Tryd.ntmps8
  go_wp2_with fail
  refine (flacOpen_no _ k h0 h1 _).mono ?_
  rintro e w1 ⟨rfl, hb1, hE1⟩
  simp only [World.size_alloc] at hE1
  have hb0 : Below w.heap.size w w1 := Below.trans (by go_grown) (hb1.mono (by simp; omega))
  have hR : Blk w1 (w.heap.size + 1) #[.int .i64 0, .int .i64 0, .int .i64 0] 26 := by
    have h := Blk.new (w.alloc (.cells #[.string s, .slice p l c, .int .i64 br] 24)) #[.int .i64 0, .int .i64 0, .int .i64 0] 26
    rw [World.size_alloc] at h
    exact (h.alloc _).below hb1 (by simp)
  go_wp2_with fail
  refine (fault_wrong _ _ (hG.below hb0) hE1).mono ?_
  rintro e w2 ⟨rfl, hb2⟩
  have hb3 := hb0.trans (hb2.mono hb0.size)
  have hR2 := hR.below hb2 hR.lt
  have hlt := hR2.lt
  have hy0 := hR2.cell 0
  have hy1 := hR2.cell 1
  have hy2 := hR2.cell 2
  have hz0 := hR2.free 0
  have hz1 := hR2.free 1
  have hz2 := hR2.free 2
  simp at hy0 hy1 hy2
  have hn : w2.heap.size ≠ w.heap.size + 1 := by omega
  have hr := cell_far hn
  go_wp2
  go_region
  go_wp2
  have g := ((hR2.set 0 (.int .i64 15)).set 1 (.int .i64 (-1))).set 2 (.int .i64 0)
  have g0 := (hR2.set 0 (.int .i64 15)).cell 0
  have g1 := ((hR2.set 0 (.int .i64 15)).set 1 (.int .i64 (-1))).cell 1
  have g2 := g.cell 2
  simp at g0 g1 g2
  refine bodyPost_ret (v := .tuple #[.pointer none, .agg #[.int .i64 15, .int .i64 (-1), .int .i64 0]]) (by simp [results, Tryd.results8, go_sem, g0, g1, g2, hlt]) rfl ?_
  exact ⟨rfl, ((((hb3.setCell (p := ⟨w.heap.size + 1, 0, none⟩) (by simp) _).setCell (p := ⟨w.heap.size + 1, 1, none⟩) (by simp) _).setCell (p := ⟨w.heap.size + 1, 2, none⟩) (by simp) _).alloc (by simp; omega) _).drew⟩

set_option maxHeartbeats 2000000 in
theorem refused_yes (k : Int) (h : k = 0 ∨ k = 1) (w : World) : Calls Tryd.prog 3 #[.int .i64 k] w fun e w' => e = .returned (.bool true) ∧ Below w.heap.size w w' := by
  rcases h with rfl | rfl
  all_goals
    go_enter Tryd.func3, Tryd.ntmps3
    go_wp2
    go_ret
    exact ⟨rfl, by go_grown⟩

set_option maxHeartbeats 2000000 in
theorem refused_no (k : Int) (h0 : k ≠ 0) (h1 : k ≠ 1) (w : World) (hG : Ground0 w) : Calls Tryd.prog 3 #[.int .i64 k] w fun e w' => e = .returned (.bool true) ∧ Below w.heap.size w w' := by
  have g0 : (k == 0) = false := by simp [h0]
  have g1 : (k == 1) = false := by simp [h1]
  go_enter Tryd.func3, Tryd.ntmps3
  go_wp2_with fail
  refine (plainSums_no _ k 1 (Or.inl ⟨h0, h1⟩) _ (hG.below (by go_grown))).mono ?_
  rintro e w1 ⟨rfl, hb1⟩
  have hS1 := (Blk.new w #[.string ⟨#[]⟩, .slice none 0 0, .int .i64 (-1)] 24).below hb1 (by simp)
  have hB1 : Below w.heap.size w w1 := Below.trans (by go_grown) (hb1.mono (by simp))
  have hl1 := hS1.lt
  have a0 := hS1.cell 0
  have a1 := hS1.cell 1
  have a2 := hS1.cell 2
  simp at a0 a1 a2
  go_wp2_with fail
  refine (plainBits_no _ _ _ _ _ k h0 h1 _ (hG.below (by go_grown))).mono ?_
  rintro e w2 ⟨rfl, hb2⟩
  have hS2 := (hS1.alloc _).below hb2 (hS1.alloc _).lt
  have hF2 := (Blk.new w1 #[.int .i64 15, .int .i64 (-1), .int .i64 0] 26).below hb2 (by simp)
  have hB2 : Below w.heap.size w w2 := Below.trans (hB1.alloc hB1.size _) (hb2.mono (by simp; omega))
  have hl2 := hS2.lt
  have hl2' := hF2.lt
  clear a0 a1 a2
  have a0 := hS2.cell 0
  have a1 := hS2.cell 1
  have a2 := hS2.cell 2
  have b0 := hF2.cell 0
  have b1 := hF2.cell 1
  have b2 := hF2.cell 2
  simp at a0 a1 a2 b0 b1 b2
  go_wp2_with fail
  refine (plainOpen_no _ _ _ _ _ k h0 h1 _ (hG.below (by go_grown))).mono ?_
  rintro e w3 ⟨rfl, hb3⟩
  have hF3 := (hF2.alloc _).below hb3 (hF2.alloc _).lt
  have hH3 := (Blk.new w2 #[.int .i64 15, .int .i64 (-1), .int .i64 0] 26).below hb3 (by simp)
  have hB3 : Below w.heap.size w w3 := Below.trans (hB2.alloc hB2.size _) (hb3.mono (by simp; omega))
  have hl3 := hF3.lt
  have hl3' := hH3.lt
  clear a0 a1 a2 b0 b1 b2
  have b0 := hF3.cell 0
  have b1 := hF3.cell 1
  have b2 := hF3.cell 2
  have c0 := hH3.cell 0
  have c1 := hH3.cell 1
  have c2 := hH3.cell 2
  simp at b0 b1 b2 c0 c1 c2
  go_wp2
  go_ret
  exact ⟨rfl, hB3.alloc hB3.size _⟩
end Go.Proofs.YtlonjkpnhdfjiaaDoor
