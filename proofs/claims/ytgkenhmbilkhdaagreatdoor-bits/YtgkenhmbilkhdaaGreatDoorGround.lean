import Derived.Test.YtgkenhmbilkhdaaGreatDoorFault
namespace Go.Proofs.YtgkenhmbilkhdaaGreatDoor
open Go.RowKit

/-- What the world must hold for a fault to be made: the library's table, and the type's handle. -/
def Ground0 (w : World) : Prop := Tab w ∧ w.cell? ⟨0, 0, none⟩ = some (.iface 258 (.agg #[.pointer (some ⟨8, 78, none⟩)]))

theorem Ground0.lt {w : World} (h : Ground0 w) : 0 < w.heap.size := by
  have hg := h.2
  rcases Nat.lt_or_ge 0 w.heap.size with h | h
  · exact h
  · simp [World.cell?, Array.getElem?_eq_none h] at hg

theorem Ground0.below {w w' : World} (h : Ground0 w) (hb : Below w.heap.size w w') : Ground0 w' :=
  ⟨h.1.below h.1.lt hb, (hb.cell (p := ⟨0, 0, none⟩) h.lt).trans h.2⟩

theorem new_drew {X : World} {g : Nat} (h : X.heap.size = g) (C : Array Value) (t : TypeId) (i : Nat) : (X.alloc (.cells C t)).drew.cell? ⟨g, i, none⟩ = C[i]? := by
  subst h
  exact (Blk.new X C t).drew.cell i

theorem wrong_any (w : World) : Calls Tryz.prog 70 #[] w fun e w' => e = .returned (.iface 155 (.pointer (some ⟨w.heap.size, 0, none⟩))) ∧ Below w.heap.size w w' ∧ ErrAt w.heap.size (-1) 0 (.iface 188 (.int .i64 15)) w' := by
  go_enter Tryz.func70, Tryz.ntmps70
  go_wp2
  go_ret
  exact ⟨rfl, by go_grown, by simp [ErrAt]⟩

theorem kind_no (k : Int) (h0 : k ≠ 0) (h1 : k ≠ 1) (w : World) : Calls Tryz.prog 69 #[.int .i64 k] w fun e w' => e = .returned (.bool false) ∧ w' = w := by
  have g0 : (k == 0) = false := by simp [h0]
  have g1 : (k == 1) = false := by simp [h1]
  go_enter Tryz.func69, Tryz.ntmps69
  go_wp2
  go_ret
  exact ⟨rfl, rfl⟩

theorem kind_yes (k : Int) (h : k = 0 ∨ k = 1) (w : World) : Calls Tryz.prog 69 #[.int .i64 k] w fun e w' => e = .returned (.bool true) ∧ w' = w := by
  rcases h with rfl | rfl
  all_goals
    go_enter Tryz.func69, Tryz.ntmps69
    go_wp2
    go_ret
    exact ⟨rfl, rfl⟩

theorem fault_wrong (b : Nat) (w : World) (hG : Ground0 w) (hE : ErrAt b (-1) 0 (.iface 188 (.int .i64 15)) w) :
    Calls Tryz.prog 36 #[.iface 155 (.pointer (some ⟨b, 0, none⟩))] w fun e w' => e = .returned (.agg #[.int .i64 15, .int .i64 (-1), .int .i64 0]) ∧ Below w.heap.size w w' :=
  fault_A b 15 (by omega) (by omega) (-1) 0 itoa_neg1 itoa_zero w hG.1 hG.2 hE

theorem flacSums_no (s : ByteArray) (k n : Int) (h : (k ≠ 0 ∧ k ≠ 1) ∨ n < 1) (w : World) : Calls Tryz.prog 35 #[.string s, .int .i64 k, .int .i64 n] w fun e w' =>
    e = .returned (.tuple #[.int .u8 0, .int .u16 0, .string ⟨#[]⟩, .iface 155 (.pointer (some ⟨w.heap.size, 0, none⟩))]) ∧ Below w.heap.size w w' ∧ ErrAt w.heap.size (-1) 0 (.iface 188 (.int .i64 15)) w' := by
  by_cases hk : k ≠ 0 ∧ k ≠ 1
  · go_enter Tryz.func35, Tryz.ntmps35
    go_wp2_with (first | (go_at_call 69; refine (kind_no k hk.1 hk.2 _).mono ?_; rintro e w' ⟨rfl, rfl⟩) | (go_at_call 70; refine (wrong_any _).mono ?_; rintro e w' ⟨rfl, hb, hE⟩))
    exact bodyPost_ret (v := .tuple #[.int .u8 0, .int .u16 0, .string ⟨#[]⟩, .iface 155 (.pointer (some ⟨_, 0, none⟩))]) (by simp [results, Tryz.results35, go_sem]) rfl ⟨rfl, ‹_›, ‹_›⟩
  · have hn : n < 1 := by omega
    go_enter Tryz.func35, Tryz.ntmps35
    go_wp2_with (first | (go_at_call 69; refine (kind_yes k (by omega) _).mono ?_; rintro e w' ⟨rfl, rfl⟩) | (go_at_call 70; refine (wrong_any _).mono ?_; rintro e w' ⟨rfl, hb, hE⟩))
    exact bodyPost_ret (v := .tuple #[.int .u8 0, .int .u16 0, .string ⟨#[]⟩, .iface 155 (.pointer (some ⟨_, 0, none⟩))]) (by simp [results, Tryz.results35, go_sem]) rfl ⟨rfl, ‹_›, ‹_›⟩

theorem plainSums_no (s : ByteArray) (k n : Int) (h : (k ≠ 0 ∧ k ≠ 1) ∨ n < 1) (w : World) (hG : Ground0 w) : Calls Tryz.prog 14 #[.string s, .int .i64 k, .int .i64 n] w fun e w' =>
    e = .returned (.tuple #[.int .i64 0, .int .i64 0, .string ⟨#[]⟩, .agg #[.int .i64 15, .int .i64 (-1), .int .i64 0]]) ∧ Below w.heap.size w w' := by
  go_enter Tryz.func14, Tryz.ntmps14
  go_wp2_with fail
  refine (flacSums_no s k n h _).mono ?_
  rintro e w1 ⟨rfl, hb1, hE1⟩
  rw [World.size_alloc] at hE1
  have hb0 : Below w.heap.size w w1 := (show Below w.heap.size w (w.alloc (.cells #[.int .i64 0, .int .i64 0, .int .i64 0] 26)) by go_grown).trans (hb1.mono (by simp))
  have hR : Blk w1 w.heap.size #[.int .i64 0, .int .i64 0, .int .i64 0] 26 := (Blk.new _ _ _).below hb1 (by simp)
  go_wp2_with fail
  refine (fault_wrong _ _ (hG.below hb0) hE1).mono ?_
  rintro e w2 ⟨rfl, hb2⟩
  have hb3 := hb0.trans (hb2.mono hb0.size)
  have hR2 := hR.below hb2 hR.lt
  have hy0 := hR2.cell 0
  have hy1 := hR2.cell 1
  have hy2 := hR2.cell 2
  have hz0 := hR2.free 0
  have hz1 := hR2.free 1
  have hz2 := hR2.free 2
  simp at hy0 hy1 hy2
  have g0 := (hR2.set 0 (.int .i64 15)).cell 0
  have g1 := ((hR2.set 0 (.int .i64 15)).set 1 (.int .i64 (-1))).cell 1
  have g2 := (((hR2.set 0 (.int .i64 15)).set 1 (.int .i64 (-1))).set 2 (.int .i64 0)).cell 2
  simp at g0 g1 g2
  go_wp2
  refine bodyPost_ret (v := .tuple #[.int .i64 0, .int .i64 0, .string ⟨#[]⟩, .agg #[.int .i64 15, .int .i64 (-1), .int .i64 0]]) (by simp [results, Tryz.results14, go_sem, g0, g1, g2]) rfl ?_
  exact ⟨rfl, ((hb3.setCell (p := ⟨w.heap.size, 0, none⟩) (by simp) _).setCell (p := ⟨w.heap.size, 1, none⟩) (by simp) _).setCell (p := ⟨w.heap.size, 2, none⟩) (by simp) _⟩
end Go.Proofs.YtgkenhmbilkhdaaGreatDoor
