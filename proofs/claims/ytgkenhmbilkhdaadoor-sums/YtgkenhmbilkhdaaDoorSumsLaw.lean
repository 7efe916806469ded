import Derived.Test.YtgkenhmbilkhdaaDoorFlacSums
import Derived.Test.YtgkenhmbilkhdaaDoorRefCrc
namespace Go.Proofs.YtgkenhmbilkhdaaDoor
open Go.RowKit

theorem small_yes (s : ByteArray) (h : s.size ≤ 1048576) (w : World) : Calls Tryd.prog 4 #[.string s, .slice none 0 0, .slice none 0 0] w fun e w' => e = .returned (.bool true) ∧ w' = w := by
  have h' : (s.size : Int) ≤ 1048576 := by omega
  go_enter Tryd.func4, Tryd.ntmps4
  go_wp2
  go_ret
  exact ⟨by simp, rfl⟩
theorem small_no (s : ByteArray) (h : ¬ s.size ≤ 1048576) (w : World) : Calls Tryd.prog 4 #[.string s, .slice none 0 0, .slice none 0 0] w fun e w' => e = .returned (.bool false) ∧ w' = w := by
  have h' : ¬ (s.size : Int) ≤ 1048576 := by omega
  go_enter Tryd.func4, Tryd.ntmps4
  go_wp2
  go_ret
  exact ⟨by simp, rfl⟩

theorem plainSums_core (X : ByteArray) (x8 x16 : Nat) (k : Int) (hk : k = 0 ∨ k = 1) (s : ByteArray) (n : Int) (hn : 1 ≤ n) (hs : s.size ≤ 1048576) (w : World) (hT : MdTabs w)
    (HX : Hid (X = digest (md (padded (bytesOf s)) ((padded (bytesOf s)).length / 64)))) (H8 : Hid (x8 = crc8 0 (bytesOf s))) (H16 : Hid (x16 = crc16 0 (bytesOf s))) (h8 : x8 < 256) (h16 : x16 < 65536) :
    Calls Tryd.prog 5 #[.string s, .int .i64 k, .int .i64 n] w fun e w' =>
      e = .returned (.tuple #[.int .i64 x8, .int .i64 x16, .string X, .agg #[.int .i64 0, .int .i64 0, .int .i64 0]]) ∧ Below w.heap.size w w' := by
  go_enter Tryd.func5, Tryd.ntmps5
  go_wp2_with fail
  have hF := flacSums_yes k hk s n hn hs (w.alloc (.cells #[.int .i64 0, .int .i64 0, .int .i64 0] 24)) (hT.below (by go_grown))
  rw [← HX.out, ← H8.out, ← H16.out] at hF
  refine hF.mono ?_
  clear hF
  rintro e w1 ⟨rfl, hb1⟩
  have hb0 : Below w.heap.size w w1 := (show Below w.heap.size w (w.alloc (.cells #[.int .i64 0, .int .i64 0, .int .i64 0] 24)) by go_grown).trans (hb1.mono (by simp))
  have hR : Blk w1 w.heap.size #[.int .i64 0, .int .i64 0, .int .i64 0] 24 := (Blk.new _ _ _).below hb1 (by simp)
  go_wp2_with fail
  refine (fault_nil _).mono ?_
  rintro e w2 ⟨rfl, hb2⟩
  have hb3 := hb0.trans (hb2.mono hb0.size)
  have hR2 := hR.below hb2 hR.lt
  have hy0 := hR2.cell 0
  have hy1 := hR2.cell 1
  have hy2 := hR2.cell 2
  have hz0 := hR2.free 0
  have hz1 := hR2.free 1
  have hz2 := hR2.free 2
  simp at hy0 hy1 hy2
  have g0 := (hR2.set 0 (.int .i64 0)).cell 0
  have g1 := ((hR2.set 0 (.int .i64 0)).set 1 (.int .i64 0)).cell 1
  have g2 := (((hR2.set 0 (.int .i64 0)).set 1 (.int .i64 0)).set 2 (.int .i64 0)).cell 2
  simp at g0 g1 g2
  go_wp2
  refine bodyPost_ret (v := .tuple #[.int .i64 x8, .int .i64 x16, .string X, .agg #[.int .i64 0, .int .i64 0, .int .i64 0]]) (by simp [results, Tryd.results5, go_sem, g0, g1, g2]) rfl ?_
  exact ⟨rfl, ((hb3.setCell (p := ⟨w.heap.size, 0, none⟩) (by simp) _).setCell (p := ⟨w.heap.size, 1, none⟩) (by simp) _).setCell (p := ⟨w.heap.size, 2, none⟩) (by simp) _⟩

theorem ref8_at (x : Nat) (s : ByteArray) (hs : s.size ≤ 1048576) (H : Hid (x = crc8 0 (bytesOf s))) (w : World) :
    Calls Tryd.prog 6 #[.string s, .int .i64 8, .int .i64 7] w fun e w' => e = .returned (.int .i64 (x : Int)) ∧ Below w.heap.size w w' := by
  have h := ref8 s hs w
  rw [show crc8 0 (s.data.toList.map UInt8.toNat) = x from H.out.symm] at h
  exact h
theorem ref16_at (x : Nat) (s : ByteArray) (hs : s.size ≤ 1048576) (H : Hid (x = crc16 0 (bytesOf s))) (w : World) :
    Calls Tryd.prog 6 #[.string s, .int .i64 16, .int .i64 32773] w fun e w' => e = .returned (.int .i64 (x : Int)) ∧ Below w.heap.size w w' := by
  have h := ref16 s hs w
  rw [show crc16 0 (s.data.toList.map UInt8.toNat) = x from H.out.symm] at h
  exact h

theorem sums_far (s : ByteArray) (k n : Int) (h : ¬ s.size ≤ 1048576) (w : World) : Calls Tryd.prog 3 #[.string s, .int .i64 k, .int .i64 n] w fun e w' => e = .returned (.bool true) ∧ Below w.heap.size w w' := by
  go_enter Tryd.func3, Tryd.ntmps3
  go_wp2_with (go_at_call 4; refine (small_no s h _).mono ?_; rintro e w ⟨rfl, rfl⟩)
  go_ret
  exact ⟨rfl, Below.refl _ _⟩

set_option maxHeartbeats 1000000 in
theorem sums_no (s : ByteArray) (k n : Int) (hs : s.size ≤ 1048576) (h : (k ≠ 0 ∧ k ≠ 1) ∨ n < 1) (w : World) (hG : Ground0 w) : Calls Tryd.prog 3 #[.string s, .int .i64 k, .int .i64 n] w fun e w' => e = .returned (.bool true) ∧ Below w.heap.size w w' := by
  by_cases hk : k ≠ 0 ∧ k ≠ 1
  case' pos =>
    obtain ⟨h0, h1⟩ := hk
    have g0 : (k == 0) = false := by simp [h0]
    have g1 : (k == 1) = false := by simp [h1]
    have e0 : (k != 0) = true := by simp [h0]
    have e1 : (k != 1) = true := by simp [h1]
  case' neg =>
    have hn : n < 1 := by omega
    have hk01 : k = 0 ∨ k = 1 := by omega
    clear hk
    rcases hk01 with rfl | rfl
  all_goals
    go_enter Tryd.func3, Tryd.ntmps3
    go_wp2_with (go_at_call 4; refine (small_yes s hs _).mono ?_; rintro e w ⟨rfl, rfl⟩)
    refine (plainSums_no s _ n h _ hG).mono ?_
    rintro e w1 ⟨rfl, hb1⟩
    have hF1 := Blk.new w1 #[.int .i64 15, .int .i64 (-1), .int .i64 0] 24
    go_wp2
    go_ret
    exact ⟨rfl, hb1.alloc hb1.size _⟩

set_option maxHeartbeats 1000000 in
theorem sums_yes (s : ByteArray) (k n : Int) (hs : s.size ≤ 1048576) (hk : k = 0 ∨ k = 1) (hn : 1 ≤ n) (w : World) (hT : MdTabs w) : Calls Tryd.prog 3 #[.string s, .int .i64 k, .int .i64 n] w fun e w' => e = .returned (.bool true) ∧ Below w.heap.size w w' := by
  obtain ⟨X, HX⟩ : ∃ X, Hid (X = digest (md (padded (bytesOf s)) ((padded (bytesOf s)).length / 64))) := ⟨_, hid rfl⟩
  obtain ⟨x8, H8, h8⟩ : ∃ x8, Hid (x8 = crc8 0 (bytesOf s)) ∧ x8 < 256 := ⟨_, hid rfl, crc8_lt _ (by omega) (bytesOf_lt s)⟩
  obtain ⟨x16, H16, h16⟩ : ∃ x16, Hid (x16 = crc16 0 (bytesOf s)) ∧ x16 < 65536 := ⟨_, hid rfl, crc16_lt _ (by omega) (bytesOf_lt s)⟩
  have hM : ∀ W, Calls Tryd.prog 7 #[.string s] W fun e w' => e = .returned (.string X) ∧ Below W.heap.size W w' := fun W => refMd5_core X s hs W HX
  have hn' : ¬ n < 1 := by omega
  rcases hk with rfl | rfl
  all_goals
    go_enter Tryd.func3, Tryd.ntmps3
    go_wp2_with (go_at_call 4; refine (small_yes s hs _).mono ?_; rintro e w ⟨rfl, rfl⟩)
    refine (plainSums_core X x8 x16 _ (by omega) s n hn hs _ hT HX H8 H16 h8 h16).mono ?_
    rintro e w1 ⟨rfl, hb1⟩
    have hF1 := Blk.new w1 #[.int .i64 0, .int .i64 0, .int .i64 0] 24
    go_wp2_with fail
    refine (ref8_at x8 s hs H8 _).mono ?_
    rintro e w2 ⟨rfl, hb2⟩
    have hF2 := hF1.below hb2 hF1.lt
    go_wp2_with fail
    refine (ref16_at x16 s hs H16 _).mono ?_
    rintro e w3 ⟨rfl, hb3⟩
    have hF3 := hF2.below hb3 hF2.lt
    go_wp2_with fail
    refine (hM _).mono ?_
    rintro e w4 ⟨rfl, hb4⟩
    have hF4 := hF3.below hb4 hF3.lt
    have c0 := hF4.cell 0
    have hb1' : Below w.heap.size w (w1.alloc (.cells #[.int .i64 0, .int .i64 0, .int .i64 0] 24)) := hb1.alloc hb1.size _
    have hb2' := hb1'.trans (hb2.mono hb1'.size)
    have hb3' := hb2'.trans (hb3.mono hb2'.size)
    have hb4' := hb3'.trans (hb4.mono hb3'.size)
    simp at c0
    go_wp2
    go_ret
    exact ⟨rfl, hb4'⟩
end Go.Proofs.YtgkenhmbilkhdaaDoor
