import Derived.Test.YtgkenhmbilkhdaaGreatDoorProg
import Derived.WalkKit
import Derived.WalkSpells
import Derived.WalkLawsBesides
import Derived.Handy
import Derived.KernelRfl
import Derived.Laws.BytesArg
import Derived.BigQuiet
import Derived.Deep.RegionWith
namespace Go.Proofs.YtgkenhmbilkhdaaGreatDoor
open Go.RowKit

set_option maxRecDepth 100000 in
theorem len64_one (w : World) : Calls Tryz.prog 195 #[.int .u64 1] w fun e w' => e = .returned (.int .i64 1) ∧ w' = w := by
  go_enter Tryz.func195, Tryz.ntmps195
  go_wp2
  go_ret
  exact ⟨by kernel_rfl, rfl⟩

theorem numDigits_one (w : World) (v : Int) (h : w.cell? ⟨3, 0, none⟩ = some (.int .u64 v)) :
    Calls Tryz.prog 242 #[.int .u64 1] w fun e w' => ∃ nd : Int, (nd = 0 ∨ nd = 1) ∧ e = .returned (.int .i64 nd) ∧ w' = w := by
  go_enter Tryz.func242, Tryz.ntmps242
  go_wp2_with fail
  refine (len64_one _).mono ?_
  rintro e w' ⟨rfl, rfl⟩
  go_wp2
  · go_ret
    exact ⟨1, Or.inr rfl, rfl, rfl⟩
  · go_ret
    exact ⟨0, Or.inl rfl, rfl, rfl⟩

set_option maxRecDepth 100000 in
theorem base10_0 (w : World) (b : Nat) : Calls Tryz.prog 243 #[.slice (some ⟨b, 1, none⟩) 0 23, .int .u64 1] w fun e w' => e = .returned (.tuple #[]) ∧ w' = w := by
  go_enter Tryz.func243, Tryz.ntmps243
  go_wp2
  refine wp_loop_rounds 1 ?_
  rw [rounds_succ]
  go_wp2
  go_end0
  exact ⟨rfl, rfl⟩

set_option maxRecDepth 100000 in
theorem base10_1 (w : World) (b : Nat) (x : Value) (hx : w.cell? ⟨b, 1, none⟩ = some x) (hf : w.frozen? ⟨b, 1, none⟩ = false) : Calls Tryz.prog 243 #[.slice (some ⟨b, 1, none⟩) 1 23, .int .u64 1] w fun e w' => e = .returned (.tuple #[]) ∧ w' = w.setCell ⟨b, 1, none⟩ (.int .u8 49) := by
  go_enter Tryz.func243, Tryz.ntmps243
  go_wp2
  refine wp_loop_rounds 1 ?_
  rw [rounds_succ]
  go_wp2
  go_end0
  exact ⟨rfl, rfl⟩

set_option maxHeartbeats 1000000 in
set_option maxRecDepth 100000 in
theorem fmt_neg1 (w : World) (v : Int) (h : w.cell? ⟨3, 0, none⟩ = some (.int .u64 v)) :
    Calls Tryz.prog 240 #[.int .i64 (-1), .int .i64 10] w fun e w' =>
      ∃ s : ByteArray, e = .returned (.string s) ∧ s.size ≤ 30 ∧ Below w.heap.size w w' := by
  go_enter Tryz.func240, Tryz.ntmps240
  go_wp2_with fail
  rw [show IntKind.u64.wrap (-IntKind.u64.wrap (-1)) = 1 from by decide]
  have hlt : 3 < w.heap.size := by
    rcases Nat.lt_or_ge 3 w.heap.size with h0 | h0
    · exact h0
    · simp [World.cell?, Array.getElem?_eq_none h0] at h
  refine (numDigits_one _ v ?_).mono ?_
  · rw [World.cell?_alloc_lt _ _ ⟨3, 0, none⟩ hlt]; exact h
  rintro e w' ⟨nd, hnd, rfl, rfl⟩
  rcases hnd with rfl | rfl
  · go_wp2_with fail
    refine (base10_0 _ _).mono ?_
    rintro e w' ⟨rfl, rfl⟩
    have hcv := run_convert_bytes_arg (w.alloc (.cells #[.int .u8 45, .int .u8 0, .int .u8 0, .int .u8 0, .int .u8 0, .int .u8 0, .int .u8 0, .int .u8 0, .int .u8 0, .int .u8 0, .int .u8 0, .int .u8 0, .int .u8 0, .int .u8 0, .int .u8 0, .int .u8 0, .int .u8 0, .int .u8 0, .int .u8 0, .int .u8 0, .int .u8 0, .int .u8 0, .int .u8 0, .int .u8 0] 340)) 136 5 Tryz.underlying136 Tryz.underlying5 w.heap.size 0 1 24 [45] rfl (by intro i hi; rcases (show i = 0 by omega); simp) 9 Tryz.underlying9
    go_wp2
    go_ret
    exact ⟨_, rfl, by simp [strOfNums_size], by go_grown⟩
  · go_wp2_with fail
    refine (base10_1 _ _ (.int .u8 0) ?_ ?_).mono ?_
    · simp
    · simp
    rintro e w' ⟨rfl, rfl⟩
    have hcv := run_convert_bytes_arg (w.alloc (.cells #[.int .u8 45, .int .u8 49, .int .u8 0, .int .u8 0, .int .u8 0, .int .u8 0, .int .u8 0, .int .u8 0, .int .u8 0, .int .u8 0, .int .u8 0, .int .u8 0, .int .u8 0, .int .u8 0, .int .u8 0, .int .u8 0, .int .u8 0, .int .u8 0, .int .u8 0, .int .u8 0, .int .u8 0, .int .u8 0, .int .u8 0, .int .u8 0] 340)) 136 5 Tryz.underlying136 Tryz.underlying5 w.heap.size 0 2 24 [45, 49] rfl (by intro i hi; rcases (show i = 0 ∨ i = 1 by omega) with rfl | rfl <;> simp) 9 Tryz.underlying9
    go_wp2
    go_ret
    exact ⟨_, rfl, by simp [strOfNums_size], by go_grown⟩

/-- The library's table of powers holds some numbers. -/
def Tab (w : World) : Prop := ∀ j, j < 20 → ∃ v : Int, w.cell? ⟨3, j, none⟩ = some (.int .u64 v)

theorem Tab.lt {w : World} (h : Tab w) : 3 < w.heap.size := by
  obtain ⟨v, h⟩ := h 0 (by omega)
  rcases Nat.lt_or_ge 3 w.heap.size with h0 | h0
  · exact h0
  · simp [World.cell?, Array.getElem?_eq_none h0] at h

theorem Tab.below {w w' : World} {B : Nat} (h : Tab w) (hB : 3 < B) (hb : Below B w w') : Tab w' := fun j hj => by
  obtain ⟨v, hv⟩ := h j hj
  exact ⟨v, (hb.cell (p := ⟨3, j, none⟩) hB).trans hv⟩

def ItoaOk (n : Int) : Prop := ∀ w, Tab w → Calls Tryz.prog 238 #[.int .i64 n] w fun e w' =>
  ∃ s : ByteArray, e = .returned (.string s) ∧ s.size ≤ 30 ∧ Below w.heap.size w w'

set_option maxRecDepth 100000 in
theorem fmt_zero (w : World) :
    Calls Tryz.prog 240 #[.int .i64 0, .int .i64 10] w fun e w' =>
      ∃ s : ByteArray, e = .returned (.string s) ∧ s.size ≤ 30 ∧ Below w.heap.size w w' := by
  go_enter Tryz.func240, Tryz.ntmps240
  go_wp2
  go_ret
  exact ⟨_, rfl, by simp [ByteArray.size_extract]; omega, Below.refl _ _⟩

def FmtOk (n : Int) : Prop := ∀ w, Tab w → Calls Tryz.prog 240 #[.int .i64 n, .int .i64 10] w fun e w' =>
      ∃ s : ByteArray, e = .returned (.string s) ∧ s.size ≤ 30 ∧ Below w.heap.size w w'

theorem itoa_of (n : Int) (h : FmtOk n) (_h0 : -9223372036854775808 ≤ n) (_h1 : n ≤ 9223372036854775807) : ItoaOk n := by
  intro w ht
  go_enter Tryz.func238, Tryz.ntmps238
  go_wp2_with (first | (go_at_call 240; refine (h _ ht).mono ?_; rintro e w' ⟨s, rfl, hs, hb⟩) | go_in)
  go_ret
  exact ⟨_, rfl, by assumption, by assumption⟩

theorem itoa_neg1 : ItoaOk (-1) := itoa_of _ (fun w ht => by obtain ⟨v, hv⟩ := ht 0 (by omega); exact fmt_neg1 w v hv) (by omega) (by omega)
theorem itoa_zero : ItoaOk 0 := itoa_of _ (fun w _ => fmt_zero w) (by omega) (by omega)
end Go.Proofs.YtgkenhmbilkhdaaGreatDoor
