import Derived.Test.YtgkenhmbilkhdaaGreatDoorItoa
import Derived.Test.YtgkenhmbilkhdaaGreatDoorMd5Mix
import Derived.Test.YtgkenhmbilkhdaaGreatDoorShelf
import Derived.Lib.ItoaWalk
import Derived.BigRegion
namespace Go.Proofs.YtgkenhmbilkhdaaGreatDoor
open Go.RowKit

theorem numDigits_any (u : Nat) (hu : u < 2097152) (w : World) (ht : Tab w) :
    Calls Tryz.prog 242 #[.int .u64 u] w fun e w' => ∃ nd : Nat, nd ≤ 7 ∧ e = .returned (.int .i64 nd) ∧ w' = w := by
  have hr := Lib.bitLen_le u 21 (by omega) (by simpa using hu)
  obtain ⟨v, hv⟩ := ht (Lib.bitLen u * 78913 / 262144) (by omega)
  have HL : ∀ W, Calls Tryz.prog 195 #[.int .u64 u] W fun e w' => e = .returned (.int .i64 (Lib.bitLen u : Int)) ∧ w' = W := len64 u (by omega)
  generalize Lib.bitLen u = r at hr hv HL
  obtain ⟨k, hk⟩ : ∃ k, k = r * 78913 / 262144 := ⟨_, rfl⟩
  rw [← hk] at hv
  have hk6 : k ≤ 6 := by omega
  have hki : (r : Int) * 78913 / 262144 = (k : Int) := by omega
  have hr' : (r : Int) ≤ 21 := by omega
  have hk' : (k : Int) < 20 := by omega
  go_enter Tryz.func242, Tryz.ntmps242
  go_wp2_with fail
  refine (HL _).mono ?_
  rintro e w' ⟨rfl, rfl⟩
  clear hk
  go_wp2
  all_goals go_ret
  · exact ⟨k + 1, by omega, by rfl, rfl⟩
  · exact ⟨k, by omega, by rfl, rfl⟩

/-- A block of 24 bytes, whatever they are. -/
def R24 (w : World) (b : Nat) : Prop := ∃ cs : Array Value, Blk w b cs 340 ∧ ∀ i, i < 24 → ∃ z : Int, cs[i]? = some (.int .u8 z)
theorem R24.drew {w : World} {b : Nat} (h : R24 w b) : R24 w.drew b := h
theorem R24.drewN {w : World} {b : Nat} (h : R24 w b) (n : Nat) : R24 (w.drewN n) b := h
theorem R24.set {w : World} {b : Nat} (h : R24 w b) (i : Nat) (z : Int) : R24 (w.setCell ⟨b, i, none⟩ (.int .u8 z)) b := by
  obtain ⟨cs, hB, hc⟩ := h
  refine ⟨_, hB.set i _, fun j hj => ?_⟩
  rw [Array.getElem?_setIfInBounds]
  by_cases e : i = j
  · subst e
    obtain ⟨z', hz⟩ := hc i hj
    rw [if_pos rfl, if_pos (Array.getElem?_eq_some_iff.1 hz).1]
    exact ⟨z, rfl⟩
  · rw [if_neg e]
    exact hc j hj
theorem R24.cell {w : World} {b : Nat} (h : R24 w b) (i : Nat) (hi : i < 24) : ∃ z : Int, w.cell? ⟨b, i, none⟩ = some (.int .u8 z) := by
  obtain ⟨cs, hB, hc⟩ := h
  obtain ⟨z, hz⟩ := hc i hi
  exact ⟨z, (hB.cell i).trans hz⟩
theorem R24.free {w : World} {b : Nat} (h : R24 w b) (i : Nat) : w.frozen? ⟨b, i, none⟩ = false := by
  obtain ⟨cs, hB, _⟩ := h
  exact hB.free i

set_option maxHeartbeats 4000000 in
set_option maxRecDepth 100000 in
theorem base10_lt2 (w : World) (b u nd : Nat) (hu : u < 2097152) (hR : R24 w b) (hnd : nd < 2) :
    Calls Tryz.prog 243 #[.slice (some ⟨b, 1, none⟩) nd 23, .int .u64 u] w fun e w' => e = .returned (.tuple #[]) ∧ R24 w' b ∧ Kept b w w' := by
  obtain ⟨z1, h1⟩ := hR.cell 1 (by omega)
  have f1 := hR.free 1
  have hu' : (u : Int) < 2097152 := by omega
  rcases (show nd = 0 ∨ nd = 1 by omega) with rfl | rfl
  · go_enter Tryz.func243, Tryz.ntmps243
    go_name_bytes SM hSM
    have eSM : SM = Lib.smalls := by rw [← hSM]; decide +kernel
    subst eSM
    clear hSM
    go_wp2
    refine wp_loop_rounds 1 ?_
    rw [rounds_succ]
    go_wp2
    go_end0
    exact ⟨rfl, hR, Kept.refl _ _⟩
  · go_enter Tryz.func243, Tryz.ntmps243
    go_name_bytes SM hSM
    have eSM : SM = Lib.smalls := by rw [← hSM]; decide +kernel
    subst eSM
    clear hSM
    go_wp2
    refine wp_loop_rounds 1 ?_
    rw [rounds_succ]
    go_wp2
    go_end0
    exact ⟨rfl, hR.set 1 _, (Kept.refl _ _).setCell 1 _⟩

end Go.Proofs.YtgkenhmbilkhdaaGreatDoor
