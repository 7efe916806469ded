import Derived.Test.YtgkenhmbilkhdaaGreatDoorErrs
namespace Go.Proofs.YtgkenhmbilkhdaaGreatDoor
open Go.RowKit

set_option maxHeartbeats 2000000 in
theorem is0_AA (j k : Int) (w : World) :
    Calls Tryz.prog 75 #[.iface 188 (.int .i64 j), .iface 188 (.int .i64 k)] w fun e w' => e = .returned (.bool (j == k)) ∧ w' = w := by
  have tT := typeOfA
  have cT := comparableA
  have mR := methodComparable
  have nA := noIsA
  have uA := noUnA
  have vA := noUnsA
  have heq := Lib.run_eql_iface_int (P := Tryz.prog) (k := .i64) w j k Tryz.underlying78 (tx := 188) (by kernel_rfl) Tryz.underlying188
  cases hjk : (j == k)
  all_goals
    rw [hjk] at heq
    go_enter Tryz.func75, Tryz.ntmps75
    go_wp2
    refine wp_loop_rounds 1 ?_
    rw [rounds_succ]
    go_wp2
    go_ret
    exact ⟨rfl, rfl⟩
set_option maxHeartbeats 2000000 in
theorem is0_PA (j k : Int) (w : World) :
    Calls Tryz.prog 75 #[.iface 203 (.int .i64 j), .iface 188 (.int .i64 k)] w fun e w' => e = .returned (.bool false) ∧ w' = w := by
  have tT := typeOfA
  have cT := comparableA
  have mR := methodComparable
  have nA := noIsP
  have uA := noUnP
  have vA := noUnsP
  have hty' := run_eql_iface_types (P := Tryz.prog) 203 188 (.int .i64 j) (.int .i64 k) Tryz.underlying78 (by decide) w
  go_enter Tryz.func75, Tryz.ntmps75
  go_wp2
  refine wp_loop_rounds 1 ?_
  rw [rounds_succ]
  go_wp2
  go_ret
  exact ⟨rfl, rfl⟩
end Go.Proofs.YtgkenhmbilkhdaaGreatDoor
