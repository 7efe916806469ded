import Derived.Test.YtgkenhmbilkhdaaDoorErrs
import Derived.Test.YtgkenhmbilkhdaaDoorAs
import Derived.Test.YtgkenhmbilkhdaaDoorBlk
namespace Go.Proofs.YtgkenhmbilkhdaaDoor
open Go.RowKit

theorem codes_any (w : World) : Calls Tryd.prog 19 #[] w fun e w' =>
    e = .returned (.agg #[.nilIface, .iface 64 (.int .i64 1), .iface 64 (.int .i64 2), .iface 64 (.int .i64 3), .iface 64 (.int .i64 4), .iface 64 (.int .i64 5), .iface 64 (.int .i64 6), .iface 64 (.int .i64 7), .iface 64 (.int .i64 8), .iface 64 (.int .i64 9), .iface 64 (.int .i64 10), .iface 64 (.int .i64 11), .iface 64 (.int .i64 12), .iface 64 (.int .i64 13), .iface 64 (.int .i64 14), .iface 64 (.int .i64 15), .iface 81 (.int .i64 1)]) ∧ Below w.heap.size w w' := by
  go_enter Tryd.func19, Tryd.ntmps19
  go_wp2
  go_returns
  exact ⟨rfl, by go_grown⟩

def codesV : Value := .agg #[.nilIface, .iface 64 (.int .i64 1), .iface 64 (.int .i64 2), .iface 64 (.int .i64 3), .iface 64 (.int .i64 4), .iface 64 (.int .i64 5), .iface 64 (.int .i64 6), .iface 64 (.int .i64 7), .iface 64 (.int .i64 8), .iface 64 (.int .i64 9), .iface 64 (.int .i64 10), .iface 64 (.int .i64 11), .iface 64 (.int .i64 12), .iface 64 (.int .i64 13), .iface 64 (.int .i64 14), .iface 64 (.int .i64 15), .iface 81 (.int .i64 1)]

theorem codes_calls (w : World) : Calls Tryd.prog 19 #[] w fun e w' => e = .returned codesV ∧ Below w.heap.size w w' := codes_any w

theorem codes_idx (k : Nat) (h1 : 1 ≤ k) (h2 : k ≤ 15) (w : World) : (Instr.index 53 codesV (.int .i64 k)).run Tryd.prog w = .ok (.iface 64 (.int .i64 k)) w := by
  rcases (show k = 1 ∨ k = 2 ∨ k = 3 ∨ k = 4 ∨ k = 5 ∨ k = 6 ∨ k = 7 ∨ k = 8 ∨ k = 9 ∨ k = 10 ∨ k = 11 ∨ k = 12 ∨ k = 13 ∨ k = 14 ∨ k = 15 by omega) with rfl | rfl | rfl | rfl | rfl | rfl | rfl | rfl | rfl | rfl | rfl | rfl | rfl | rfl | rfl
  all_goals kernel_rfl
theorem codes_last (w : World) : (Instr.index 53 codesV (.int .i64 16)).run Tryd.prog w = .ok (.iface 81 (.int .i64 1)) w := by kernel_rfl
end Go.Proofs.YtgkenhmbilkhdaaDoor
