import Derived.Test.YtgkenhmbilkhdaaGreatDoorErrs
import Derived.Test.YtgkenhmbilkhdaaGreatDoorAs
import Derived.Test.YtgkenhmbilkhdaaGreatDoorBlk
namespace Go.Proofs.YtgkenhmbilkhdaaGreatDoor
open Go.RowKit

theorem codes_any (w : World) : Calls Tryz.prog 76 #[] w fun e w' =>
    e = .returned (.agg #[.nilIface, .iface 188 (.int .i64 1), .iface 188 (.int .i64 2), .iface 188 (.int .i64 3), .iface 188 (.int .i64 4), .iface 188 (.int .i64 5), .iface 188 (.int .i64 6), .iface 188 (.int .i64 7), .iface 188 (.int .i64 8), .iface 188 (.int .i64 9), .iface 188 (.int .i64 10), .iface 188 (.int .i64 11), .iface 188 (.int .i64 12), .iface 188 (.int .i64 13), .iface 188 (.int .i64 14), .iface 188 (.int .i64 15), .iface 203 (.int .i64 1)]) ∧ Below w.heap.size w w' := by
  go_enter Tryz.func76, Tryz.ntmps76
  go_wp2
  go_returns
  exact ⟨rfl, by go_grown⟩

def codesV : Value := .agg #[.nilIface, .iface 188 (.int .i64 1), .iface 188 (.int .i64 2), .iface 188 (.int .i64 3), .iface 188 (.int .i64 4), .iface 188 (.int .i64 5), .iface 188 (.int .i64 6), .iface 188 (.int .i64 7), .iface 188 (.int .i64 8), .iface 188 (.int .i64 9), .iface 188 (.int .i64 10), .iface 188 (.int .i64 11), .iface 188 (.int .i64 12), .iface 188 (.int .i64 13), .iface 188 (.int .i64 14), .iface 188 (.int .i64 15), .iface 203 (.int .i64 1)]

theorem codes_calls (w : World) : Calls Tryz.prog 76 #[] w fun e w' => e = .returned codesV ∧ Below w.heap.size w w' := codes_any w

theorem codes_idx (k : Nat) (h1 : 1 ≤ k) (h2 : k ≤ 15) (w : World) : (Instr.index 153 codesV (.int .i64 k)).run Tryz.prog w = .ok (.iface 188 (.int .i64 k)) w := by
  rcases (show k = 1 ∨ k = 2 ∨ k = 3 ∨ k = 4 ∨ k = 5 ∨ k = 6 ∨ k = 7 ∨ k = 8 ∨ k = 9 ∨ k = 10 ∨ k = 11 ∨ k = 12 ∨ k = 13 ∨ k = 14 ∨ k = 15 by omega) with rfl | rfl | rfl | rfl | rfl | rfl | rfl | rfl | rfl | rfl | rfl | rfl | rfl | rfl | rfl
  all_goals kernel_rfl
theorem codes_last (w : World) : (Instr.index 153 codesV (.int .i64 16)).run Tryz.prog w = .ok (.iface 203 (.int .i64 1)) w := by kernel_rfl
end Go.Proofs.YtgkenhmbilkhdaaGreatDoor
