import Derived.Test.YtgkenhmbilkhdaaGreatDoorGItoa
import Derived.LaidEql
import Derived.Lib.IfaceEq
import Derived.Stop.Asserts
namespace Go.Proofs.YtgkenhmbilkhdaaGreatDoor
open Go.RowKit Go.Extern.Stop Go.Stop Go.Extern

/-! ### errors.Is at a *api.Error that wraps a number of api's or plain's, and such a number as the target -/
theorem typeOfA (v : Value) (w : World) : (callFunc 96 #[.iface 188 v]).run Tryz.prog w = .ok (.value (.iface 258 (.agg #[.pointer (some ⟨8, 188, none⟩)]))) w := by kernel_rfl
theorem typeOfP (v : Value) (w : World) : (callFunc 96 #[.iface 203 v]).run Tryz.prog w = .ok (.value (.iface 258 (.agg #[.pointer (some ⟨8, 203, none⟩)]))) w := by kernel_rfl
theorem comparableA (w : World) : (callFunc 325 #[.agg #[.pointer (some ⟨8, 188, none⟩)]]).run Tryz.prog w = .ok (.value (.bool true)) w := by kernel_rfl
theorem comparableP (w : World) : (callFunc 325 #[.agg #[.pointer (some ⟨8, 203, none⟩)]]).run Tryz.prog w = .ok (.value (.bool true)) w := by kernel_rfl
theorem methodComparable (v : Value) (w : World) : (Go.method 483 258 v "Comparable").run Tryz.prog w = .ok (325, v) w := by kernel_rfl
theorem noIs96 (v : Value) (xT : TypeId) (w : World) : (Instr.typeAssert (.iface 155 v) xT 260 true).run Tryz.prog w = .ok (.tuple #[.nilIface, .bool false]) w := run_typeAssert_lacksB Tryz.underlying260 (by kernel_rfl) (by kernel_rfl) v xT w
theorem noIsA (v : Value) (xT : TypeId) (w : World) : (Instr.typeAssert (.iface 188 v) xT 260 true).run Tryz.prog w = .ok (.tuple #[.nilIface, .bool false]) w := run_typeAssert_lacksB Tryz.underlying260 (by kernel_rfl) (by kernel_rfl) v xT w
theorem noIsP (v : Value) (xT : TypeId) (w : World) : (Instr.typeAssert (.iface 203 v) xT 260 true).run Tryz.prog w = .ok (.tuple #[.nilIface, .bool false]) w := run_typeAssert_lacksB Tryz.underlying260 (by kernel_rfl) (by kernel_rfl) v xT w
theorem has96 (v : Value) (xT : TypeId) (w : World) : (Instr.typeAssert (.iface 155 v) xT 263 true).run Tryz.prog w = .ok (.tuple #[.iface 155 v, .bool true]) w := run_typeAssert_hasB Tryz.underlying263 (by kernel_rfl) v xT w
theorem noUnA (v : Value) (xT : TypeId) (w : World) : (Instr.typeAssert (.iface 188 v) xT 263 true).run Tryz.prog w = .ok (.tuple #[.nilIface, .bool false]) w := run_typeAssert_lacksB Tryz.underlying263 (by kernel_rfl) (by kernel_rfl) v xT w
theorem noUnP (v : Value) (xT : TypeId) (w : World) : (Instr.typeAssert (.iface 203 v) xT 263 true).run Tryz.prog w = .ok (.tuple #[.nilIface, .bool false]) w := run_typeAssert_lacksB Tryz.underlying263 (by kernel_rfl) (by kernel_rfl) v xT w
theorem noUnsA (v : Value) (xT : TypeId) (w : World) : (Instr.typeAssert (.iface 188 v) xT 264 true).run Tryz.prog w = .ok (.tuple #[.nilIface, .bool false]) w := run_typeAssert_lacksB Tryz.underlying264 (by kernel_rfl) (by kernel_rfl) v xT w
theorem noUnsP (v : Value) (xT : TypeId) (w : World) : (Instr.typeAssert (.iface 203 v) xT 264 true).run Tryz.prog w = .ok (.tuple #[.nilIface, .bool false]) w := run_typeAssert_lacksB Tryz.underlying264 (by kernel_rfl) (by kernel_rfl) v xT w

set_option maxHeartbeats 2000000 in
theorem is_AA (b : Nat) (j k : Int) (w : World) (hc : w.cell? ⟨b, 2, none⟩ = some (.iface 188 (.int .i64 j))) :
    Calls Tryz.prog 75 #[.iface 155 (.pointer (some ⟨b, 0, none⟩)), .iface 188 (.int .i64 k)] w fun e w' => e = .returned (.bool (j == k)) ∧ w' = w := by
  have tT := typeOfA
  have cT := comparableA
  have mR := methodComparable
  have n9 := noIs96
  have u9 := has96
  have nA := noIsA
  have uA := noUnA
  have vA := noUnsA
  have hty := run_eql_iface_types (P := Tryz.prog) 155 188 (.pointer (some ⟨b, 0, none⟩)) (.int .i64 k) Tryz.underlying78 (by decide) w
  have heq := Lib.run_eql_iface_int (P := Tryz.prog) (k := .i64) w j k Tryz.underlying78 (tx := 188) (by kernel_rfl) Tryz.underlying188
  cases hjk : (j == k)
  all_goals
    rw [hjk] at heq
    go_enter Tryz.func75, Tryz.ntmps75
    go_wp2
    refine wp_loop_rounds 2 ?_
    rw [rounds_succ]
    go_wp2
    rw [rounds_succ]
    go_wp2
    go_ret
    exact ⟨rfl, rfl⟩
set_option maxHeartbeats 2000000 in
theorem is_AP (b : Nat) (j k : Int) (w : World) (hc : w.cell? ⟨b, 2, none⟩ = some (.iface 188 (.int .i64 j))) :
    Calls Tryz.prog 75 #[.iface 155 (.pointer (some ⟨b, 0, none⟩)), .iface 203 (.int .i64 k)] w fun e w' => e = .returned (.bool false) ∧ w' = w := by
  have tT := typeOfP
  have cT := comparableP
  have mR := methodComparable
  have n9 := noIs96
  have u9 := has96
  have nA := noIsA
  have uA := noUnA
  have vA := noUnsA
  have hty := run_eql_iface_types (P := Tryz.prog) 155 203 (.pointer (some ⟨b, 0, none⟩)) (.int .i64 k) Tryz.underlying78 (by decide) w
  have hty' := run_eql_iface_types (P := Tryz.prog) 188 203 (.int .i64 j) (.int .i64 k) Tryz.underlying78 (by decide) w
  go_enter Tryz.func75, Tryz.ntmps75
  go_wp2
  refine wp_loop_rounds 2 ?_
  rw [rounds_succ]
  go_wp2
  rw [rounds_succ]
  go_wp2
  go_ret
  exact ⟨rfl, rfl⟩
set_option maxHeartbeats 2000000 in
theorem is_PA (b : Nat) (j k : Int) (w : World) (hc : w.cell? ⟨b, 2, none⟩ = some (.iface 203 (.int .i64 j))) :
    Calls Tryz.prog 75 #[.iface 155 (.pointer (some ⟨b, 0, none⟩)), .iface 188 (.int .i64 k)] w fun e w' => e = .returned (.bool false) ∧ w' = w := by
  have tT := typeOfA
  have cT := comparableA
  have mR := methodComparable
  have n9 := noIs96
  have u9 := has96
  have nA := noIsP
  have uA := noUnP
  have vA := noUnsP
  have hty := run_eql_iface_types (P := Tryz.prog) 155 188 (.pointer (some ⟨b, 0, none⟩)) (.int .i64 k) Tryz.underlying78 (by decide) w
  have hty' := run_eql_iface_types (P := Tryz.prog) 203 188 (.int .i64 j) (.int .i64 k) Tryz.underlying78 (by decide) w
  go_enter Tryz.func75, Tryz.ntmps75
  go_wp2
  refine wp_loop_rounds 2 ?_
  rw [rounds_succ]
  go_wp2
  rw [rounds_succ]
  go_wp2
  go_ret
  exact ⟨rfl, rfl⟩
set_option maxHeartbeats 2000000 in
theorem is_PP (b : Nat) (j k : Int) (w : World) (hc : w.cell? ⟨b, 2, none⟩ = some (.iface 203 (.int .i64 j))) :
    Calls Tryz.prog 75 #[.iface 155 (.pointer (some ⟨b, 0, none⟩)), .iface 203 (.int .i64 k)] w fun e w' => e = .returned (.bool (j == k)) ∧ w' = w := by
  have tT := typeOfP
  have cT := comparableP
  have mR := methodComparable
  have n9 := noIs96
  have u9 := has96
  have nA := noIsP
  have uA := noUnP
  have vA := noUnsP
  have hty := run_eql_iface_types (P := Tryz.prog) 155 203 (.pointer (some ⟨b, 0, none⟩)) (.int .i64 k) Tryz.underlying78 (by decide) w
  have heq := Lib.run_eql_iface_int (P := Tryz.prog) (k := .i64) w j k Tryz.underlying78 (tx := 203) (by kernel_rfl) Tryz.underlying203
  cases hjk : (j == k)
  all_goals
    rw [hjk] at heq
    go_enter Tryz.func75, Tryz.ntmps75
    go_wp2
    refine wp_loop_rounds 2 ?_
    rw [rounds_succ]
    go_wp2
    rw [rounds_succ]
    go_wp2
    go_ret
    exact ⟨rfl, rfl⟩
end Go.Proofs.YtgkenhmbilkhdaaGreatDoor
