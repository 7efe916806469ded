import Derived.Test.YtgkenhmbilkhdaaDoorTexts
import Derived.LaidEql
import Derived.Lib.IfaceEq
import Derived.Stop.Asserts
namespace Go.Proofs.YtgkenhmbilkhdaaDoor
open Go.RowKit Go.Extern.Stop Go.Stop Go.Extern

/-! ### errors.Is at a *api.Error that wraps a number of api's or plain's, and such a number as the target -/
theorem typeOfA (v : Value) (w : World) : (callFunc 26 #[.iface 64 v]).run Tryd.prog w = .ok (.value (.iface 108 (.agg #[.pointer (some ⟨6, 64, none⟩)]))) w := by kernel_rfl
theorem typeOfP (v : Value) (w : World) : (callFunc 26 #[.iface 81 v]).run Tryd.prog w = .ok (.value (.iface 108 (.agg #[.pointer (some ⟨6, 81, none⟩)]))) w := by kernel_rfl
theorem comparableA (w : World) : (callFunc 86 #[.agg #[.pointer (some ⟨6, 64, none⟩)]]).run Tryd.prog w = .ok (.value (.bool true)) w := by kernel_rfl
theorem comparableP (w : World) : (callFunc 86 #[.agg #[.pointer (some ⟨6, 81, none⟩)]]).run Tryd.prog w = .ok (.value (.bool true)) w := by kernel_rfl
theorem methodComparable (v : Value) (w : World) : (Go.method 264 108 v "Comparable").run Tryd.prog w = .ok (86, v) w := by kernel_rfl
theorem noIs96 (v : Value) (xT : TypeId) (w : World) : (Instr.typeAssert (.iface 55 v) xT 110 true).run Tryd.prog w = .ok (.tuple #[.nilIface, .bool false]) w := run_typeAssert_lacksB Tryd.underlying110 (by kernel_rfl) (by kernel_rfl) v xT w
theorem noIsA (v : Value) (xT : TypeId) (w : World) : (Instr.typeAssert (.iface 64 v) xT 110 true).run Tryd.prog w = .ok (.tuple #[.nilIface, .bool false]) w := run_typeAssert_lacksB Tryd.underlying110 (by kernel_rfl) (by kernel_rfl) v xT w
theorem noIsP (v : Value) (xT : TypeId) (w : World) : (Instr.typeAssert (.iface 81 v) xT 110 true).run Tryd.prog w = .ok (.tuple #[.nilIface, .bool false]) w := run_typeAssert_lacksB Tryd.underlying110 (by kernel_rfl) (by kernel_rfl) v xT w
theorem has96 (v : Value) (xT : TypeId) (w : World) : (Instr.typeAssert (.iface 55 v) xT 113 true).run Tryd.prog w = .ok (.tuple #[.iface 55 v, .bool true]) w := run_typeAssert_hasB Tryd.underlying113 (by kernel_rfl) v xT w
theorem noUnA (v : Value) (xT : TypeId) (w : World) : (Instr.typeAssert (.iface 64 v) xT 113 true).run Tryd.prog w = .ok (.tuple #[.nilIface, .bool false]) w := run_typeAssert_lacksB Tryd.underlying113 (by kernel_rfl) (by kernel_rfl) v xT w
theorem noUnP (v : Value) (xT : TypeId) (w : World) : (Instr.typeAssert (.iface 81 v) xT 113 true).run Tryd.prog w = .ok (.tuple #[.nilIface, .bool false]) w := run_typeAssert_lacksB Tryd.underlying113 (by kernel_rfl) (by kernel_rfl) v xT w
theorem noUnsA (v : Value) (xT : TypeId) (w : World) : (Instr.typeAssert (.iface 64 v) xT 114 true).run Tryd.prog w = .ok (.tuple #[.nilIface, .bool false]) w := run_typeAssert_lacksB Tryd.underlying114 (by kernel_rfl) (by kernel_rfl) v xT w
theorem noUnsP (v : Value) (xT : TypeId) (w : World) : (Instr.typeAssert (.iface 81 v) xT 114 true).run Tryd.prog w = .ok (.tuple #[.nilIface, .bool false]) w := run_typeAssert_lacksB Tryd.underlying114 (by kernel_rfl) (by kernel_rfl) v xT w

set_option maxHeartbeats 2000000 in
theorem is_AA (b : Nat) (j k : Int) (w : World) (hc : w.cell? ⟨b, 2, none⟩ = some (.iface 64 (.int .i64 j))) :
    Calls Tryd.prog 18 #[.iface 55 (.pointer (some ⟨b, 0, none⟩)), .iface 64 (.int .i64 k)] w fun e w' => e = .returned (.bool (j == k)) ∧ w' = w := by
  have tT := typeOfA
  have cT := comparableA
  have mR := methodComparable
  have n9 := noIs96
  have u9 := has96
  have nA := noIsA
  have uA := noUnA
  have vA := noUnsA
  have hty := run_eql_iface_types (P := Tryd.prog) 55 64 (.pointer (some ⟨b, 0, none⟩)) (.int .i64 k) Tryd.underlying33 (by decide) w
  have heq := Lib.run_eql_iface_int (P := Tryd.prog) (k := .i64) w j k Tryd.underlying33 (tx := 64) (by kernel_rfl) Tryd.underlying64
  cases hjk : (j == k)
  all_goals
    rw [hjk] at heq
    go_enter Tryd.func18, Tryd.ntmps18
    go_wp2
    refine wp_loop_rounds 2 ?_
    rw [rounds_succ]
    go_wp2
    rw [rounds_succ]
    go_wp2
    go_ret
    exact ⟨rfl, rfl⟩
set_option maxHeartbeats 2000000 in
theorem is_AP (b : Nat) (j k : Int) (w : World) (hc : w.cell? ⟨b, 2, none⟩ = some (.iface 64 (.int .i64 j))) :
    Calls Tryd.prog 18 #[.iface 55 (.pointer (some ⟨b, 0, none⟩)), .iface 81 (.int .i64 k)] w fun e w' => e = .returned (.bool false) ∧ w' = w := by
  have tT := typeOfP
  have cT := comparableP
  have mR := methodComparable
  have n9 := noIs96
  have u9 := has96
  have nA := noIsA
  have uA := noUnA
  have vA := noUnsA
  have hty := run_eql_iface_types (P := Tryd.prog) 55 81 (.pointer (some ⟨b, 0, none⟩)) (.int .i64 k) Tryd.underlying33 (by decide) w
  have hty' := run_eql_iface_types (P := Tryd.prog) 64 81 (.int .i64 j) (.int .i64 k) Tryd.underlying33 (by decide) w
  go_enter Tryd.func18, Tryd.ntmps18
  go_wp2
  refine wp_loop_rounds 2 ?_
  rw [rounds_succ]
  go_wp2
  rw [rounds_succ]
  go_wp2
  go_ret
  exact ⟨rfl, rfl⟩
set_option maxHeartbeats 2000000 in
theorem is_PA (b : Nat) (j k : Int) (w : World) (hc : w.cell? ⟨b, 2, none⟩ = some (.iface 81 (.int .i64 j))) :
    Calls Tryd.prog 18 #[.iface 55 (.pointer (some ⟨b, 0, none⟩)), .iface 64 (.int .i64 k)] w fun e w' => e = .returned (.bool false) ∧ w' = w := by
  have tT := typeOfA
  have cT := comparableA
  have mR := methodComparable
  have n9 := noIs96
  have u9 := has96
  have nA := noIsP
  have uA := noUnP
  have vA := noUnsP
  have hty := run_eql_iface_types (P := Tryd.prog) 55 64 (.pointer (some ⟨b, 0, none⟩)) (.int .i64 k) Tryd.underlying33 (by decide) w
  have hty' := run_eql_iface_types (P := Tryd.prog) 81 64 (.int .i64 j) (.int .i64 k) Tryd.underlying33 (by decide) w
  go_enter Tryd.func18, Tryd.ntmps18
  go_wp2
  refine wp_loop_rounds 2 ?_
  rw [rounds_succ]
  go_wp2
  rw [rounds_succ]
  go_wp2
  go_ret
  exact ⟨rfl, rfl⟩
set_option maxHeartbeats 2000000 in
theorem is_PP (b : Nat) (j k : Int) (w : World) (hc : w.cell? ⟨b, 2, none⟩ = some (.iface 81 (.int .i64 j))) :
    Calls Tryd.prog 18 #[.iface 55 (.pointer (some ⟨b, 0, none⟩)), .iface 81 (.int .i64 k)] w fun e w' => e = .returned (.bool (j == k)) ∧ w' = w := by
  have tT := typeOfP
  have cT := comparableP
  have mR := methodComparable
  have n9 := noIs96
  have u9 := has96
  have nA := noIsP
  have uA := noUnP
  have vA := noUnsP
  have hty := run_eql_iface_types (P := Tryd.prog) 55 81 (.pointer (some ⟨b, 0, none⟩)) (.int .i64 k) Tryd.underlying33 (by decide) w
  have heq := Lib.run_eql_iface_int (P := Tryd.prog) (k := .i64) w j k Tryd.underlying33 (tx := 81) (by kernel_rfl) Tryd.underlying81
  cases hjk : (j == k)
  all_goals
    rw [hjk] at heq
    go_enter Tryd.func18, Tryd.ntmps18
    go_wp2
    refine wp_loop_rounds 2 ?_
    rw [rounds_succ]
    go_wp2
    rw [rounds_succ]
    go_wp2
    go_ret
    exact ⟨rfl, rfl⟩
end Go.Proofs.YtgkenhmbilkhdaaDoor
