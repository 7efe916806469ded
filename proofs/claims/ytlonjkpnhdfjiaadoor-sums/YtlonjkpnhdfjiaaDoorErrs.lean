import Derived.Test.YtlonjkpnhdfjiaaDoorTexts
import Derived.LaidEql
import Derived.Lib.IfaceEq
import Derived.Stop.Asserts
namespace Go.Proofs.YtlonjkpnhdfjiaaDoor
open Go.RowKit Go.Extern.Stop Go.Stop Go.Extern

/-! ### errors.Is at a *api.Error that wraps a number of api's or plain's, and such a number as the target -/
theorem typeOfA (v : Value) (w : World) : (callFunc 47 #[.iface 118 v]).run Tryd.prog w = .ok (.value (.iface 166 (.agg #[.pointer (some ⟨6, 118, none⟩)]))) w := by kernel_rfl
theorem typeOfP (v : Value) (w : World) : (callFunc 47 #[.iface 133 v]).run Tryd.prog w = .ok (.value (.iface 166 (.agg #[.pointer (some ⟨6, 133, none⟩)]))) w := by kernel_rfl
theorem comparableA (w : World) : (callFunc 133 #[.agg #[.pointer (some ⟨6, 118, none⟩)]]).run Tryd.prog w = .ok (.value (.bool true)) w := by kernel_rfl
theorem comparableP (w : World) : (callFunc 133 #[.agg #[.pointer (some ⟨6, 133, none⟩)]]).run Tryd.prog w = .ok (.value (.bool true)) w := by kernel_rfl
theorem methodComparable (v : Value) (w : World) : (Go.method 336 166 v "Comparable").run Tryd.prog w = .ok (133, v) w := by kernel_rfl
theorem noIs96 (v : Value) (xT : TypeId) (w : World) : (Instr.typeAssert (.iface 96 v) xT 168 true).run Tryd.prog w = .ok (.tuple #[.nilIface, .bool false]) w := run_typeAssert_lacksB Tryd.underlying168 (by kernel_rfl) (by kernel_rfl) v xT w
theorem noIsA (v : Value) (xT : TypeId) (w : World) : (Instr.typeAssert (.iface 118 v) xT 168 true).run Tryd.prog w = .ok (.tuple #[.nilIface, .bool false]) w := run_typeAssert_lacksB Tryd.underlying168 (by kernel_rfl) (by kernel_rfl) v xT w
theorem noIsP (v : Value) (xT : TypeId) (w : World) : (Instr.typeAssert (.iface 133 v) xT 168 true).run Tryd.prog w = .ok (.tuple #[.nilIface, .bool false]) w := run_typeAssert_lacksB Tryd.underlying168 (by kernel_rfl) (by kernel_rfl) v xT w
theorem has96 (v : Value) (xT : TypeId) (w : World) : (Instr.typeAssert (.iface 96 v) xT 171 true).run Tryd.prog w = .ok (.tuple #[.iface 96 v, .bool true]) w := run_typeAssert_hasB Tryd.underlying171 (by kernel_rfl) v xT w
theorem noUnA (v : Value) (xT : TypeId) (w : World) : (Instr.typeAssert (.iface 118 v) xT 171 true).run Tryd.prog w = .ok (.tuple #[.nilIface, .bool false]) w := run_typeAssert_lacksB Tryd.underlying171 (by kernel_rfl) (by kernel_rfl) v xT w
theorem noUnP (v : Value) (xT : TypeId) (w : World) : (Instr.typeAssert (.iface 133 v) xT 171 true).run Tryd.prog w = .ok (.tuple #[.nilIface, .bool false]) w := run_typeAssert_lacksB Tryd.underlying171 (by kernel_rfl) (by kernel_rfl) v xT w
theorem noUnsA (v : Value) (xT : TypeId) (w : World) : (Instr.typeAssert (.iface 118 v) xT 172 true).run Tryd.prog w = .ok (.tuple #[.nilIface, .bool false]) w := run_typeAssert_lacksB Tryd.underlying172 (by kernel_rfl) (by kernel_rfl) v xT w
theorem noUnsP (v : Value) (xT : TypeId) (w : World) : (Instr.typeAssert (.iface 133 v) xT 172 true).run Tryd.prog w = .ok (.tuple #[.nilIface, .bool false]) w := run_typeAssert_lacksB Tryd.underlying172 (by kernel_rfl) (by kernel_rfl) v xT w

set_option maxHeartbeats 2000000 in
theorem is_AA (b : Nat) (j k : Int) (w : World) (hc : w.cell? ⟨b, 2, none⟩ = some (.iface 118 (.int .i64 j))) :
    Calls Tryd.prog 35 #[.iface 96 (.pointer (some ⟨b, 0, none⟩)), .iface 118 (.int .i64 k)] w fun e w' => e = .returned (.bool (j == k)) ∧ w' = w := by
  have tT := typeOfA
  have cT := comparableA
  have mR := methodComparable
  have n9 := noIs96
  have u9 := has96
  have nA := noIsA
  have uA := noUnA
  have vA := noUnsA
  have hty := run_eql_iface_types (P := Tryd.prog) 96 118 (.pointer (some ⟨b, 0, none⟩)) (.int .i64 k) Tryd.underlying47 (by decide) w
  have heq := Lib.run_eql_iface_int (P := Tryd.prog) (k := .i64) w j k Tryd.underlying47 (tx := 118) (by kernel_rfl) Tryd.underlying118
  cases hjk : (j == k)
  all_goals
    rw [hjk] at heq
    go_enter Tryd.func35, Tryd.ntmps35
    go_wp2
    refine wp_loop_rounds 2 ?_
    rw [rounds_succ]
    go_wp2
    rw [rounds_succ]
    go_wp2
    go_ret
    exact ⟨rfl, rfl⟩
set_option maxHeartbeats 2000000 in
theorem is_AP (b : Nat) (j k : Int) (w : World) (hc : w.cell? ⟨b, 2, none⟩ = some (.iface 118 (.int .i64 j))) :
    Calls Tryd.prog 35 #[.iface 96 (.pointer (some ⟨b, 0, none⟩)), .iface 133 (.int .i64 k)] w fun e w' => e = .returned (.bool false) ∧ w' = w := by
  have tT := typeOfP
  have cT := comparableP
  have mR := methodComparable
  have n9 := noIs96
  have u9 := has96
  have nA := noIsA
  have uA := noUnA
  have vA := noUnsA
  have hty := run_eql_iface_types (P := Tryd.prog) 96 133 (.pointer (some ⟨b, 0, none⟩)) (.int .i64 k) Tryd.underlying47 (by decide) w
  have hty' := run_eql_iface_types (P := Tryd.prog) 118 133 (.int .i64 j) (.int .i64 k) Tryd.underlying47 (by decide) w
  go_enter Tryd.func35, Tryd.ntmps35
  go_wp2
  refine wp_loop_rounds 2 ?_
  rw [rounds_succ]
  go_wp2
  rw [rounds_succ]
  go_wp2
  go_ret
  exact ⟨rfl, rfl⟩
set_option maxHeartbeats 2000000 in
theorem is_PA (b : Nat) (j k : Int) (w : World) (hc : w.cell? ⟨b, 2, none⟩ = some (.iface 133 (.int .i64 j))) :
    Calls Tryd.prog 35 #[.iface 96 (.pointer (some ⟨b, 0, none⟩)), .iface 118 (.int .i64 k)] w fun e w' => e = .returned (.bool false) ∧ w' = w := by
  have tT := typeOfA
  have cT := comparableA
  have mR := methodComparable
  have n9 := noIs96
  have u9 := has96
  have nA := noIsP
  have uA := noUnP
  have vA := noUnsP
  have hty := run_eql_iface_types (P := Tryd.prog) 96 118 (.pointer (some ⟨b, 0, none⟩)) (.int .i64 k) Tryd.underlying47 (by decide) w
  have hty' := run_eql_iface_types (P := Tryd.prog) 133 118 (.int .i64 j) (.int .i64 k) Tryd.underlying47 (by decide) w
  go_enter Tryd.func35, Tryd.ntmps35
  go_wp2
  refine wp_loop_rounds 2 ?_
  rw [rounds_succ]
  go_wp2
  rw [rounds_succ]
  go_wp2
  go_ret
  exact ⟨rfl, rfl⟩
set_option maxHeartbeats 2000000 in
theorem is_PP (b : Nat) (j k : Int) (w : World) (hc : w.cell? ⟨b, 2, none⟩ = some (.iface 133 (.int .i64 j))) :
    Calls Tryd.prog 35 #[.iface 96 (.pointer (some ⟨b, 0, none⟩)), .iface 133 (.int .i64 k)] w fun e w' => e = .returned (.bool (j == k)) ∧ w' = w := by
  have tT := typeOfP
  have cT := comparableP
  have mR := methodComparable
  have n9 := noIs96
  have u9 := has96
  have nA := noIsP
  have uA := noUnP
  have vA := noUnsP
  have hty := run_eql_iface_types (P := Tryd.prog) 96 133 (.pointer (some ⟨b, 0, none⟩)) (.int .i64 k) Tryd.underlying47 (by decide) w
  have heq := Lib.run_eql_iface_int (P := Tryd.prog) (k := .i64) w j k Tryd.underlying47 (tx := 133) (by kernel_rfl) Tryd.underlying133
  cases hjk : (j == k)
  all_goals
    rw [hjk] at heq
    go_enter Tryd.func35, Tryd.ntmps35
    go_wp2
    refine wp_loop_rounds 2 ?_
    rw [rounds_succ]
    go_wp2
    rw [rounds_succ]
    go_wp2
    go_ret
    exact ⟨rfl, rfl⟩
end Go.Proofs.YtlonjkpnhdfjiaaDoor
