/- errors.Is 27, is 44 of joined faults. -/
import Derived.Test.YtcelllihidkphaaDoorTyJ
import Derived.LaidEql
import Derived.Stop.Asserts
import Derived.RowKitTokens
namespace Go.Proofs.YtcelllihidkphaaDoor
open Go Go.Shelf Go.ChangeShapes Go.WideShapes Go.ChangeAt Go.RowKit Go.Maps Go.Extern.Stop Go.Stop Go.Extern
set_option linter.unusedVariables false
set_option maxRecDepth 100000
set_option maxHeartbeats 4000000
/-- the error of all faults -/
def eT : Value := .iface 40 (.int .i64 140)
theorem flt_false : flt false = eT := rfl
theorem flt_true : flt true = .nilIface := rfl
theorem ne1 (w : World) : (binOp .neq 64 (.iface 40 (.int .i64 140)) .nilIface).run Tryd.prog w = .ok (.bool true) w := by kernel_rfl
theorem ne0 (w : World) : (binOp .neq 64 .nilIface .nilIface).run Tryd.prog w = .ok (.bool false) w := by kernel_rfl
theorem eq1 (w : World) : (binOp .eql 64 (.iface 40 (.int .i64 140)) .nilIface).run Tryd.prog w = .ok (.bool false) w := by kernel_rfl
theorem eq0 (w : World) : (binOp .eql 64 .nilIface .nilIface).run Tryd.prog w = .ok (.bool true) w := by kernel_rfl
theorem eq0' (w : World) : (binOp .eql 64 .nilIface (.iface 40 (.int .i64 140))).run Tryd.prog w = .ok (.bool false) w := by kernel_rfl
theorem eqs (w : World) : (binOp .eql 64 (.iface 40 (.int .i64 140)) (.iface 40 (.int .i64 140))).run Tryd.prog w = .ok (.bool true) w := by kernel_rfl
theorem eqj (v : Value) (w : World) : (binOp .eql 64 (.iface 130 v) (.iface 40 (.int .i64 140))).run Tryd.prog w = .ok (.bool false) w := by kernel_rfl
theorem eqj0 (v : Value) (w : World) : (binOp .eql 64 (.iface 130 v) .nilIface).run Tryd.prog w = .ok (.bool false) w := by kernel_rfl
theorem noIs (v : Value) (xT : TypeId) (w : World) : (Instr.typeAssert (.iface 130 v) xT 122 true).run Tryd.prog w = .ok (.tuple #[.nilIface, .bool false]) w := run_typeAssert_lacksB Tryd.underlying122 (by kernel_rfl) (by kernel_rfl) v xT w
theorem noUn (v : Value) (xT : TypeId) (w : World) : (Instr.typeAssert (.iface 130 v) xT 125 true).run Tryd.prog w = .ok (.tuple #[.nilIface, .bool false]) w := run_typeAssert_lacksB Tryd.underlying125 (by kernel_rfl) (by kernel_rfl) v xT w
theorem hasUn (v : Value) (xT : TypeId) (w : World) : (Instr.typeAssert (.iface 130 v) xT 127 true).run Tryd.prog w = .ok (.tuple #[.iface 130 v, .bool true]) w := run_typeAssert_hasB Tryd.underlying127 (by kernel_rfl) v xT w
theorem mUn (v : Value) (w : World) : (Go.method 129 130 v "Unwrap").run Tryd.prog w = .ok (118, v) w := by kernel_rfl
theorem tOf (v : Value) (w : World) : (Extern.ReflectliteType.typeOf #[.iface 40 v]).run Tryd.prog w = .ok (.iface 120 (.agg #[.pointer (some ⟨3, 40, none⟩)])) w := by kernel_rfl
def cmpM : Array Value → Sem Value := Extern.ReflectliteType.method fun t => do Go.Extern.Rtype.noPackHeld "Comparable" t; pure (.bool (← typeInfo t).comparable)
theorem tCmp (w : World) : (cmpM #[.agg #[.pointer (some ⟨3, 40, none⟩)]]).run Tryd.prog w = .ok (.bool true) w := by kernel_rfl
theorem mCmp (v : Value) (w : World) : (Go.method 33 120 v "Comparable").run Tryd.prog w = .ok (108, v) w := by kernel_rfl
theorem is_self (w : World) : Calls Tryd.prog 44 #[.iface 40 (.int .i64 140), .iface 40 (.int .i64 140), .bool true] w fun e w' => e = .returned (.bool true) ∧ w' = w := by
  have h1 := eqs
  go_enter Tryd.func44, Tryd.ntmps44
  go_wp2
  refine wp_loop_rounds 1 ?_
  rw [rounds_succ]
  go_wp2
  go_ret
  exact ⟨rfl, rfl⟩
theorem unwrap_any {w : World} {j : Nat} {v : Value} (h : w.cell? ⟨j, 0, none⟩ = some v) : Calls Tryd.prog 118 #[.pointer (some ⟨j, 0, none⟩)] w fun e w' => e = .returned v ∧ w' = w := by
  go_enter Tryd.func118, Tryd.ntmps118
  go_wp2_with fail
  go_ret
  exact ⟨rfl, rfl⟩
theorem is_join {w : World} {j b m c : Nat} (h : w.cell? ⟨j, 0, none⟩ = some (.slice (some ⟨b, 0, none⟩) m c)) (hm : 1 ≤ m) (h0 : w.cell? ⟨b, 0, none⟩ = some (.iface 40 (.int .i64 140))) : Calls Tryd.prog 44 #[.iface 130 (.pointer (some ⟨j, 0, none⟩)), .iface 40 (.int .i64 140), .bool true] w fun e w' => e = .returned (.bool true) ∧ w' = w := by
  have h1 := eqj
  have h2 := noIs
  have h3 := noUn
  have h4 := hasUn
  have h5 := mUn
  have d := hide (unwrap_any h)
  have d2 := hide is_self
  have hm' : (0 : Int) < (m : Int) := by omega
  go_enter Tryd.func44, Tryd.ntmps44
  go_wp2_with fail
  refine wp_loop_rounds 1 ?_
  rw [rounds_succ]
  go_wp2_with fail
  refine (unhide d).mono ?_
  rintro e w1 ⟨rfl, hw⟩
  rw [hw]; clear hw w1
  go_wp2_with fail
  refine wp_loop_rounds 1 ?_
  rw [rounds_succ]
  go_wp2_with fail
  refine (unhide d2 _).mono ?_
  rintro e w1 ⟨rfl, hw⟩
  rw [hw]; clear hw w1
  go_wp2_with fail
  go_ret
  exact ⟨rfl, rfl⟩
theorem eIs_nil (w : World) : Calls Tryd.prog 27 #[.nilIface, .iface 40 (.int .i64 140)] w fun e w' => e = .returned (.bool false) ∧ w' = w := by
  have h1 := eq0
  have h2 := eq0'
  go_enter Tryd.func27, Tryd.ntmps27
  go_wp2_with fail
  go_ret
  exact ⟨rfl, rfl⟩
theorem eIs_join {w : World} {j b m c : Nat} (h : w.cell? ⟨j, 0, none⟩ = some (.slice (some ⟨b, 0, none⟩) m c)) (hm : 1 ≤ m) (h0 : w.cell? ⟨b, 0, none⟩ = some (.iface 40 (.int .i64 140))) : Calls Tryd.prog 27 #[.iface 130 (.pointer (some ⟨j, 0, none⟩)), .iface 40 (.int .i64 140)] w fun e w' => e = .returned (.bool true) ∧ w' = w := by
  have h8 := @run_callFunc_extern Tryd.prog 43 _ Extern.ReflectliteType.typeOf Tryd.func43 (by kernel_rfl) (by kernel_rfl) (by kernel_rfl) (by kernel_rfl)
  have h32 := @run_callFunc_extern Tryd.prog 108 _ cmpM Tryd.func108 (by kernel_rfl) (by kernel_rfl) (by kernel_rfl) (by kernel_rfl)
  have tT := tOf
  have cT := tCmp
  have mR := mCmp
  have q1 := eqj0
  have q2 := eq1
  have d := hide (is_join h hm h0)
  clear h h0 hm
  go_enter Tryd.func27, Tryd.ntmps27
  go_wp2_with fail
  refine (unhide d).mono ?_
  rintro e w1 ⟨rfl, hw⟩
  rw [hw]; clear hw w1
  go_wp2_with fail
  go_ret
  exact ⟨rfl, rfl⟩
end Go.Proofs.YtcelllihidkphaaDoor
