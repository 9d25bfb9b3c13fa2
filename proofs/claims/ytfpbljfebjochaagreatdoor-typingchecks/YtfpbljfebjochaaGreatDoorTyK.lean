/- errors.Is 22, is 44 of joined faults. -/
import Derived.Test.YtfpbljfebjochaaGreatDoorTyJ
import Derived.LaidEql
import Derived.Stop.Asserts
import Derived.RowKitTokens
namespace Go.Proofs.YtfpbljfebjochaaGreatDoor
open Go Go.Shelf Go.ChangeShapes Go.WideShapes Go.ChangeAt Go.RowKit Go.Maps Go.Extern.Stop Go.Stop Go.Extern
set_option linter.unusedVariables false
set_option maxRecDepth 100000
set_option maxHeartbeats 4000000
/-- the error of all faults -/
def eT : Value := .iface 55 (.int .i64 140)
theorem flt_false : flt false = eT := rfl
theorem flt_true : flt true = .nilIface := rfl
theorem ne1 (w : World) : (binOp .neq 81 (.iface 55 (.int .i64 140)) .nilIface).run Tryz.prog w = .ok (.bool true) w := by kernel_rfl
theorem ne0 (w : World) : (binOp .neq 81 .nilIface .nilIface).run Tryz.prog w = .ok (.bool false) w := by kernel_rfl
theorem eq1 (w : World) : (binOp .eql 81 (.iface 55 (.int .i64 140)) .nilIface).run Tryz.prog w = .ok (.bool false) w := by kernel_rfl
theorem eq0 (w : World) : (binOp .eql 81 .nilIface .nilIface).run Tryz.prog w = .ok (.bool true) w := by kernel_rfl
theorem eq0' (w : World) : (binOp .eql 81 .nilIface (.iface 55 (.int .i64 140))).run Tryz.prog w = .ok (.bool false) w := by kernel_rfl
theorem eqs (w : World) : (binOp .eql 81 (.iface 55 (.int .i64 140)) (.iface 55 (.int .i64 140))).run Tryz.prog w = .ok (.bool true) w := by kernel_rfl
theorem eqj (v : Value) (w : World) : (binOp .eql 81 (.iface 262 v) (.iface 55 (.int .i64 140))).run Tryz.prog w = .ok (.bool false) w := by kernel_rfl
theorem eqj0 (v : Value) (w : World) : (binOp .eql 81 (.iface 262 v) .nilIface).run Tryz.prog w = .ok (.bool false) w := by kernel_rfl
theorem noIs (v : Value) (xT : TypeId) (w : World) : (Instr.typeAssert (.iface 262 v) xT 254 true).run Tryz.prog w = .ok (.tuple #[.nilIface, .bool false]) w := run_typeAssert_lacksB Tryz.underlying254 (by kernel_rfl) (by kernel_rfl) v xT w
theorem noUn (v : Value) (xT : TypeId) (w : World) : (Instr.typeAssert (.iface 262 v) xT 257 true).run Tryz.prog w = .ok (.tuple #[.nilIface, .bool false]) w := run_typeAssert_lacksB Tryz.underlying257 (by kernel_rfl) (by kernel_rfl) v xT w
theorem hasUn (v : Value) (xT : TypeId) (w : World) : (Instr.typeAssert (.iface 262 v) xT 259 true).run Tryz.prog w = .ok (.tuple #[.iface 262 v, .bool true]) w := run_typeAssert_hasB Tryz.underlying259 (by kernel_rfl) v xT w
theorem mUn (v : Value) (w : World) : (Go.method 261 262 v "Unwrap").run Tryz.prog w = .ok (269, v) w := by kernel_rfl
theorem tOf (v : Value) (w : World) : (Extern.ReflectliteType.typeOf #[.iface 55 v]).run Tryz.prog w = .ok (.iface 252 (.agg #[.pointer (some ⟨6, 55, none⟩)])) w := by kernel_rfl
def cmpM : Array Value → Sem Value := Extern.ReflectliteType.method fun t => do Go.Extern.Rtype.noPackHeld "Comparable" t; pure (.bool (← typeInfo t).comparable)
theorem tCmp (w : World) : (cmpM #[.agg #[.pointer (some ⟨6, 55, none⟩)]]).run Tryz.prog w = .ok (.bool true) w := by kernel_rfl
theorem mCmp (v : Value) (w : World) : (Go.method 54 252 v "Comparable").run Tryz.prog w = .ok (259, v) w := by kernel_rfl
theorem is_self (w : World) : Calls Tryz.prog 134 #[.iface 55 (.int .i64 140), .iface 55 (.int .i64 140), .bool true] w fun e w' => e = .returned (.bool true) ∧ w' = w := by
  have h1 := eqs
  go_enter Tryz.func134, Tryz.ntmps134
  go_wp2
  refine wp_loop_rounds 1 ?_
  rw [rounds_succ]
  go_wp2
  go_ret
  exact ⟨rfl, rfl⟩
theorem unwrap_any {w : World} {j : Nat} {v : Value} (h : w.cell? ⟨j, 0, none⟩ = some v) : Calls Tryz.prog 269 #[.pointer (some ⟨j, 0, none⟩)] w fun e w' => e = .returned v ∧ w' = w := by
  go_enter Tryz.func269, Tryz.ntmps269
  go_wp2_with fail
  go_ret
  exact ⟨rfl, rfl⟩
theorem is_join {w : World} {j b m c : Nat} (h : w.cell? ⟨j, 0, none⟩ = some (.slice (some ⟨b, 0, none⟩) m c)) (hm : 1 ≤ m) (h0 : w.cell? ⟨b, 0, none⟩ = some (.iface 55 (.int .i64 140))) : Calls Tryz.prog 134 #[.iface 262 (.pointer (some ⟨j, 0, none⟩)), .iface 55 (.int .i64 140), .bool true] w fun e w' => e = .returned (.bool true) ∧ w' = w := by
  have h1 := eqj
  have h2 := noIs
  have h3 := noUn
  have h4 := hasUn
  have h5 := mUn
  have d := hide (unwrap_any h)
  have d2 := hide is_self
  have hm' : (0 : Int) < (m : Int) := by omega
  go_enter Tryz.func134, Tryz.ntmps134
  go_wp2_with fail
  refine wp_loop_rounds 1 ?_
  rw [rounds_succ]
  go_wp2_with fail
  refine (unhide d).mono ?_
  rintro e w1 ⟨rfl, hw⟩
  rw [hw]; clear hw w1
  go_wp2_with fail
  refine wp_loop_rounds 1 ?_
  rw [rounds_succ]
  go_wp2_with fail
  refine (unhide d2 _).mono ?_
  rintro e w1 ⟨rfl, hw⟩
  rw [hw]; clear hw w1
  go_wp2_with fail
  go_ret
  exact ⟨rfl, rfl⟩
theorem eIs_nil (w : World) : Calls Tryz.prog 62 #[.nilIface, .iface 55 (.int .i64 140)] w fun e w' => e = .returned (.bool false) ∧ w' = w := by
  have h1 := eq0
  have h2 := eq0'
  go_enter Tryz.func62, Tryz.ntmps62
  go_wp2_with fail
  go_ret
  exact ⟨rfl, rfl⟩
theorem eIs_join {w : World} {j b m c : Nat} (h : w.cell? ⟨j, 0, none⟩ = some (.slice (some ⟨b, 0, none⟩) m c)) (hm : 1 ≤ m) (h0 : w.cell? ⟨b, 0, none⟩ = some (.iface 55 (.int .i64 140))) : Calls Tryz.prog 62 #[.iface 262 (.pointer (some ⟨j, 0, none⟩)), .iface 55 (.int .i64 140)] w fun e w' => e = .returned (.bool true) ∧ w' = w := by
  have h8 := @run_callFunc_extern Tryz.prog 133 _ Extern.ReflectliteType.typeOf Tryz.func133 (by kernel_rfl) (by kernel_rfl) (by kernel_rfl) (by kernel_rfl)
  have h32 := @run_callFunc_extern Tryz.prog 259 _ cmpM Tryz.func259 (by kernel_rfl) (by kernel_rfl) (by kernel_rfl) (by kernel_rfl)
  have tT := tOf
  have cT := tCmp
  have mR := mCmp
  have q1 := eqj0
  have q2 := eq1
  have d := hide (is_join h hm h0)
  clear h h0 hm
  go_enter Tryz.func62, Tryz.ntmps62
  go_wp2_with fail
  refine (unhide d).mono ?_
  rintro e w1 ⟨rfl, hw⟩
  rw [hw]; clear hw w1
  go_wp2_with fail
  go_ret
  exact ⟨rfl, rfl⟩
end Go.Proofs.YtfpbljfebjochaaGreatDoor
