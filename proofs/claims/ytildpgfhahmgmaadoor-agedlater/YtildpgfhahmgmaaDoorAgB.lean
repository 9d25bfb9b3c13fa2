/- aged: money's Check (60), checkBoth (53), Add (44); AsOf (15). -/
import Derived.Test.YtildpgfhahmgmaaDoorAgA
namespace Go.Proofs.YtildpgfhahmgmaaDoor
open Go Go.ChangeShapes Go.WideShapes Go.ChangeAt Go.RowKit
set_option linter.unusedVariables false
/-- a fact that the walk does not look at -/
def Hid (P : Prop) : Prop := P
theorem hide {P : Prop} (h : P) : Hid P := h
theorem unhide {P : Prop} (h : Hid P) : P := h
theorem check_ok (a : Int) (ha : -9223372036854775807 ≤ a) (w : World) : Calls Tryd.prog 60 #[.int .i64 a] w fun e w' => e = .returned (.int .i64 0) ∧ w' = w := by
  have hb : (a == -9223372036854775808) = false := by rw [beq_eq_false_iff_ne]; omega
  have hc : ¬ a = -9223372036854775808 := by omega
  clear ha
  go_enter Tryd.func60, Tryd.ntmps60
  go_wp2_with fail
  go_ret
  exact ⟨rfl, rfl⟩
theorem both_ok (a b : Int) (ha : -9223372036854775807 ≤ a) (hb : -9223372036854775807 ≤ b) (w : World) : Calls Tryd.prog 53 #[.int .i64 a, .int .i64 b] w fun e w' => e = .returned (.int .i64 0) ∧ w' = w := by
  have d1 := hide (check_ok a ha)
  have d2 := hide (check_ok b hb)
  clear ha hb
  go_enter Tryd.func53, Tryd.ntmps53
  go_wp2_with fail
  refine (unhide d1 _).mono ?_
  rintro e w1 ⟨rfl, hw⟩
  rw [hw]
  clear hw w1
  go_wp2_with fail
  refine (unhide d2 _).mono ?_
  rintro e w1 ⟨rfl, hw⟩
  rw [hw]
  clear hw w1
  go_wp2_with fail
  go_ret
  exact ⟨rfl, rfl⟩
theorem add_ok (a b : Int) (ha : 0 ≤ a ∧ a ≤ 9223372036854775807) (hb : 1 ≤ b ∧ b ≤ 9223372036854775807) (h : a + b ≤ 9223372036854775807) (w : World) : Calls Tryd.prog 44 #[.int .i64 a, .int .i64 b] w fun e w' => e = .returned (.tuple #[.int .i64 (a + b), .int .i64 0]) ∧ w' = w := by
  have d := hide (both_ok a b (by omega) (by omega))
  have h1 : IntKind.i64.wrap (9223372036854775807 - b) = 9223372036854775807 - b := by rw [IntKind.wrap_i64]; omega
  have h2 : IntKind.i64.wrap (a + b) = a + b := by rw [IntKind.wrap_i64]; omega
  have h3 : b > 0 := by omega
  have h4 : ¬ b < 0 := by omega
  have h5 : ¬ a > 9223372036854775807 - b := by omega
  go_enter Tryd.func44, Tryd.ntmps44
  go_wp2_with fail
  refine (unhide d _).mono ?_
  rintro e w1 ⟨rfl, hw⟩
  rw [hw]
  clear hw w1
  go_wp2_with fail
  go_ret2
  exact ⟨rfl, rfl⟩
theorem add_over (a b : Int) (ha : 0 ≤ a ∧ a ≤ 9223372036854775807) (hb : 1 ≤ b ∧ b ≤ 9223372036854775807) (h : a + b > 9223372036854775807) (w : World) : Calls Tryd.prog 44 #[.int .i64 a, .int .i64 b] w fun e w' => e = .returned (.tuple #[.int .i64 0, .int .i64 11]) ∧ w' = w := by
  have d := hide (both_ok a b (by omega) (by omega))
  have h1 : IntKind.i64.wrap (9223372036854775807 - b) = 9223372036854775807 - b := by rw [IntKind.wrap_i64]; omega
  have h3 : b > 0 := by omega
  have h5 : a > 9223372036854775807 - b := by omega
  go_enter Tryd.func44, Tryd.ntmps44
  go_wp2_with fail
  refine (unhide d _).mono ?_
  rintro e w1 ⟨rfl, hw⟩
  rw [hw]
  clear hw w1
  go_wp2_with fail
  go_ret2
  exact ⟨rfl, rfl⟩
theorem asOf_any {w : World} {d : Nat} {g : Int} (h : w.cell? ⟨d, 5, none⟩ = some (.int .i64 g)) (hg : 0 ≤ g ∧ g ≤ 3652058) : Calls Tryd.prog 15 #[.pointer (some ⟨d, 0, none⟩)] w fun e w' => e = .returned (.int .i64 (1 + g)) ∧ w' = w := by
  have hw : IntKind.i64.wrap (1 + g) = 1 + g := by rw [IntKind.wrap_i64]; omega
  go_enter Tryd.func15, Tryd.ntmps15
  go_wp2_with fail
  go_ret
  exact ⟨rfl, rfl⟩
end Go.Proofs.YtildpgfhahmgmaaDoor
