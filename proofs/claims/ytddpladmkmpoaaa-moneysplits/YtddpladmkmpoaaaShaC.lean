import Derived.Test.YtddpladmkmpoaaaShaM
namespace Go.Proofs.Ytddpladmkmpoaaa
open Go.ChangeShapes Go.WideShapes Go.ChangeAt Go.RowKit
set_option linter.unusedVariables false
set_option maxHeartbeats 1000000 in
theorem split_min (v : Value) (w : World) : Calls Try.prog 23 #[.int .i64 (-9223372036854775808), v] w fun e w' => e = .returned (.tuple #[.slice none 0 0, .int .i64 10]) ∧ w' = w := by
  go_enter Try.func23, Try.ntmps23
  go_wp2_with fail
  refine (chk_no _).mono ?_
  rintro e w0 ⟨rfl, hw⟩
  rw [hw]
  go_wp2
  go_ret2
  exact ⟨rfl, rfl⟩
set_option maxHeartbeats 1000000 in
theorem split_bad (total : Int) (ht : -9223372036854775807 ≤ total) (v : Value) (w : World) (C : Calls Try.prog 44 #[v] w fun e w' => e = .returned (.tuple #[.int .i64 0, .int .i64 13]) ∧ w' = w) : Calls Try.prog 23 #[.int .i64 total, v] w fun e w' => e = .returned (.tuple #[.slice none 0 0, .int .i64 13]) ∧ w' = w := by
  have C := hide C
  go_enter Try.func23, Try.ntmps23
  go_wp2_with fail
  refine (chk_yes _ _ ht).mono ?_
  rintro e w0 ⟨rfl, hw⟩
  rw [hw]
  clear hw w0
  go_wp2_with fail
  refine (unhide C).mono ?_
  rintro e w0 ⟨rfl, hw⟩
  rw [hw]
  clear hw w0
  go_wp2
  go_ret2
  exact ⟨rfl, rfl⟩
end Go.Proofs.Ytddpladmkmpoaaa
