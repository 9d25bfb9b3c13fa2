import Derived.Test.YtddpladmkmpoaabDoorShaA
import Derived.Test.YtddpladmkmpoaabDoorShaB
namespace Go.Proofs.YtddpladmkmpoaabDoor
open Go.ChangeShapes Go.WideShapes Go.ChangeAt Go.RowKit
set_option linter.unusedVariables false
set_option maxHeartbeats 1000000 in
theorem split_min (v : Value) (w : World) : Calls Tryd.prog 12 #[.int .i64 (-9223372036854775808), v] w fun e w' => e = .returned (.tuple #[.slice none 0 0, .int .i64 10]) ∧ w' = w := by
  go_enter Tryd.func12, Tryd.ntmps12
  go_wp2_with fail
  refine (chk_no _).mono ?_
  rintro e w0 ⟨rfl, hw⟩
  rw [hw]
  go_wp2
  go_ret2
  exact ⟨rfl, rfl⟩
set_option maxHeartbeats 1000000 in
theorem split_bad (total : Int) (ht : -9223372036854775807 ≤ total) (v : Value) (w : World) (C : Calls Tryd.prog 23 #[v] w fun e w' => e = .returned (.tuple #[.int .i64 0, .int .i64 13]) ∧ w' = w) : Calls Tryd.prog 12 #[.int .i64 total, v] w fun e w' => e = .returned (.tuple #[.slice none 0 0, .int .i64 13]) ∧ w' = w := by
  have C := hide C
  go_enter Tryd.func12, Tryd.ntmps12
  go_wp2_with fail
  refine (chk_yes _ _ ht).mono ?_
  rintro e w0 ⟨rfl, hw⟩
  rw [hw]
  clear hw w0
  go_wp2_with fail
  refine (unhide C).mono ?_
  rintro e w0 ⟨rfl, hw⟩
  rw [hw]
  clear hw w0
  go_wp2
  go_ret2
  exact ⟨rfl, rfl⟩
set_option maxRecDepth 100000 in
set_option maxHeartbeats 1000000 in
/-- the law where Split refuses -/
theorem shares_err (total k : Int) (v : Value) (w : World) (hP : Pow w) (e0 a f : Int) (he : (e0 != 0) = true)
    (C1 : ∀ W, Below w.heap.size w W → Calls Tryd.prog 12 #[.int .i64 total, v] W fun e w' => e = .returned (.tuple #[.slice none 0 0, .int .i64 e0]) ∧ w' = W)
    (C2 : ∀ W, Below w.heap.size w W → Calls Tryd.prog 8 #[v] W fun e w' => e = .returned (.tuple #[.int .i64 a, .int .i64 f]) ∧ w' = W) :
    Calls Tryd.prog 4 #[.int .i64 total, v, .int .i64 k] w fun e w' => e = .returned (.bool true) ∧ Below w.heap.size w w' := by
  have A0 := hide (first_ok w hP)
  have C1 := hide C1
  have C2 := hide C2
  clear hP
  go_enter Tryd.func4, Tryd.ntmps4
  go_wp2_with fail
  refine (unhide A0).mono ?_
  rintro e w1 ⟨rfl, hb1⟩
  have B1 := hide hb1
  clear hb1
  go_wp2_with fail
  refine (unhide C1 _ (unhide B1)).mono ?_
  rintro e w0 ⟨rfl, hw⟩
  rw [hw]
  clear hw w0
  go_wp2_with fail
  refine (unhide C2 _ (unhide B1)).mono ?_
  rintro e w0 ⟨rfl, hw⟩
  rw [hw]
  clear hw w0
  go_wp2
  go_ret
  exact ⟨rfl, unhide B1⟩
end Go.Proofs.YtddpladmkmpoaabDoor
