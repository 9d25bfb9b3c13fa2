import Derived.Test.YtjipemnphpnmiabDoorFrA
namespace Go.Proofs.YtjipemnphpnmiabDoor
open Go.ChangeShapes Go.WideShapes Go.ChangeAt Go.RowKit
set_option linter.unusedVariables false
set_option maxHeartbeats 1000000 in
theorem alike_same (a e : Int) (w : World) : Calls Tryd.prog 20 #[.int .i64 a, .int .i64 e, .int .i64 a, .int .i64 e] w fun r w' => r = .returned (.bool true) ∧ w' = w := by
  go_enter Tryd.func20, Tryd.ntmps20
  go_wp2
  go_ret
  exact ⟨by simp, rfl⟩
end Go.Proofs.YtjipemnphpnmiabDoor
