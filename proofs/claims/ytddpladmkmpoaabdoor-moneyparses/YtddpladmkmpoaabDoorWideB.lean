import Derived.Test.YtddpladmkmpoaabDoorWideA
namespace Go.Proofs.YtddpladmkmpoaabDoor
open Go.ChangeShapes Go.WideShapes Go.ChangeAt Go.RowKit
set_option linter.unusedVariables false
attribute [local go_sem] setCell_drewN alloc_drewN

theorem ret_bool {a b : Bool} (h : a = b) : Ending.returned (.bool a) = .returned (.bool b) := by rw [h]
theorem ret_ib {a b : Int} {c d : Bool} (h : a = b) (k : c = d) : Ending.returned (.tuple #[.int .i64 a, .bool c]) = .returned (.tuple #[.int .i64 b, .bool d]) := by rw [h, k]
theorem p6 : (4294967296 : Int) ^ 6 = 6277101735386680763835789423207666416102355444464034512896 := by decide
theorem p6n : 4294967296 ^ 6 = 6277101735386680763835789423207666416102355444464034512896 := by decide

end Go.Proofs.YtddpladmkmpoaabDoor
