/- typing: first 13. -/
import Derived.Test.YtfpbljfebjochaaGreatDoorTyR
namespace Go.Proofs.YtfpbljfebjochaaGreatDoor
open Go Go.Shelf Go.ChangeShapes Go.WideShapes Go.ChangeAt Go.RowKit Go.Maps
set_option linter.unusedVariables false
set_option maxRecDepth 100000
set_option maxHeartbeats 4000000
/-- the operation that says the same turned about -/
def trnS (op : Int) : Int × Bool := if op = 4 ∨ op = 5 ∨ op = 1 ∨ op = 2 ∨ op = 12 ∨ op = 14 then (op, true) else if op = 6 then (8, true) else if op = 8 then (6, true) else if op = 7 then (9, true) else if op = 9 then (7, true) else (op, false)
end Go.Proofs.YtfpbljfebjochaaGreatDoor
