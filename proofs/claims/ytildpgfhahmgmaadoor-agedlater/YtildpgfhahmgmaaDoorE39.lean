/- aged: ages are equal to themselves. -/
import Derived.Test.YtildpgfhahmgmaaDoorQyA
import Derived.Laws.StructEq
import Derived.ChangeKeysEq
namespace Go.Proofs.YtildpgfhahmgmaaDoor
open Go Go.Shelf Go.ChangeShapes Go.WideShapes Go.ChangeAt Go.RowKit Go.Maps
set_option linter.unusedVariables false
theorem info2 : (Tryd.prog.info? 2).map (fun i => (i.zero, i.size, i.bytes)) = some (some (.int .i64 0), 1, 8) := by kernel_rfl
theorem arr39 : Tryd.prog.underlying 39 = some (.array 5 2) := by kernel_rfl
theorem eg39 : Tryd.prog.eqGuardType Tryd.prog.depth 39 = false := by kernel_rfl
theorem cells2 : Tryd.prog.cellsOf 2 = 1 := by kernel_rfl
theorem eq39_same (a b c d e : Int) (w : World) : (Op.equalIn 10000 39 (.agg #[.int .i64 a, .int .i64 b, .int .i64 c, .int .i64 d, .int .i64 e]) (.agg #[.int .i64 a, .int .i64 b, .int .i64 c, .int .i64 d, .int .i64 e])).run Tryd.prog w = .ok true w := by
  obtain ⟨i, h1, h2, h3, h4⟩ := info_parts info2
  rw [run_equalIn_array w 9999 _ _ arr39 h1]
  rw [cells2]
  have e5 : List.range 5 = [0, 1, 2, 3, 4] := by decide
  rw [e5]
  simp [Op.eqItems, go_sem, Tryd.underlying2]
end Go.Proofs.YtildpgfhahmgmaaDoor
