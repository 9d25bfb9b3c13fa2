import Derived.Test.YtjipemnphpnmiabDoorFlA
namespace Go.Proofs.YtjipemnphpnmiabDoor
open Go.ChangeShapes Go.WideShapes Go.ChangeAt Go.RowKit
set_option linter.unusedVariables false
theorem carry {w W : World} (hW : Below w.heap.size w W) {f : Nat} {args : Array Value} {v : Ending} (h : Calls Tryd.prog f args W fun e w' => e = v ∧ Below W.heap.size W w') : Calls Tryd.prog f args W fun e w' => e = v ∧ Below w.heap.size w w' :=
  h.mono fun e w' ⟨he, hb⟩ => ⟨he, hW.trans (hb.mono hW.size)⟩
end Go.Proofs.YtjipemnphpnmiabDoor
