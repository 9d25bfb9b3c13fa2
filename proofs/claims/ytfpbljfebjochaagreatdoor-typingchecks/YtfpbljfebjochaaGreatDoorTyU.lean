/- typing: TypingTurned 6. -/
import Derived.Test.YtfpbljfebjochaaGreatDoorTyT
namespace Go.Proofs.YtfpbljfebjochaaGreatDoor
open Go Go.Shelf Go.ChangeShapes Go.WideShapes Go.ChangeAt Go.RowKit Go.Maps
set_option linter.unusedVariables false
set_option maxRecDepth 100000
set_option maxHeartbeats 8000000
theorem Twn.up {W X w' : World} {q : Qy} {a : Qa} (h : Twn X w' q a) (hb : Below W.heap.size W X) : Twn W w' q a := ⟨h.n.up hb, h.b.up hb, h.s.up hb, h.o.up hb⟩
theorem Twn.below {W X w' : World} {q : Qy} {a : Qa} (h : Twn W X q a) (hb : Below X.heap.size X w') : Twn W w' q a := ⟨h.n.below hb, h.b.below hb, h.s.below hb, h.o.below hb⟩
attribute [local go_sem ↓] ld32_is st32_is
end Go.Proofs.YtfpbljfebjochaaGreatDoor
