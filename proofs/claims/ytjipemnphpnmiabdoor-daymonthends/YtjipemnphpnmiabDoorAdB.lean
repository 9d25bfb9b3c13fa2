import Derived.Test.YtjipemnphpnmiabDoorAdA
import Derived.Test.YtjipemnphpnmiabDoorAmA
namespace Go.Proofs.YtjipemnphpnmiabDoor
open Go.ChangeShapes Go.WideShapes Go.ChangeAt Go.RowKit
set_option linter.unusedVariables false
theorem dd_min (X d : Nat) (h1 : 1 ≤ d) (h2 : 1 ≤ X) : dd X d = ((min d X : Nat) : Int) := by
  unfold dd
  rw [if_neg (show ¬ (d : Int) < 1 by omega)]
  by_cases h : X < d
  · rw [if_pos (by omega)]
    omega
  · rw [if_neg (by omega)]
    omega
/-- the day so many months on -/
theorem dam_go (y m d n : Nat) (b : Int) (w : World) (hM : Mon w) (h : Dat y m d n) (t : Nat) (ht : (t : Int) = 12 * y + m - 1 + b) (h1 : 12 ≤ t) (h2 : t < 120000) :
    Calls Tryd.prog 16 #[.int .i64 n, .int .i64 b] w fun r w' => r = .returned (.tuple #[.int .i64 ((ahead (t / 12) + mb (t / 12) (t % 12 + 1) + min d (dm (t / 12) (t % 12 + 1)) : Nat) : Int), .int .i64 0]) ∧ Below w.heap.size w w' := by
  have hk := h.mon t h1 h2
  have hx := dm_lo (t / 12) (t % 12 + 1)
  refine dam_ok y m d n b w hM h (12 * y + m - 1) t (t / 12) (t % 12 + 1) (min d (dm (t / 12) (t % 12 + 1))) _ rfl (by have := h.m1; omega) h1 h2 rfl rfl (fun W hW => carry hW ?_) (fun W hW => carry hW (numb _ _ _ _ W (hM.below hW) hk))
  have := near (t / 12 : Nat) (t % 12 + 1 : Nat) d (t / 12) (t % 12 + 1) _ rfl W (hM.below hW) (Or.inr (Or.inr ⟨rfl, hk.y1, hk.y2⟩)) (Or.inr (Or.inr ⟨rfl, hk.m1, hk.m2⟩))
  rw [dd_min _ _ h.d1 (by omega)] at this
  exact this
end Go.Proofs.YtjipemnphpnmiabDoor
