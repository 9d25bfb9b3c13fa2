/- aged: small ones: into (12), amount (35), isDay (36), IsDay (33), New (19). -/
import Derived.Test.YtildpgfhahmgmaaDoorChecked
import Derived.Handy
import Derived.Deep.RegionHeld3
namespace Go.Proofs.YtildpgfhahmgmaaDoor
open Go Go.ChangeShapes Go.WideShapes Go.ChangeAt Go.RowKit
set_option linter.unusedVariables false
def intoS (v lo hi : Int) : Int := if v < lo then lo else if v > hi then hi else v
theorem into_any (v lo hi : Int) (w : World) : Calls Tryd.prog 12 #[.int .i64 v, .int .i64 lo, .int .i64 hi] w fun e w' => e = .returned (.int .i64 (intoS v lo hi)) ∧ w' = w := by
  unfold intoS
  by_cases h1 : v < lo
  · rw [if_pos h1]
    go_enter Tryd.func12, Tryd.ntmps12
    go_wp2_with fail
    go_ret
    exact ⟨rfl, rfl⟩
  · rw [if_neg h1]
    by_cases h2 : v > hi
    · rw [if_pos h2]
      go_enter Tryd.func12, Tryd.ntmps12
      go_wp2_with fail
      go_ret
      exact ⟨rfl, rfl⟩
    · rw [if_neg h2]
      go_enter Tryd.func12, Tryd.ntmps12
      go_wp2_with fail
      go_ret
      exact ⟨rfl, rfl⟩
def amountS (v : Int) : Int := if v < 1 then 1 else if v > 1000000000 then 1000000000 else v
theorem amount_any (v : Int) (w : World) : Calls Tryd.prog 35 #[.int .i64 v] w fun e w' => e = .returned (.int .i64 (amountS v)) ∧ w' = w := by
  unfold amountS
  by_cases h1 : v < 1
  · rw [if_pos h1]
    go_enter Tryd.func35, Tryd.ntmps35
    go_wp2_with fail
    go_ret
    exact ⟨rfl, rfl⟩
  · rw [if_neg h1]
    by_cases h2 : v > 1000000000
    · rw [if_pos h2]
      go_enter Tryd.func35, Tryd.ntmps35
      go_wp2_with fail
      go_ret
      exact ⟨rfl, rfl⟩
    · rw [if_neg h2]
      go_enter Tryd.func35, Tryd.ntmps35
      go_wp2_with fail
      go_ret
      exact ⟨rfl, rfl⟩
def dayB (d : Int) : Bool := decide (1 ≤ d) && decide (d ≤ 3652059)
theorem isDay_any (d : Int) (w : World) : Calls Tryd.prog 36 #[.int .i64 d] w fun e w' => e = .returned (.bool (dayB d)) ∧ w' = w := by
  by_cases h1 : d ≥ 1
  · by_cases h2 : d ≤ 3652059
    · have e : dayB d = true := by unfold dayB; rw [decide_eq_true h1, decide_eq_true h2]; rfl
      rw [e]
      go_enter Tryd.func36, Tryd.ntmps36
      go_wp2_with fail
      go_ret
      exact ⟨rfl, rfl⟩
    · have e : dayB d = false := by unfold dayB; rw [decide_eq_false h2, Bool.and_false]
      rw [e]
      go_enter Tryd.func36, Tryd.ntmps36
      go_wp2_with fail
      go_ret
      exact ⟨rfl, rfl⟩
  · have e : dayB d = false := by unfold dayB; rw [decide_eq_false (p := 1 ≤ d) h1, Bool.false_and]
    rw [e]
    go_enter Tryd.func36, Tryd.ntmps36
    go_wp2_with fail
    go_ret
    exact ⟨rfl, rfl⟩
def newA : Obj := .cells #[.slice none 0 0, .map none, .map none, .slice none 0 0, .int .i64 0, .int .i64 0, .slice none 0 0] 83
theorem new_any (w : World) : Calls Tryd.prog 19 #[] w fun e w' => e = .returned (.pointer (some ⟨w.heap.size, 0, none⟩)) ∧ w' = w.alloc newA := by
  unfold newA
  go_enter Tryd.func19, Tryd.ntmps19
  go_wp2_with fail
  go_ret
  exact ⟨rfl, rfl⟩
end Go.Proofs.YtildpgfhahmgmaaDoor
