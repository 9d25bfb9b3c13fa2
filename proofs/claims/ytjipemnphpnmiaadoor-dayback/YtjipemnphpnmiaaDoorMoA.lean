import Derived.Test.YtjipemnphpnmiaaDoorFrA
namespace Go.Proofs.YtjipemnphpnmiaaDoor
open Go.ChangeShapes Go.WideShapes Go.ChangeAt Go.RowKit
set_option linter.unusedVariables false
set_option maxHeartbeats 1000000 in
theorem alike_same (a e : Int) (w : World) : Calls Tryd.prog 11 #[.int .i64 a, .int .i64 e, .int .i64 a, .int .i64 e] w fun r w' => r = .returned (.bool true) ∧ w' = w := by
  go_enter Tryd.func11, Tryd.ntmps11
  go_wp2
  go_ret
  exact ⟨by simp, rfl⟩
set_option maxHeartbeats 1000000 in
theorem walk_months_go (Y M a e : Int) (w : World) (H1 : Hid (Calls Tryd.prog 9 #[.int .i64 Y, .int .i64 M] w fun r w' => r = .returned (.tuple #[.int .i64 a, .int .i64 e]) ∧ w' = w))
    (H2 : Hid (Calls Tryd.prog 10 #[.int .i64 Y, .int .i64 M] w fun r w' => r = .returned (.tuple #[.int .i64 a, .int .i64 e]) ∧ w' = w)) :
    Calls Tryd.prog 3 #[.int .i64 Y, .int .i64 M] w fun r w' => r = .returned (.bool true) ∧ w' = w := by
  have L1 := hide (dleap Y w)
  have L2 := hide (rleap Y w)
  obtain ⟨l, hl⟩ : ∃ l, lp Y = l := ⟨_, rfl⟩
  rw [hl] at L1 L2
  clear hl
  cases l
  all_goals
    go_enter Tryd.func3, Tryd.ntmps3
    go_wp2_with (first | (go_at_call 9; refine (unhide H1).mono ?_; rintro e w' ⟨rfl, hw⟩; subst hw) | (go_at_call 10; refine (unhide H2).mono ?_; rintro e w' ⟨rfl, hw⟩; subst hw) | (go_at_call 11; refine (alike_same _ _ _).mono ?_; rintro e w' ⟨rfl, hw⟩; subst hw) | (go_at_call 12; refine (unhide L1).mono ?_; rintro e w' ⟨rfl, hw⟩; subst hw) | (go_at_call 13; refine (unhide L2).mono ?_; rintro e w' ⟨rfl, hw⟩; subst hw))
    go_ret
    exact ⟨by simp, rfl⟩
theorem walk_months (Y M : Int) (w : World) (hM : Mon w) : Calls Tryd.prog 3 #[.int .i64 Y, .int .i64 M] w fun r w' => r = .returned (.bool true) ∧ w' = w := by
  by_cases h : 1 ≤ Y ∧ Y ≤ 9999 ∧ 1 ≤ M ∧ M ≤ 12
  · obtain ⟨y, rfl⟩ : ∃ y : Nat, Y = y := ⟨Y.toNat, by omega⟩
    obtain ⟨m, rfl⟩ : ∃ m : Nat, M = m := ⟨M.toNat, by omega⟩
    exact walk_months_go _ _ _ _ w (ddays_ok y m w hM (by omega) (by omega) (by omega) (by omega)) (rdays_ok y m w (by omega) (by omega) (by omega) (by omega))
  · exact walk_months_go _ _ _ _ w (ddays_bad Y M w h) (rdays_bad Y M w h)
end Go.Proofs.YtjipemnphpnmiaaDoor
