import Derived.Test.YtjipemnphpnmiaaDoorNmA
namespace Go.Proofs.YtjipemnphpnmiaaDoor
open Go.ChangeShapes Go.WideShapes Go.ChangeAt Go.RowKit
set_option linter.unusedVariables false
set_option maxHeartbeats 1000000 in
theorem dadd_ok (n b : Int) (w : World) (h1 : 1 ≤ n) (h2 : n ≤ 3652059) (h3 : 1 ≤ n + b) (h4 : n + b ≤ 3652059) :
    Calls Tryd.prog 24 #[.int .i64 n, .int .i64 b] w fun e w' => e = .returned (.tuple #[.int .i64 (n + b), .int .i64 0]) ∧ w' = w := by
  go_enter Tryd.func24, Tryd.ntmps24
  go_wp2_with (first | (go_at_call 37; refine (isday_yes _ _ (by omega) (by omega)).mono ?_; rintro e w' ⟨rfl, hw⟩; subst hw))
  go_ret2
  exact ⟨rfl, rfl⟩
set_option maxHeartbeats 1000000 in
theorem dadd_no (n b : Int) (w : World) (h : n < 1 ∨ 3652059 < n) :
    Calls Tryd.prog 24 #[.int .i64 n, .int .i64 b] w fun e w' => e = .returned (.tuple #[.int .i64 0, .int .i64 20]) ∧ w' = w := by
  have H := hide h
  clear h
  go_enter Tryd.func24, Tryd.ntmps24
  go_wp2_with (first | (go_at_call 37; refine (isday_no _ _ (unhide H)).mono ?_; rintro e w' ⟨rfl, hw⟩; subst hw))
  go_ret2
  exact ⟨rfl, rfl⟩
set_option maxHeartbeats 1000000 in
theorem dadd_out (n b : Int) (w : World) (h1 : 1 ≤ n) (h2 : n ≤ 3652059) (h : b < 1 - n ∨ ¬ b < 1 - n ∧ 3652059 - n < b) :
    Calls Tryd.prog 24 #[.int .i64 n, .int .i64 b] w fun e w' => e = .returned (.tuple #[.int .i64 0, .int .i64 20]) ∧ w' = w := by
  rcases h with h | ⟨h, h'⟩
  all_goals
    go_enter Tryd.func24, Tryd.ntmps24
    go_wp2_with (first | (go_at_call 37; refine (isday_yes _ _ (by omega) (by omega)).mono ?_; rintro e w' ⟨rfl, hw⟩; subst hw))
    go_ret2
    exact ⟨rfl, rfl⟩
set_option maxHeartbeats 1000000 in
theorem radd_ok (n b : Int) (w : World) (h1 : 1 ≤ n) (h2 : n ≤ 3652059) (h3 : 1 ≤ n + b) (h4 : n + b ≤ 3652059) :
    Calls Tryd.prog 25 #[.int .i64 n, .int .i64 b] w fun e w' => e = .returned (.tuple #[.int .i64 (n + b), .int .i64 0]) ∧ w' = w := by
  go_enter Tryd.func25, Tryd.ntmps25
  go_wp2
  go_ret2
  exact ⟨rfl, rfl⟩
set_option maxHeartbeats 1000000 in
theorem radd_no (n b : Int) (w : World) (h : n < 1 ∨ 1 ≤ n ∧ 3652059 < n) :
    Calls Tryd.prog 25 #[.int .i64 n, .int .i64 b] w fun e w' => e = .returned (.tuple #[.int .i64 0, .int .i64 20]) ∧ w' = w := by
  rcases h with h | ⟨h, h'⟩
  all_goals
    go_enter Tryd.func25, Tryd.ntmps25
    go_wp2
    go_ret2
    exact ⟨rfl, rfl⟩
set_option maxHeartbeats 1000000 in
theorem radd_out (n b : Int) (w : World) (h1 : 1 ≤ n) (h2 : n ≤ 3652059) (h : b < -3652059 ∨ -3652059 ≤ b ∧ 3652059 < b ∨ -3652059 ≤ b ∧ b ≤ 3652059 ∧ n + b < 1 ∨ -3652059 ≤ b ∧ b ≤ 3652059 ∧ 1 ≤ n + b ∧ 3652059 < n + b) :
    Calls Tryd.prog 25 #[.int .i64 n, .int .i64 b] w fun e w' => e = .returned (.tuple #[.int .i64 0, .int .i64 20]) ∧ w' = w := by
  rcases h with h | ⟨h, h'⟩ | ⟨h, h', h3⟩ | ⟨h, h', h3, h4⟩
  all_goals
    go_enter Tryd.func25, Tryd.ntmps25
    go_wp2
    go_ret2
    exact ⟨rfl, rfl⟩
/-- both Adds, at all numbers -/
theorem adds (n b : Int) : ∃ a e : Int, (∀ w, Calls Tryd.prog 24 #[.int .i64 n, .int .i64 b] w fun r w' => r = .returned (.tuple #[.int .i64 a, .int .i64 e]) ∧ w' = w) ∧ (∀ w, Calls Tryd.prog 25 #[.int .i64 n, .int .i64 b] w fun r w' => r = .returned (.tuple #[.int .i64 a, .int .i64 e]) ∧ w' = w) := by
  by_cases h : 1 ≤ n ∧ n ≤ 3652059
  · obtain ⟨h1, h2⟩ := h
    by_cases h3 : 1 ≤ n + b ∧ n + b ≤ 3652059
    · exact ⟨_, _, fun w => dadd_ok n b w h1 h2 h3.1 h3.2, fun w => radd_ok n b w h1 h2 h3.1 h3.2⟩
    · exact ⟨_, _, fun w => dadd_out n b w h1 h2 (by omega), fun w => radd_out n b w h1 h2 (by omega)⟩
  · exact ⟨_, _, fun w => dadd_no n b w (by omega), fun w => radd_no n b w (by omega)⟩
end Go.Proofs.YtjipemnphpnmiaaDoor
