import Derived.Test.YtddpladmkmpoaaaSumR
import Derived.Test.YtddpladmkmpoaaaOnesN
import Derived.Test.YtddpladmkmpoaaaShelf
namespace Go.Proofs.Ytddpladmkmpoaaa
open Go.ChangeShapes Go.WideShapes Go.ChangeAt Go.RowKit
set_option linter.unusedVariables false

set_option maxHeartbeats 1000000 in
theorem chk_yes (a : Int) (w : World) (h : -9223372036854775807 ≤ a) : Calls Try.prog 11 #[.int .i64 a] w fun e w' => e = .returned (.int .i64 0) ∧ w' = w := by
  have hb : (a == -9223372036854775808) = false := by rw [beq_eq_false_iff_ne]; omega
  clear h
  go_enter Try.func11, Try.ntmps11
  go_wp2
  go_ret
  exact ⟨rfl, rfl⟩
set_option maxHeartbeats 1000000 in
theorem chk_no (w : World) : Calls Try.prog 11 #[.int .i64 (-9223372036854775808)] w fun e w' => e = .returned (.int .i64 10) ∧ w' = w := by
  go_enter Try.func11, Try.ntmps11
  go_wp2
  go_ret
  exact ⟨rfl, rfl⟩
theorem chk_any (a : Int) (w : World) (h : -9223372036854775808 ≤ a) : Calls Try.prog 11 #[.int .i64 a] w fun e w' => e = .returned (.int .i64 (chkSpec a)) ∧ w' = w := by
  by_cases h0 : a = -9223372036854775808
  · subst h0
    have : chkSpec (-9223372036854775808) = 10 := by simp [chkSpec, isMin]
    rw [this]
    exact chk_no w
  · have : chkSpec a = 0 := by simp [chkSpec, isMin_no h0]
    rw [this]
    exact chk_yes a w (by omega)
set_option maxHeartbeats 1000000 in
theorem both_yes (a b : Int) (w : World) (h : -9223372036854775807 ≤ a) (k : -9223372036854775807 ≤ b) : Calls Try.prog 34 #[.int .i64 a, .int .i64 b] w fun e w' => e = .returned (.int .i64 0) ∧ w' = w := by
  go_enter Try.func34, Try.ntmps34
  go_wp2_with (go_at_call 11; refine (chk_yes _ _ (by omega)).mono ?_; rintro e w' ⟨rfl, hw⟩; subst hw)
  go_ret
  exact ⟨rfl, rfl⟩
set_option maxHeartbeats 1000000 in
theorem both_no1 (b : Int) (w : World) : Calls Try.prog 34 #[.int .i64 (-9223372036854775808), .int .i64 b] w fun e w' => e = .returned (.int .i64 10) ∧ w' = w := by
  go_enter Try.func34, Try.ntmps34
  go_wp2_with (go_at_call 11; refine (chk_no _).mono ?_; rintro e w' ⟨rfl, hw⟩; subst hw)
  go_ret
  exact ⟨rfl, rfl⟩
set_option maxHeartbeats 1000000 in
theorem both_no2 (a : Int) (w : World) (h : -9223372036854775807 ≤ a) : Calls Try.prog 34 #[.int .i64 a, .int .i64 (-9223372036854775808)] w fun e w' => e = .returned (.int .i64 10) ∧ w' = w := by
  go_enter Try.func34, Try.ntmps34
  go_wp2_with fail
  refine (chk_yes _ _ (by omega)).mono ?_
  rintro e w' ⟨rfl, hw⟩
  subst hw
  go_wp2_with fail
  refine (chk_no _).mono ?_
  rintro e w' ⟨rfl, hw⟩
  subst hw
  go_wp2
  go_ret
  exact ⟨rfl, rfl⟩
/-- which of two is no amount -/
theorem both_bad (a b : Int) (w : World) (ha : -9223372036854775808 ≤ a) (hb : -9223372036854775808 ≤ b) (h : isMin a = true ∨ isMin b = true) : Calls Try.prog 34 #[.int .i64 a, .int .i64 b] w fun e w' => e = .returned (.int .i64 10) ∧ w' = w := by
  by_cases h0 : a = -9223372036854775808
  · subst h0
    exact both_no1 b w
  · have h1 : b = -9223372036854775808 := by
      rcases h with h | h
      · rw [isMin_no h0] at h; cases h
      · simpa [isMin] using h
    subst h1
    exact both_no2 a w (by omega)

set_option maxHeartbeats 1000000 in
theorem madd_bad (a b : Int) (w : World) (ha : -9223372036854775808 ≤ a) (hb : -9223372036854775808 ≤ b) (h : isMin a = true ∨ isMin b = true) :
    Calls Try.prog 13 #[.int .i64 a, .int .i64 b] w fun e w' => e = .returned (.tuple #[.int .i64 0, .int .i64 10]) ∧ w' = w := by
  have H := hide h
  clear h
  go_enter Try.func13, Try.ntmps13
  go_wp2_with (go_at_call 34; refine (both_bad _ _ _ (by omega) (by omega) (unhide H)).mono ?_; rintro e w' ⟨rfl, hw⟩; subst hw)
  go_ret2
  exact ⟨rfl, rfl⟩
set_option maxHeartbeats 1000000 in
theorem madd_fits (a b : Int) (w : World) (ha : -9223372036854775807 ≤ a) (hb : -9223372036854775807 ≤ b) (ha' : a ≤ 9223372036854775807) (hb' : b ≤ 9223372036854775807) (h1 : -9223372036854775807 ≤ a + b) (h2 : a + b ≤ 9223372036854775807) :
    Calls Try.prog 13 #[.int .i64 a, .int .i64 b] w fun e w' => e = .returned (.tuple #[.int .i64 (a + b), .int .i64 0]) ∧ w' = w := by
  rcases Int.lt_trichotomy b 0 with hb0 | hb0 | hb0
  · go_enter Try.func13, Try.ntmps13
    go_wp2_with (go_at_call 34; refine (both_yes _ _ _ (by omega) (by omega)).mono ?_; rintro e w' ⟨rfl, hw⟩; subst hw)
    go_ret2
    exact ⟨rfl, rfl⟩
  · subst hb0
    go_enter Try.func13, Try.ntmps13
    go_wp2_with (go_at_call 34; refine (both_yes _ _ _ (by omega) (by omega)).mono ?_; rintro e w' ⟨rfl, hw⟩; subst hw)
    go_ret2
    exact ⟨ret_ii (by simp) rfl, rfl⟩
  · go_enter Try.func13, Try.ntmps13
    go_wp2_with (go_at_call 34; refine (both_yes _ _ _ (by omega) (by omega)).mono ?_; rintro e w' ⟨rfl, hw⟩; subst hw)
    go_ret2
    exact ⟨rfl, rfl⟩
set_option maxHeartbeats 1000000 in
theorem madd_over (a b : Int) (w : World) (ha : -9223372036854775807 ≤ a) (hb : -9223372036854775807 ≤ b) (ha' : a ≤ 9223372036854775807) (hb' : b ≤ 9223372036854775807) (h : a + b < -9223372036854775807 ∨ 9223372036854775807 < a + b) :
    Calls Try.prog 13 #[.int .i64 a, .int .i64 b] w fun e w' => e = .returned (.tuple #[.int .i64 0, .int .i64 11]) ∧ w' = w := by
  rcases h with h | h
  · go_enter Try.func13, Try.ntmps13
    go_wp2_with (go_at_call 34; refine (both_yes _ _ _ (by omega) (by omega)).mono ?_; rintro e w' ⟨rfl, hw⟩; subst hw)
    go_ret2
    exact ⟨rfl, rfl⟩
  · go_enter Try.func13, Try.ntmps13
    go_wp2_with (go_at_call 34; refine (both_yes _ _ _ (by omega) (by omega)).mono ?_; rintro e w' ⟨rfl, hw⟩; subst hw)
    go_ret2
    exact ⟨rfl, rfl⟩
theorem madd_any (a b : Int) (w : World) (ha : -9223372036854775808 ≤ a) (hb : -9223372036854775808 ≤ b) (ha' : a ≤ 9223372036854775807) (hb' : b ≤ 9223372036854775807) :
    Calls Try.prog 13 #[.int .i64 a, .int .i64 b] w fun e w' => e = .returned (.tuple #[.int .i64 (addSpec a b).1, .int .i64 (addSpec a b).2]) ∧ w' = w := by
  by_cases h : isMin a = true ∨ isMin b = true
  · rw [addSpec_bad a b h]
    exact madd_bad a b w ha hb h
  · have h1 : isMin a = false := by
      cases e : isMin a
      · rfl
      · exact (h (Or.inl e)).elim
    have h2 : isMin b = false := by
      cases e : isMin b
      · rfl
      · exact (h (Or.inr e)).elim
    have h3 : ¬ a = -9223372036854775808 := by intro e; rw [isMin_yes e] at h1; cases h1
    have h4 : ¬ b = -9223372036854775808 := by intro e; rw [isMin_yes e] at h2; cases h2
    by_cases hf : -9223372036854775808 < a + b ∧ a + b < 9223372036854775808
    · rw [addSpec_fits a b h1 h2 hf.1 hf.2]
      exact madd_fits a b w (by omega) (by omega) ha' hb' (by omega) (by omega)
    · rw [addSpec_over a b h1 h2 hf]
      exact madd_over a b w (by omega) (by omega) ha' hb' (by omega)
end Go.Proofs.Ytddpladmkmpoaaa
