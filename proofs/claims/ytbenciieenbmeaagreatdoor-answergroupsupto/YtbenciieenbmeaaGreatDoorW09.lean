import Derived.Test.YtbenciieenbmeaaGreatDoorW07
import Derived.Test.YtbenciieenbmeaaGreatDoorW08
/- money: checkBoth 150, Add 142, Sub 143, Mul 144 (size 152, signed 153, opposed 154, Mul64 151); day.Add 149. -/
namespace Go.Proofs.YtbenciieenbmeaaGreatDoor
open Go Go.Shelf Go.ChangeShapes Go.WideShapes Go.ChangeAt Go.RowKit Go.Maps
set_option linter.unusedVariables false
namespace Mny
theorem ret_ii {a b c d : Int} (h : a = c) (k : b = d) : Ending.returned (.tuple #[.int .i64 a, .int .i64 b]) = .returned (.tuple #[.int .i64 c, .int .i64 d]) := by rw [h, k]
def isMin (a : Int) : Bool := a == -9223372036854775808
def addSpec (a b : Int) : Int × Int := if isMin a || isMin b then (0, 10) else if -9223372036854775808 < a + b ∧ a + b < 9223372036854775808 then (a + b, 0) else (0, 11)
def subSpec (a b : Int) : Int × Int := if isMin a || isMin b then (0, 10) else addSpec a (-b)
def negSpec (a : Int) : Int × Int := if isMin a then (0, 10) else (-a, 0)
def mulSpec (a n : Int) : Int × Int := if isMin a || isMin n then (0, 10) else if -9223372036854775808 < a * n ∧ a * n < 9223372036854775808 then (a * n, 0) else (0, 11)
def chkSpec (a : Int) : Int := if isMin a then 10 else 0

theorem isMin_yes {a : Int} (h : a = -9223372036854775808) : isMin a = true := by simp [isMin, h]
theorem isMin_no {a : Int} (h : ¬ a = -9223372036854775808) : isMin a = false := by simp [isMin, h]
theorem addSpec_is (a b : Int) : addSpec a b = if isMin a || isMin b then (0, 10) else if -9223372036854775808 < a + b ∧ a + b < 9223372036854775808 then (a + b, 0) else (0, 11) := rfl
theorem addSpec_bad (a b : Int) (h : isMin a = true ∨ isMin b = true) : addSpec a b = (0, 10) := by
  rw [addSpec_is]
  rcases h with h | h <;> simp [h]
theorem addSpec_fits (a b : Int) (ha : isMin a = false) (hb : isMin b = false) (h1 : -9223372036854775808 < a + b) (h2 : a + b < 9223372036854775808) : addSpec a b = (a + b, 0) := by
  rw [addSpec_is]
  simp [ha, hb, h1, h2]
theorem addSpec_over (a b : Int) (ha : isMin a = false) (hb : isMin b = false) (h : ¬ (-9223372036854775808 < a + b ∧ a + b < 9223372036854775808)) : addSpec a b = (0, 11) := by
  rw [addSpec_is]
  simp [ha, hb, h]

/-- a product's size -/
theorem natAbs_mul (a n : Int) : (a * n).natAbs = a.natAbs * n.natAbs := Int.natAbs_mul a n
theorem mul_sign (a n : Int) : a * n = if (decide (a < 0) != decide (n < 0)) then -((a.natAbs * n.natAbs : Nat) : Int) else ((a.natAbs * n.natAbs : Nat) : Int) := by
  rw [Int.natCast_mul]
  by_cases ha : a < 0 <;> by_cases hn : n < 0
  · have e1 : ((a.natAbs : Nat) : Int) = -a := by omega
    have e2 : ((n.natAbs : Nat) : Int) = -n := by omega
    simp only [ha, hn, e1, e2, bne_self_eq_false, Bool.false_eq_true, if_false, Int.neg_mul_neg]
  · have e1 : ((a.natAbs : Nat) : Int) = -a := by omega
    have e2 : ((n.natAbs : Nat) : Int) = n := by omega
    simp [ha, hn, e1, e2, Int.neg_mul]
  · have e1 : ((a.natAbs : Nat) : Int) = a := by omega
    have e2 : ((n.natAbs : Nat) : Int) = -n := by omega
    simp [ha, hn, e1, e2, Int.mul_neg]
  · have e1 : ((a.natAbs : Nat) : Int) = a := by omega
    have e2 : ((n.natAbs : Nat) : Int) = n := by omega
    simp [ha, hn, e1, e2]
theorem mulSpec_bad (a n : Int) (h : isMin a = true ∨ isMin n = true) : mulSpec a n = (0, 10) := by
  unfold mulSpec
  rcases h with h | h <;> simp [h]
/-- by sizes and signs -/
theorem mulSpec_fits (a n : Int) (s : Bool) (ha : isMin a = false) (hn : isMin n = false) (h : a.natAbs * n.natAbs < 9223372036854775808) (hs : (decide (a < 0) != decide (n < 0)) = s) : mulSpec a n = (if s then -((a.natAbs * n.natAbs : Nat) : Int) else ((a.natAbs * n.natAbs : Nat) : Int), 0) := by
  unfold mulSpec
  have e := mul_sign a n
  rw [hs] at e
  rw [ha, hn, e]
  generalize a.natAbs * n.natAbs = M at *
  cases s
  · simp only [Bool.or_self, Bool.false_eq_true, if_false]
    rw [if_pos (by omega)]
  · simp only [Bool.or_self, Bool.false_eq_true, if_false, if_true]
    rw [if_pos (by omega)]
theorem mulSpec_over (a n : Int) (ha : isMin a = false) (hn : isMin n = false) (h : 9223372036854775808 ≤ a.natAbs * n.natAbs) : mulSpec a n = (0, 11) := by
  unfold mulSpec
  have e := mul_sign a n
  rw [ha, hn, e]
  generalize a.natAbs * n.natAbs = M at *
  cases (decide (a < 0) != decide (n < 0))
  · simp only [Bool.or_self, Bool.false_eq_true, if_false]
    rw [if_neg (by omega)]
  · simp only [Bool.or_self, Bool.false_eq_true, if_false, if_true]
    rw [if_neg (by omega)]
set_option maxHeartbeats 1000000 in
theorem chk_yes (a : Int) (w : World) (h : -9223372036854775807 ≤ a) : Calls Tryz.prog 130 #[.int .i64 a] w fun e w' => e = .returned (.int .i64 0) ∧ w' = w := by
  have hb : (a == -9223372036854775808) = false := by rw [beq_eq_false_iff_ne]; omega
  clear h
  go_enter Tryz.func130, Tryz.ntmps130
  go_wp2
  go_ret
  exact ⟨rfl, rfl⟩
set_option maxHeartbeats 1000000 in
theorem chk_no (w : World) : Calls Tryz.prog 130 #[.int .i64 (-9223372036854775808)] w fun e w' => e = .returned (.int .i64 10) ∧ w' = w := by
  go_enter Tryz.func130, Tryz.ntmps130
  go_wp2
  go_ret
  exact ⟨rfl, rfl⟩
theorem chk_any (a : Int) (w : World) (h : -9223372036854775808 ≤ a) : Calls Tryz.prog 130 #[.int .i64 a] w fun e w' => e = .returned (.int .i64 (chkSpec a)) ∧ w' = w := by
  by_cases h0 : a = -9223372036854775808
  · subst h0
    have : chkSpec (-9223372036854775808) = 10 := by simp [chkSpec, isMin]
    rw [this]
    exact chk_no w
  · have : chkSpec a = 0 := by simp [chkSpec, isMin_no h0]
    rw [this]
    exact chk_yes a w (by omega)
set_option maxHeartbeats 1000000 in
theorem both_yes (a b : Int) (w : World) (h : -9223372036854775807 ≤ a) (k : -9223372036854775807 ≤ b) : Calls Tryz.prog 150 #[.int .i64 a, .int .i64 b] w fun e w' => e = .returned (.int .i64 0) ∧ w' = w := by
  go_enter Tryz.func150, Tryz.ntmps150
  go_wp2_with (go_at_call 130; refine (chk_yes _ _ (by omega)).mono ?_; rintro e w' ⟨rfl, hw⟩; subst hw)
  go_ret
  exact ⟨rfl, rfl⟩
set_option maxHeartbeats 1000000 in
theorem both_no1 (b : Int) (w : World) : Calls Tryz.prog 150 #[.int .i64 (-9223372036854775808), .int .i64 b] w fun e w' => e = .returned (.int .i64 10) ∧ w' = w := by
  go_enter Tryz.func150, Tryz.ntmps150
  go_wp2_with (go_at_call 130; refine (chk_no _).mono ?_; rintro e w' ⟨rfl, hw⟩; subst hw)
  go_ret
  exact ⟨rfl, rfl⟩
set_option maxHeartbeats 1000000 in
theorem both_no2 (a : Int) (w : World) (h : -9223372036854775807 ≤ a) : Calls Tryz.prog 150 #[.int .i64 a, .int .i64 (-9223372036854775808)] w fun e w' => e = .returned (.int .i64 10) ∧ w' = w := by
  go_enter Tryz.func150, Tryz.ntmps150
  go_wp2_with fail
  refine (chk_yes _ _ (by omega)).mono ?_
  rintro e w' ⟨rfl, hw⟩
  subst hw
  go_wp2_with fail
  refine (chk_no _).mono ?_
  rintro e w' ⟨rfl, hw⟩
  subst hw
  go_wp2
  go_ret
  exact ⟨rfl, rfl⟩
/-- which of two is no amount -/
theorem both_bad (a b : Int) (w : World) (ha : -9223372036854775808 ≤ a) (hb : -9223372036854775808 ≤ b) (h : isMin a = true ∨ isMin b = true) : Calls Tryz.prog 150 #[.int .i64 a, .int .i64 b] w fun e w' => e = .returned (.int .i64 10) ∧ w' = w := by
  by_cases h0 : a = -9223372036854775808
  · subst h0
    exact both_no1 b w
  · have h1 : b = -9223372036854775808 := by
      rcases h with h | h
      · rw [isMin_no h0] at h; cases h
      · simpa [isMin] using h
    subst h1
    exact both_no2 a w (by omega)

set_option maxHeartbeats 1000000 in
theorem madd_bad (a b : Int) (w : World) (ha : -9223372036854775808 ≤ a) (hb : -9223372036854775808 ≤ b) (h : isMin a = true ∨ isMin b = true) :
    Calls Tryz.prog 142 #[.int .i64 a, .int .i64 b] w fun e w' => e = .returned (.tuple #[.int .i64 0, .int .i64 10]) ∧ w' = w := by
  have H := hide h
  clear h
  go_enter Tryz.func142, Tryz.ntmps142
  go_wp2_with (go_at_call 150; refine (both_bad _ _ _ (by omega) (by omega) (unhide H)).mono ?_; rintro e w' ⟨rfl, hw⟩; subst hw)
  go_ret2
  exact ⟨rfl, rfl⟩
set_option maxHeartbeats 1000000 in
theorem madd_fits (a b : Int) (w : World) (ha : -9223372036854775807 ≤ a) (hb : -9223372036854775807 ≤ b) (ha' : a ≤ 9223372036854775807) (hb' : b ≤ 9223372036854775807) (h1 : -9223372036854775807 ≤ a + b) (h2 : a + b ≤ 9223372036854775807) :
    Calls Tryz.prog 142 #[.int .i64 a, .int .i64 b] w fun e w' => e = .returned (.tuple #[.int .i64 (a + b), .int .i64 0]) ∧ w' = w := by
  rcases Int.lt_trichotomy b 0 with hb0 | hb0 | hb0
  · go_enter Tryz.func142, Tryz.ntmps142
    go_wp2_with (go_at_call 150; refine (both_yes _ _ _ (by omega) (by omega)).mono ?_; rintro e w' ⟨rfl, hw⟩; subst hw)
    go_ret2
    exact ⟨rfl, rfl⟩
  · subst hb0
    go_enter Tryz.func142, Tryz.ntmps142
    go_wp2_with (go_at_call 150; refine (both_yes _ _ _ (by omega) (by omega)).mono ?_; rintro e w' ⟨rfl, hw⟩; subst hw)
    go_ret2
    exact ⟨ret_ii (by simp) rfl, rfl⟩
  · go_enter Tryz.func142, Tryz.ntmps142
    go_wp2_with (go_at_call 150; refine (both_yes _ _ _ (by omega) (by omega)).mono ?_; rintro e w' ⟨rfl, hw⟩; subst hw)
    go_ret2
    exact ⟨rfl, rfl⟩
set_option maxHeartbeats 1000000 in
theorem madd_over (a b : Int) (w : World) (ha : -9223372036854775807 ≤ a) (hb : -9223372036854775807 ≤ b) (ha' : a ≤ 9223372036854775807) (hb' : b ≤ 9223372036854775807) (h : a + b < -9223372036854775807 ∨ 9223372036854775807 < a + b) :
    Calls Tryz.prog 142 #[.int .i64 a, .int .i64 b] w fun e w' => e = .returned (.tuple #[.int .i64 0, .int .i64 11]) ∧ w' = w := by
  rcases h with h | h
  · go_enter Tryz.func142, Tryz.ntmps142
    go_wp2_with (go_at_call 150; refine (both_yes _ _ _ (by omega) (by omega)).mono ?_; rintro e w' ⟨rfl, hw⟩; subst hw)
    go_ret2
    exact ⟨rfl, rfl⟩
  · go_enter Tryz.func142, Tryz.ntmps142
    go_wp2_with (go_at_call 150; refine (both_yes _ _ _ (by omega) (by omega)).mono ?_; rintro e w' ⟨rfl, hw⟩; subst hw)
    go_ret2
    exact ⟨rfl, rfl⟩
theorem madd_any (a b : Int) (w : World) (ha : -9223372036854775808 ≤ a) (hb : -9223372036854775808 ≤ b) (ha' : a ≤ 9223372036854775807) (hb' : b ≤ 9223372036854775807) :
    Calls Tryz.prog 142 #[.int .i64 a, .int .i64 b] w fun e w' => e = .returned (.tuple #[.int .i64 (addSpec a b).1, .int .i64 (addSpec a b).2]) ∧ w' = w := by
  by_cases h : isMin a = true ∨ isMin b = true
  · rw [addSpec_bad a b h]
    exact madd_bad a b w ha hb h
  · have h1 : isMin a = false := by
      cases e : isMin a
      · rfl
      · exact (h (Or.inl e)).elim
    have h2 : isMin b = false := by
      cases e : isMin b
      · rfl
      · exact (h (Or.inr e)).elim
    have h3 : ¬ a = -9223372036854775808 := by intro e; rw [isMin_yes e] at h1; cases h1
    have h4 : ¬ b = -9223372036854775808 := by intro e; rw [isMin_yes e] at h2; cases h2
    by_cases hf : -9223372036854775808 < a + b ∧ a + b < 9223372036854775808
    · rw [addSpec_fits a b h1 h2 hf.1 hf.2]
      exact madd_fits a b w (by omega) (by omega) ha' hb' (by omega) (by omega)
    · rw [addSpec_over a b h1 h2 hf]
      exact madd_over a b w (by omega) (by omega) ha' hb' (by omega)
def opp (a b : Int) : Bool := decide (a < 0) != decide (b < 0)
theorem ret_b {a b : Bool} (h : a = b) : Ending.returned (.bool a) = .returned (.bool b) := by rw [h]
theorem ret_u {a b : Int} (h : a = b) : Ending.returned (.int .u64 a) = .returned (.int .u64 b) := by rw [h]

set_option maxHeartbeats 1000000 in
theorem opp_any (a b : Int) (w : World) : Calls Tryz.prog 154 #[.int .i64 a, .int .i64 b] w fun e w' => e = .returned (.bool (opp a b)) ∧ w' = w := by
  by_cases ha : a < 0 <;> by_cases hb : b < 0
  all_goals
    go_enter Tryz.func154, Tryz.ntmps154
    go_wp2
    go_ret
    exact ⟨ret_b (by simp [opp]; omega), rfl⟩
set_option maxHeartbeats 1000000 in
theorem size_any (a : Int) (w : World) (h : -9223372036854775807 ≤ a) (h' : a ≤ 9223372036854775807) : Calls Tryz.prog 152 #[.int .i64 a] w fun e w' => e = .returned (.int .u64 (a.natAbs : Int)) ∧ w' = w := by
  by_cases ha : a < 0
  · go_enter Tryz.func152, Tryz.ntmps152
    go_wp2
    go_ret
    exact ⟨ret_u (by omega), rfl⟩
  · go_enter Tryz.func152, Tryz.ntmps152
    go_wp2
    go_ret
    exact ⟨ret_u (by omega), rfl⟩
set_option maxHeartbeats 1000000 in
theorem signed_pos (n : Nat) (w : World) (h : n ≤ 9223372036854775807) : Calls Tryz.prog 153 #[.int .u64 n, .bool false] w fun e w' => e = .returned (.tuple #[.int .i64 n, .int .i64 0]) ∧ w' = w := by
  have hi : (n : Int) ≤ 9223372036854775807 := by omega
  go_enter Tryz.func153, Tryz.ntmps153
  go_wp2
  go_ret2
  exact ⟨rfl, rfl⟩
set_option maxHeartbeats 1000000 in
theorem signed_neg (n : Nat) (w : World) (h : n ≤ 9223372036854775807) : Calls Tryz.prog 153 #[.int .u64 n, .bool true] w fun e w' => e = .returned (.tuple #[.int .i64 (-(n : Int)), .int .i64 0]) ∧ w' = w := by
  have hi : (n : Int) ≤ 9223372036854775807 := by omega
  go_enter Tryz.func153, Tryz.ntmps153
  go_wp2
  go_ret2
  exact ⟨rfl, rfl⟩
theorem signed_fits (n : Nat) (s : Bool) (w : World) (h : n ≤ 9223372036854775807) : Calls Tryz.prog 153 #[.int .u64 n, .bool s] w fun e w' => e = .returned (.tuple #[.int .i64 (if s then -(n : Int) else n), .int .i64 0]) ∧ w' = w := by
  cases s
  · exact signed_pos n w h
  · exact signed_neg n w h
set_option maxHeartbeats 1000000 in
theorem signed_over (n : Nat) (s : Bool) (w : World) (h : 9223372036854775808 ≤ n) : Calls Tryz.prog 153 #[.int .u64 n, .bool s] w fun e w' => e = .returned (.tuple #[.int .i64 0, .int .i64 11]) ∧ w' = w := by
  have hi : (9223372036854775807 : Int) < (n : Int) := by omega
  clear h
  go_enter Tryz.func153, Tryz.ntmps153
  go_wp2
  go_ret2
  exact ⟨rfl, rfl⟩

theorem mul64_any (x y hi lo : Nat) (hx : x < 18446744073709551616) (hy : y < 18446744073709551616) (h1 : x * y / 18446744073709551616 = hi) (h2 : x * y % 18446744073709551616 = lo) (w : World) :
    Calls Tryz.prog 151 #[.int .u64 x, .int .u64 y] w fun e w' => e = .returned (.tuple #[.int .u64 hi, .int .u64 lo]) ∧ w' = w := by
  rw [← h1, ← h2]
  exact Tryz.bits_Mul64 x y hx hy w

set_option maxHeartbeats 1000000 in
theorem msub_bad (a b : Int) (w : World) (ha : -9223372036854775808 ≤ a) (hb : -9223372036854775808 ≤ b) (h : isMin a = true ∨ isMin b = true) :
    Calls Tryz.prog 143 #[.int .i64 a, .int .i64 b] w fun e w' => e = .returned (.tuple #[.int .i64 0, .int .i64 10]) ∧ w' = w := by
  have H := hide h
  clear h
  go_enter Tryz.func143, Tryz.ntmps143
  go_wp2_with (go_at_call 150; refine (both_bad _ _ _ (by omega) (by omega) (unhide H)).mono ?_; rintro e w' ⟨rfl, hw⟩; subst hw)
  go_ret2
  exact ⟨rfl, rfl⟩
set_option maxHeartbeats 1000000 in
theorem msub_ok (a b : Int) (w : World) (ha : -9223372036854775807 ≤ a) (hb : -9223372036854775807 ≤ b) (ha' : a ≤ 9223372036854775807) (hb' : b ≤ 9223372036854775807) :
    Calls Tryz.prog 143 #[.int .i64 a, .int .i64 b] w fun e w' => e = .returned (.tuple #[.int .i64 (addSpec a (-b)).1, .int .i64 (addSpec a (-b)).2]) ∧ w' = w := by
  go_enter Tryz.func143, Tryz.ntmps143
  go_wp2_with (first | (go_at_call 150; refine (both_yes _ _ _ (by omega) (by omega)).mono ?_; rintro e w' ⟨rfl, hw⟩; subst hw) | (go_at_call 142; refine (madd_any a (-b) _ (by omega) (by omega) (by omega) (by omega)).mono ?_; rintro e w' ⟨rfl, hw⟩; subst hw))
  go_ret2
  exact ⟨rfl, rfl⟩
theorem noMin {a : Int} (h : isMin a = false) : ¬ a = -9223372036854775808 := by intro e; rw [isMin_yes e] at h; cases h
theorem minCases (a b : Int) : (isMin a = true ∨ isMin b = true) ∨ (isMin a = false ∧ isMin b = false) := by
  cases isMin a <;> cases isMin b <;> simp
theorem msub_any (a b : Int) (w : World) (ha : -9223372036854775808 ≤ a) (hb : -9223372036854775808 ≤ b) (ha' : a ≤ 9223372036854775807) (hb' : b ≤ 9223372036854775807) :
    Calls Tryz.prog 143 #[.int .i64 a, .int .i64 b] w fun e w' => e = .returned (.tuple #[.int .i64 (subSpec a b).1, .int .i64 (subSpec a b).2]) ∧ w' = w := by
  rcases minCases a b with h | ⟨h1, h2⟩
  · have : subSpec a b = (0, 10) := by unfold subSpec; rcases h with h | h <;> simp [h]
    rw [this]
    exact msub_bad a b w ha hb h
  · have : subSpec a b = addSpec a (-b) := by simp [subSpec, h1, h2]
    rw [this]
    have := noMin h1
    have := noMin h2
    exact msub_ok a b w (by omega) (by omega) ha' hb'

set_option maxHeartbeats 1000000 in
theorem mmul_bad (a b : Int) (w : World) (ha : -9223372036854775808 ≤ a) (hb : -9223372036854775808 ≤ b) (h : isMin a = true ∨ isMin b = true) :
    Calls Tryz.prog 144 #[.int .i64 a, .int .i64 b] w fun e w' => e = .returned (.tuple #[.int .i64 0, .int .i64 10]) ∧ w' = w := by
  have H := hide h
  clear h
  go_enter Tryz.func144, Tryz.ntmps144
  go_wp2_with (go_at_call 150; refine (both_bad _ _ _ (by omega) (by omega) (unhide H)).mono ?_; rintro e w' ⟨rfl, hw⟩; subst hw)
  go_ret2
  exact ⟨rfl, rfl⟩
set_option maxHeartbeats 1000000 in
/-- the upper word is not 0 -/
theorem mmul_high (a b : Int) (hi lo : Nat) (w : World) (ha : -9223372036854775807 ≤ a) (hb : -9223372036854775807 ≤ b) (ha' : a ≤ 9223372036854775807) (hb' : b ≤ 9223372036854775807) (h1 : Hid (a.natAbs * b.natAbs / 18446744073709551616 = hi)) (h2 : Hid (a.natAbs * b.natAbs % 18446744073709551616 = lo)) (h3 : ((hi : Int) != 0) = true) :
    Calls Tryz.prog 144 #[.int .i64 a, .int .i64 b] w fun e w' => e = .returned (.tuple #[.int .i64 0, .int .i64 11]) ∧ w' = w := by
  have xa : a.natAbs < 18446744073709551616 := by omega
  have xb : b.natAbs < 18446744073709551616 := by omega
  have XA := hide xa
  have XB := hide xb
  clear xa xb
  go_enter Tryz.func144, Tryz.ntmps144
  go_wp2_with (first | (go_at_call 150; refine (both_yes _ _ _ (by omega) (by omega)).mono ?_; rintro e w' ⟨rfl, hw⟩; subst hw) | (go_at_call 152; refine (size_any _ _ (by omega) (by omega)).mono ?_; rintro e w' ⟨rfl, hw⟩; subst hw) | (go_at_call 151; refine (mul64_any a.natAbs b.natAbs hi lo (unhide XA) (unhide XB) (unhide h1) (unhide h2) _).mono ?_; rintro e w' ⟨rfl, hw⟩; subst hw))
  go_ret2
  exact ⟨rfl, rfl⟩
set_option maxHeartbeats 1000000 in
/-- .. it is -/
theorem mmul_low (a b : Int) (lo : Nat) (r s : Int) (w : World) (ha : -9223372036854775807 ≤ a) (hb : -9223372036854775807 ≤ b) (ha' : a ≤ 9223372036854775807) (hb' : b ≤ 9223372036854775807) (h1 : Hid (a.natAbs * b.natAbs / 18446744073709551616 = 0)) (h2 : Hid (a.natAbs * b.natAbs % 18446744073709551616 = lo))
    (hs : Hid (∀ w, Calls Tryz.prog 153 #[.int .u64 lo, .bool (opp a b)] w fun e w' => e = .returned (.tuple #[.int .i64 r, .int .i64 s]) ∧ w' = w)) :
    Calls Tryz.prog 144 #[.int .i64 a, .int .i64 b] w fun e w' => e = .returned (.tuple #[.int .i64 r, .int .i64 s]) ∧ w' = w := by
  have xa : a.natAbs < 18446744073709551616 := by omega
  have xb : b.natAbs < 18446744073709551616 := by omega
  have XA := hide xa
  have XB := hide xb
  clear xa xb
  go_enter Tryz.func144, Tryz.ntmps144
  go_wp2_with (first | (go_at_call 150; refine (both_yes _ _ _ (by omega) (by omega)).mono ?_; rintro e w' ⟨rfl, hw⟩; subst hw) | (go_at_call 152; refine (size_any _ _ (by omega) (by omega)).mono ?_; rintro e w' ⟨rfl, hw⟩; subst hw) | (go_at_call 151; refine (mul64_any a.natAbs b.natAbs 0 lo (unhide XA) (unhide XB) (unhide h1) (unhide h2) _).mono ?_; rintro e w' ⟨rfl, hw⟩; subst hw) | (go_at_call 154; refine (opp_any _ _ _).mono ?_; rintro e w' ⟨rfl, hw⟩; subst hw) | (go_at_call 153; refine ((unhide hs) _).mono ?_; rintro e w' ⟨rfl, hw⟩; subst hw))
  go_ret2
  exact ⟨rfl, rfl⟩
theorem mmul_any (a b : Int) (w : World) (ha : -9223372036854775808 ≤ a) (hb : -9223372036854775808 ≤ b) (ha' : a ≤ 9223372036854775807) (hb' : b ≤ 9223372036854775807) :
    Calls Tryz.prog 144 #[.int .i64 a, .int .i64 b] w fun e w' => e = .returned (.tuple #[.int .i64 (mulSpec a b).1, .int .i64 (mulSpec a b).2]) ∧ w' = w := by
  rcases minCases a b with h | ⟨m1, m2⟩
  · rw [mulSpec_bad a b h]
    exact mmul_bad a b w ha hb h
  · have n1 := noMin m1
    have n2 := noMin m2
    have key : ∀ M : Nat, a.natAbs * b.natAbs = M → Calls Tryz.prog 144 #[.int .i64 a, .int .i64 b] w fun e w' => e = .returned (.tuple #[.int .i64 (mulSpec a b).1, .int .i64 (mulSpec a b).2]) ∧ w' = w := by
      intro M hM
      by_cases hh : M / 18446744073709551616 = 0
      · have hlow : M % 18446744073709551616 = M := by omega
        refine mmul_low a b M _ _ w (by omega) (by omega) ha' hb' (by rw [hM]; exact hh) (by rw [hM]; exact hlow) ?_
        intro w2
        by_cases hf : M < 9223372036854775808
        · rw [mulSpec_fits a b (opp a b) m1 m2 (by rw [hM]; exact hf) rfl, hM]
          exact signed_fits M _ w2 (by omega)
        · rw [mulSpec_over a b m1 m2 (by rw [hM]; omega)]
          exact signed_over M _ w2 (by omega)
      · rw [mulSpec_over a b m1 m2 (by rw [hM]; omega)]
        exact mmul_high a b _ _ w (by omega) (by omega) ha' hb' rfl rfl (by rw [bne_iff_ne]; rw [hM]; omega)
    exact key _ rfl
end Mny
set_option maxHeartbeats 1000000 in
theorem dadd_ok (n b : Int) (w : World) (h1 : 1 ≤ n) (h2 : n ≤ 3652059) (h3 : 1 ≤ n + b) (h4 : n + b ≤ 3652059) :
    Calls Tryz.prog 149 #[.int .i64 n, .int .i64 b] w fun e w' => e = .returned (.tuple #[.int .i64 (n + b), .int .i64 0]) ∧ w' = w := by
  go_enter Tryz.func149, Tryz.ntmps149
  go_wp2_with (first | (go_at_call 132; refine (isday_yes _ _ (by omega) (by omega)).mono ?_; rintro e w' ⟨rfl, hw⟩; subst hw))
  go_ret2
  exact ⟨rfl, rfl⟩
set_option maxHeartbeats 1000000 in
theorem dadd_no (n b : Int) (w : World) (h : n < 1 ∨ 3652059 < n) :
    Calls Tryz.prog 149 #[.int .i64 n, .int .i64 b] w fun e w' => e = .returned (.tuple #[.int .i64 0, .int .i64 20]) ∧ w' = w := by
  have H := hide h
  clear h
  go_enter Tryz.func149, Tryz.ntmps149
  go_wp2_with (first | (go_at_call 132; refine (isday_no _ _ (unhide H)).mono ?_; rintro e w' ⟨rfl, hw⟩; subst hw))
  go_ret2
  exact ⟨rfl, rfl⟩
set_option maxHeartbeats 1000000 in
theorem dadd_out (n b : Int) (w : World) (h1 : 1 ≤ n) (h2 : n ≤ 3652059) (h : b < 1 - n ∨ ¬ b < 1 - n ∧ 3652059 - n < b) :
    Calls Tryz.prog 149 #[.int .i64 n, .int .i64 b] w fun e w' => e = .returned (.tuple #[.int .i64 0, .int .i64 20]) ∧ w' = w := by
  rcases h with h | ⟨h, h'⟩
  all_goals
    go_enter Tryz.func149, Tryz.ntmps149
    go_wp2_with (first | (go_at_call 132; refine (isday_yes _ _ (by omega) (by omega)).mono ?_; rintro e w' ⟨rfl, hw⟩; subst hw))
    go_ret2
    exact ⟨rfl, rfl⟩

/-- a day so many days on: 0 and 20 where it is none -/
def dadS (n b : Int) : Int × Int := if (1 ≤ n ∧ n ≤ 3652059) ∧ 1 ≤ n + b ∧ n + b ≤ 3652059 then (n + b, 0) else (0, 20)
theorem dadd_any (n b : Int) (w : World) : Calls Tryz.prog 149 #[.int .i64 n, .int .i64 b] w fun e w' => e = .returned (.tuple #[.int .i64 (dadS n b).1, .int .i64 (dadS n b).2]) ∧ w' = w := by
  by_cases h : 1 ≤ n ∧ n ≤ 3652059
  · by_cases h2 : 1 ≤ n + b ∧ n + b ≤ 3652059
    · rw [show dadS n b = (n + b, 0) from if_pos ⟨h, h2⟩]
      exact dadd_ok n b w h.1 h.2 h2.1 h2.2
    · rw [show dadS n b = (0, 20) from if_neg (fun k => h2 k.2)]
      exact dadd_out n b w h.1 h.2 (by omega)
  · rw [show dadS n b = (0, 20) from if_neg (fun k => h k.1)]
    exact dadd_no n b w (by omega)
end Go.Proofs.YtbenciieenbmeaaGreatDoor
/- answer: amountAt 126. -/
namespace Go.Proofs.YtbenciieenbmeaaGreatDoor
open Go Go.Shelf Go.ChangeShapes Go.WideShapes Go.ChangeAt Go.RowKit Go.Maps
set_option linter.unusedVariables false
theorem Below.a6 (w : World) (o o2 o3 o4 o5 o6 : Obj) : Below w.heap.size w ((((((w.alloc o).alloc o2).alloc o3).alloc o4).alloc o5).alloc o6) := (Below.a5 w o o2 o3 o4 o5).alloc (by simp; omega) o6
theorem Below.a7 (w : World) (o o2 o3 o4 o5 o6 o7 : Obj) : Below w.heap.size w (((((((w.alloc o).alloc o2).alloc o3).alloc o4).alloc o5).alloc o6).alloc o7) := (Below.a6 w o o2 o3 o4 o5 o6).alloc (by simp; omega) o7
/-- what the amount and its two sides are worth -/
def amtC (f n : Int) : Cl := fit (amt n) ⟨5, if f = 8 then max n 0 else if f = 9 then max (wrap64 (-n)) 0 else n, ⟨#[]⟩⟩
section
attribute [local go_sem ↓] stC_is
theorem amt8 (n : Int) (w : World) : Calls Tryz.prog 126 #[.int .i64 8, .int .i64 n] w fun e w' => e = .returned (fit (amt n) ⟨5, max n 0, ⟨#[]⟩⟩).val ∧ Below w.heap.size w w' := by
  have d0 := hide (mcheck_any n)
  have d := hide fitting_any
  obtain ⟨a, ha⟩ : ∃ a, a = errA n := ⟨_, rfl⟩
  rw [← ha] at d0
  have HA := hide ha
  clear ha
  go_enter Tryz.func126, Tryz.ntmps126
  go_wp2_with (first | (go_at_call 130; refine (unhide d0 _).mono ?_; rintro e w' ⟨rfl, hw⟩; subst hw))
  refine (unhide d _ _ _ _ _).mono ?_
  rintro e w1 ⟨rfl, hb⟩
  obtain ⟨Y, hp, y0, y1, y2, hk⟩ := put45 (n := w.heap.size) ((hb.block _ (by simp <;> omega)).trans (by first | exact heap_new _ _ | (rw [Below.heap_alloc _ _ _ (by simp <;> omega)]; exact heap_new _ _) | (rw [Below.heap_alloc _ _ _ (by simp <;> omega), Below.heap_alloc _ _ _ (by simp <;> omega)]; exact heap_new _ _) | (repeat rw [Below.heap_alloc _ _ _ (by simp <;> omega)]) <;> exact heap_new _ _)) (fit (a == 0) ⟨5, max n 0, ⟨#[]⟩⟩)
  have HK := hide (hk w.heap.size w (by simp <;> omega) ((show Below w.heap.size w _ from (by first | exact Below.a1 _ _ | exact Below.a2 _ _ _ | exact Below.a3 _ _ _ _ | exact Below.a4 _ _ _ _ _ | exact Below.a5 _ _ _ _ _ _ | exact Below.a6 _ _ _ _ _ _ _ | exact Below.a7 _ _ _ _ _ _ _ _)).trans (hb.mono (by simp <;> omega))))
  obtain ⟨c, hc⟩ : ∃ c : Cl, c = fit (a == 0) ⟨5, max n 0, ⟨#[]⟩⟩ := ⟨_, rfl⟩
  rw [← hc] at hp y0 y1 y2
  have HV := hide (congrArg (fun c : Cl => Ending.returned c.val) hc)
  rw [← hc]
  clear hb hk hc
  go_wp2_with fail
  exact bodyPost_ret (v := cV c.ty c.num c.tx) (by simp [results, Tryz.results126, go_sem, y0, y1, y2]) rfl ⟨(unhide HV).trans (by rw [unhide HA, errA_eq]), unhide HK⟩
theorem amt9 (n : Int) (w : World) : Calls Tryz.prog 126 #[.int .i64 9, .int .i64 n] w fun e w' => e = .returned (fit (amt n) ⟨5, max (wrap64 (-n)) 0, ⟨#[]⟩⟩).val ∧ Below w.heap.size w w' := by
  have d0 := hide (mcheck_any n)
  have d := hide fitting_any
  obtain ⟨a, ha⟩ : ∃ a, a = errA n := ⟨_, rfl⟩
  rw [← ha] at d0
  have HA := hide ha
  clear ha
  go_enter Tryz.func126, Tryz.ntmps126
  go_wp2_with (first | (go_at_call 130; refine (unhide d0 _).mono ?_; rintro e w' ⟨rfl, hw⟩; subst hw))
  refine (unhide d _ _ _ _ _).mono ?_
  rintro e w1 ⟨rfl, hb⟩
  obtain ⟨Y, hp, y0, y1, y2, hk⟩ := put45 (n := w.heap.size) ((hb.block _ (by simp <;> omega)).trans (by first | exact heap_new _ _ | (rw [Below.heap_alloc _ _ _ (by simp <;> omega)]; exact heap_new _ _) | (rw [Below.heap_alloc _ _ _ (by simp <;> omega), Below.heap_alloc _ _ _ (by simp <;> omega)]; exact heap_new _ _) | (repeat rw [Below.heap_alloc _ _ _ (by simp <;> omega)]) <;> exact heap_new _ _)) (fit (a == 0) ⟨5, max (wrap64 (-n)) 0, ⟨#[]⟩⟩)
  have HK := hide (hk w.heap.size w (by simp <;> omega) ((show Below w.heap.size w _ from (by first | exact Below.a1 _ _ | exact Below.a2 _ _ _ | exact Below.a3 _ _ _ _ | exact Below.a4 _ _ _ _ _ | exact Below.a5 _ _ _ _ _ _ | exact Below.a6 _ _ _ _ _ _ _ | exact Below.a7 _ _ _ _ _ _ _ _)).trans (hb.mono (by simp <;> omega))))
  obtain ⟨c, hc⟩ : ∃ c : Cl, c = fit (a == 0) ⟨5, max (wrap64 (-n)) 0, ⟨#[]⟩⟩ := ⟨_, rfl⟩
  rw [← hc] at hp y0 y1 y2
  have HV := hide (congrArg (fun c : Cl => Ending.returned c.val) hc)
  rw [← hc]
  clear hb hk hc
  go_wp2_with fail
  exact bodyPost_ret (v := cV c.ty c.num c.tx) (by simp [results, Tryz.results126, go_sem, y0, y1, y2]) rfl ⟨(unhide HV).trans (by rw [unhide HA, errA_eq]), unhide HK⟩
theorem amtN (f n : Int) (h8 : ¬ f = 8) (h9 : ¬ f = 9) (w : World) : Calls Tryz.prog 126 #[.int .i64 f, .int .i64 n] w fun e w' => e = .returned (fit (amt n) ⟨5, n, ⟨#[]⟩⟩).val ∧ Below w.heap.size w w' := by
  have e8 := beqF h8
  have e9 := beqF h9
  clear h8 h9
  have d0 := hide (mcheck_any n)
  have d := hide fitting_any
  obtain ⟨a, ha⟩ : ∃ a, a = errA n := ⟨_, rfl⟩
  rw [← ha] at d0
  have HA := hide ha
  clear ha
  go_enter Tryz.func126, Tryz.ntmps126
  go_wp2_with (first | (go_at_call 130; refine (unhide d0 _).mono ?_; rintro e w' ⟨rfl, hw⟩; subst hw))
  refine (unhide d _ _ _ _ _).mono ?_
  rintro e w1 ⟨rfl, hb⟩
  obtain ⟨Y, hp, y0, y1, y2, hk⟩ := put45 (n := w.heap.size) ((hb.block _ (by simp <;> omega)).trans (by first | exact heap_new _ _ | (rw [Below.heap_alloc _ _ _ (by simp <;> omega)]; exact heap_new _ _) | (rw [Below.heap_alloc _ _ _ (by simp <;> omega), Below.heap_alloc _ _ _ (by simp <;> omega)]; exact heap_new _ _) | (repeat rw [Below.heap_alloc _ _ _ (by simp <;> omega)]) <;> exact heap_new _ _)) (fit (a == 0) ⟨5, n, ⟨#[]⟩⟩)
  have HK := hide (hk w.heap.size w (by simp <;> omega) ((show Below w.heap.size w _ from (by first | exact Below.a1 _ _ | exact Below.a2 _ _ _ | exact Below.a3 _ _ _ _ | exact Below.a4 _ _ _ _ _ | exact Below.a5 _ _ _ _ _ _ | exact Below.a6 _ _ _ _ _ _ _ | exact Below.a7 _ _ _ _ _ _ _ _)).trans (hb.mono (by simp <;> omega))))
  obtain ⟨c, hc⟩ : ∃ c : Cl, c = fit (a == 0) ⟨5, n, ⟨#[]⟩⟩ := ⟨_, rfl⟩
  rw [← hc] at hp y0 y1 y2
  have HV := hide (congrArg (fun c : Cl => Ending.returned c.val) hc)
  rw [← hc]
  clear hb hk hc
  go_wp2_with fail
  exact bodyPost_ret (v := cV c.ty c.num c.tx) (by simp [results, Tryz.results126, go_sem, y0, y1, y2]) rfl ⟨(unhide HV).trans (by rw [unhide HA, errA_eq]), unhide HK⟩
end
theorem amountAt_any (f n : Int) (w : World) : Calls Tryz.prog 126 #[.int .i64 f, .int .i64 n] w fun e w' => e = .returned (amtC f n).val ∧ Below w.heap.size w w' := by
  unfold amtC
  by_cases h8 : f = 8
  · subst h8; exact amt8 n w
  by_cases h9 : f = 9
  · subst h9; exact amt9 n w
  rw [if_neg h8, if_neg h9]
  exact amtN f n h8 h9 w
end Go.Proofs.YtbenciieenbmeaaGreatDoor
/- answer: dayAt 127. -/
namespace Go.Proofs.YtbenciieenbmeaaGreatDoor
open Go Go.Shelf Go.ChangeShapes Go.WideShapes Go.ChangeAt Go.RowKit Go.Maps
set_option linter.unusedVariables false
theorem Below.a8 (w : World) (o o2 o3 o4 o5 o6 o7 o8 : Obj) : Below w.heap.size w ((((((((w.alloc o).alloc o2).alloc o3).alloc o4).alloc o5).alloc o6).alloc o7).alloc o8) := (Below.a7 w o o2 o3 o4 o5 o6 o7).alloc (by simp; omega) o8
theorem fitting_t (t n : Int) (s : ByteArray) (w : World) : Calls Tryz.prog 109 #[.bool true, cV t n s] w fun e w' => e = .returned (cV t n s) ∧ w' = (w.alloc (cO t n s)).alloc (cO t n s) := by
  go_enter Tryz.func109, Tryz.ntmps109
  go_wp2_with fail
  exact bodyPost_ret (v := cV t n s) (by simp [results, Tryz.results109, go_sem]) rfl ⟨rfl, rfl⟩
theorem fitting_f (t n : Int) (s : ByteArray) (w : World) : Calls Tryz.prog 109 #[.bool false, cV t n s] w fun e w' => e = .returned (cV 0 0 ⟨#[]⟩) ∧ w' = (w.alloc (cO t n s)).alloc zc := by
  go_enter Tryz.func109, Tryz.ntmps109
  go_wp2_with fail
  exact bodyPost_ret (v := cV 0 0 ⟨#[]⟩) (by simp [results, Tryz.results109, go_sem]) rfl ⟨rfl, rfl⟩
set_option maxRecDepth 100000
set_option maxHeartbeats 2000000
theorem day3 (y m d k : Nat) (w : World) (hM : Mon w) (hd : Dat y m d k) : Calls Tryz.prog 127 #[.int .i64 3, .int .i64 k] w fun e w' => e = .returned (cV 3 k ⟨#[]⟩) ∧ Below w.heap.size w w' := by
  have D := hide (fun w hM => dto_ok y m d k w hM hd)
  have d := hide fitting_t
  have HM := hide (mon1 hM)
  have hy : (y : Int) ≤ 9999 := by have := hd.y2; omega
  have hy0 : (0 : Int) ≤ (y : Int) := by omega
  have hm : (m : Int) ≤ 12 := by have := hd.m2; omega
  have hm0 : (0 : Int) ≤ (m : Int) := by omega
  have HB : Hid (∀ o o2 o3 o4 o5 o6 o7 o8, Below w.heap.size w ((((((((w.alloc o).alloc o2).alloc o3).alloc o4).alloc o5).alloc o6).alloc o7).alloc o8)) := Below.a8 w
  clear hM hd
  go_enter Tryz.func127, Tryz.ntmps127
  go_wp2_with (first | (go_at_call 120; refine (unhide D _ (unhide HM _)).mono ?_; rintro e w' ⟨rfl, hw⟩; subst hw) | (go_at_call 109; refine (unhide d _ _ _ _).mono ?_; rintro e w' ⟨rfl, hw⟩; subst hw))
  exact bodyPost_ret (v := cV 3 k ⟨#[]⟩) (by simp [results, Tryz.results127, go_sem]) rfl ⟨rfl, unhide HB _ _ _ _ _ _ _ _⟩
theorem day12 (y m d k : Nat) (w : World) (hM : Mon w) (hd : Dat y m d k) : Calls Tryz.prog 127 #[.int .i64 12, .int .i64 k] w fun e w' => e = .returned (cV 1 (100 * (y : Int) + m) ⟨#[]⟩) ∧ Below w.heap.size w w' := by
  have D := hide (fun w hM => dto_ok y m d k w hM hd)
  have d := hide fitting_t
  have HM := hide (mon1 hM)
  have hy : (y : Int) ≤ 9999 := by have := hd.y2; omega
  have hy0 : (0 : Int) ≤ (y : Int) := by omega
  have hm : (m : Int) ≤ 12 := by have := hd.m2; omega
  have hm0 : (0 : Int) ≤ (m : Int) := by omega
  have HB : Hid (∀ o o2 o3 o4 o5 o6 o7 o8, Below w.heap.size w ((((((((w.alloc o).alloc o2).alloc o3).alloc o4).alloc o5).alloc o6).alloc o7).alloc o8)) := Below.a8 w
  clear hM hd
  go_enter Tryz.func127, Tryz.ntmps127
  go_wp2_with (first | (go_at_call 120; refine (unhide D _ (unhide HM _)).mono ?_; rintro e w' ⟨rfl, hw⟩; subst hw) | (go_at_call 109; refine (unhide d _ _ _ _).mono ?_; rintro e w' ⟨rfl, hw⟩; subst hw))
  exact bodyPost_ret (v := cV 1 (100 * (y : Int) + m) ⟨#[]⟩) (by simp [results, Tryz.results127, go_sem]) rfl ⟨rfl, unhide HB _ _ _ _ _ _ _ _⟩
theorem day13 (y m d k : Nat) (w : World) (hM : Mon w) (hd : Dat y m d k) : Calls Tryz.prog 127 #[.int .i64 13, .int .i64 k] w fun e w' => e = .returned (cV 1 y ⟨#[]⟩) ∧ Below w.heap.size w w' := by
  have D := hide (fun w hM => dto_ok y m d k w hM hd)
  have d := hide fitting_t
  have HM := hide (mon1 hM)
  have hy : (y : Int) ≤ 9999 := by have := hd.y2; omega
  have hy0 : (0 : Int) ≤ (y : Int) := by omega
  have hm : (m : Int) ≤ 12 := by have := hd.m2; omega
  have hm0 : (0 : Int) ≤ (m : Int) := by omega
  have HB : Hid (∀ o o2 o3 o4 o5 o6 o7 o8, Below w.heap.size w ((((((((w.alloc o).alloc o2).alloc o3).alloc o4).alloc o5).alloc o6).alloc o7).alloc o8)) := Below.a8 w
  clear hM hd
  go_enter Tryz.func127, Tryz.ntmps127
  go_wp2_with (first | (go_at_call 120; refine (unhide D _ (unhide HM _)).mono ?_; rintro e w' ⟨rfl, hw⟩; subst hw) | (go_at_call 109; refine (unhide d _ _ _ _).mono ?_; rintro e w' ⟨rfl, hw⟩; subst hw))
  exact bodyPost_ret (v := cV 1 y ⟨#[]⟩) (by simp [results, Tryz.results127, go_sem]) rfl ⟨rfl, unhide HB _ _ _ _ _ _ _ _⟩
theorem dayN (f : Int) (h3 : ¬ f = 3) (h12 : ¬ f = 12) (h13 : ¬ f = 13) (y m d k : Nat) (w : World) (hM : Mon w) (hd : Dat y m d k) : Calls Tryz.prog 127 #[.int .i64 f, .int .i64 k] w fun e w' => e = .returned (cV 1 0 ⟨#[]⟩) ∧ Below w.heap.size w w' := by
  have D := hide (fun w hM => dto_ok y m d k w hM hd)
  have d := hide fitting_t
  have HM := hide (mon1 hM)
  have hy : (y : Int) ≤ 9999 := by have := hd.y2; omega
  have hy0 : (0 : Int) ≤ (y : Int) := by omega
  have hm : (m : Int) ≤ 12 := by have := hd.m2; omega
  have hm0 : (0 : Int) ≤ (m : Int) := by omega
  have HB : Hid (∀ o o2 o3 o4 o5 o6 o7 o8, Below w.heap.size w ((((((((w.alloc o).alloc o2).alloc o3).alloc o4).alloc o5).alloc o6).alloc o7).alloc o8)) := Below.a8 w
  have e3 := beqF h3
  have e12 := beqF h12
  have e13 := beqF h13
  clear h3 h12 h13
  clear hM hd
  go_enter Tryz.func127, Tryz.ntmps127
  go_wp2_with (first | (go_at_call 120; refine (unhide D _ (unhide HM _)).mono ?_; rintro e w' ⟨rfl, hw⟩; subst hw) | (go_at_call 109; refine (unhide d _ _ _ _).mono ?_; rintro e w' ⟨rfl, hw⟩; subst hw))
  exact bodyPost_ret (v := cV 1 0 ⟨#[]⟩) (by simp [results, Tryz.results127, go_sem]) rfl ⟨rfl, unhide HB _ _ _ _ _ _ _ _⟩
theorem dayB3 (n : Int) (w : World) (h : n < 1 ∨ 3652059 < n) : Calls Tryz.prog 127 #[.int .i64 3, .int .i64 n] w fun e w' => e = .returned (cV 0 0 ⟨#[]⟩) ∧ Below w.heap.size w w' := by
  have D := hide (fun w => dto_bad n w h)
  have d := hide fitting_f
  have HB : Hid (∀ o o2 o3 o4 o5 o6, Below w.heap.size w ((((((w.alloc o).alloc o2).alloc o3).alloc o4).alloc o5).alloc o6)) := Below.a6 w
  clear h
  go_enter Tryz.func127, Tryz.ntmps127
  go_wp2_with (first | (go_at_call 120; refine (unhide D _).mono ?_; rintro e w' ⟨rfl, hw⟩; subst hw) | (go_at_call 109; refine (unhide d _ _ _ _).mono ?_; rintro e w' ⟨rfl, hw⟩; subst hw))
  exact bodyPost_ret (v := cV 0 0 ⟨#[]⟩) (by simp [results, Tryz.results127, go_sem]) rfl ⟨rfl, unhide HB _ _ _ _ _ _⟩
theorem dayB12 (n : Int) (w : World) (h : n < 1 ∨ 3652059 < n) : Calls Tryz.prog 127 #[.int .i64 12, .int .i64 n] w fun e w' => e = .returned (cV 0 0 ⟨#[]⟩) ∧ Below w.heap.size w w' := by
  have D := hide (fun w => dto_bad n w h)
  have d := hide fitting_f
  have HB : Hid (∀ o o2 o3 o4 o5 o6, Below w.heap.size w ((((((w.alloc o).alloc o2).alloc o3).alloc o4).alloc o5).alloc o6)) := Below.a6 w
  clear h
  go_enter Tryz.func127, Tryz.ntmps127
  go_wp2_with (first | (go_at_call 120; refine (unhide D _).mono ?_; rintro e w' ⟨rfl, hw⟩; subst hw) | (go_at_call 109; refine (unhide d _ _ _ _).mono ?_; rintro e w' ⟨rfl, hw⟩; subst hw))
  exact bodyPost_ret (v := cV 0 0 ⟨#[]⟩) (by simp [results, Tryz.results127, go_sem]) rfl ⟨rfl, unhide HB _ _ _ _ _ _⟩
theorem dayB13 (n : Int) (w : World) (h : n < 1 ∨ 3652059 < n) : Calls Tryz.prog 127 #[.int .i64 13, .int .i64 n] w fun e w' => e = .returned (cV 0 0 ⟨#[]⟩) ∧ Below w.heap.size w w' := by
  have D := hide (fun w => dto_bad n w h)
  have d := hide fitting_f
  have HB : Hid (∀ o o2 o3 o4 o5 o6, Below w.heap.size w ((((((w.alloc o).alloc o2).alloc o3).alloc o4).alloc o5).alloc o6)) := Below.a6 w
  clear h
  go_enter Tryz.func127, Tryz.ntmps127
  go_wp2_with (first | (go_at_call 120; refine (unhide D _).mono ?_; rintro e w' ⟨rfl, hw⟩; subst hw) | (go_at_call 109; refine (unhide d _ _ _ _).mono ?_; rintro e w' ⟨rfl, hw⟩; subst hw))
  exact bodyPost_ret (v := cV 0 0 ⟨#[]⟩) (by simp [results, Tryz.results127, go_sem]) rfl ⟨rfl, unhide HB _ _ _ _ _ _⟩
theorem dayBN (f : Int) (h3 : ¬ f = 3) (h12 : ¬ f = 12) (h13 : ¬ f = 13) (n : Int) (w : World) (h : n < 1 ∨ 3652059 < n) : Calls Tryz.prog 127 #[.int .i64 f, .int .i64 n] w fun e w' => e = .returned (cV 0 0 ⟨#[]⟩) ∧ Below w.heap.size w w' := by
  have D := hide (fun w => dto_bad n w h)
  have d := hide fitting_f
  have HB : Hid (∀ o o2 o3 o4 o5 o6, Below w.heap.size w ((((((w.alloc o).alloc o2).alloc o3).alloc o4).alloc o5).alloc o6)) := Below.a6 w
  have e3 := beqF h3
  have e12 := beqF h12
  have e13 := beqF h13
  clear h3 h12 h13
  clear h
  go_enter Tryz.func127, Tryz.ntmps127
  go_wp2_with (first | (go_at_call 120; refine (unhide D _).mono ?_; rintro e w' ⟨rfl, hw⟩; subst hw) | (go_at_call 109; refine (unhide d _ _ _ _).mono ?_; rintro e w' ⟨rfl, hw⟩; subst hw))
  exact bodyPost_ret (v := cV 0 0 ⟨#[]⟩) (by simp [results, Tryz.results127, go_sem]) rfl ⟨rfl, unhide HB _ _ _ _ _ _⟩

/-- a day's date -/
noncomputable def dat3 (n : Int) : Nat × Nat × Nat := open Classical in if h : ∃ x : Nat × Nat × Nat, Dat x.1 x.2.1 x.2.2 n.toNat then Classical.choose h else (0, 0, 0)
theorem dat3_is {n : Int} (h : 1 ≤ n) (h2 : n ≤ 3652059) : Dat (dat3 n).1 (dat3 n).2.1 (dat3 n).2.2 n.toNat := by
  obtain ⟨y, m, d, hd⟩ := dat_ex n.toNat (by omega) (by omega)
  have hx : ∃ x : Nat × Nat × Nat, Dat x.1 x.2.1 x.2.2 n.toNat := ⟨(y, m, d), hd⟩
  unfold dat3
  rw [dif_pos hx]
  exact Classical.choose_spec hx
theorem dat3_eq {n : Int} {y m d : Nat} (h : Dat y m d n.toNat) : dat3 n = (y, m, d) := by
  have hx : ∃ x : Nat × Nat × Nat, Dat x.1 x.2.1 x.2.2 n.toNat := ⟨(y, m, d), h⟩
  unfold dat3
  rw [dif_pos hx]
  have := (Classical.choose_spec hx).same h
  exact Prod.ext this.1 (Prod.ext this.2.1 this.2.2)
/-- what the day, its month and its year are worth -/
noncomputable def dayC (f n : Int) : Cl := fit (dayB n) (if f = 3 then ⟨3, n, ⟨#[]⟩⟩ else if f = 12 then ⟨1, 100 * ((dat3 n).1 : Int) + (dat3 n).2.1, ⟨#[]⟩⟩ else if f = 13 then ⟨1, (dat3 n).1, ⟨#[]⟩⟩ else ⟨1, 0, ⟨#[]⟩⟩)
theorem dayAt_any (f n : Int) (w : World) (hM : Mon w) : Calls Tryz.prog 127 #[.int .i64 f, .int .i64 n] w fun e w' => e = .returned (dayC f n).val ∧ Below w.heap.size w w' := by
  by_cases h : 1 ≤ n ∧ n ≤ 3652059
  · have e : dayB n = true := by unfold dayB; rw [Bool.and_eq_true, decide_eq_true_iff, decide_eq_true_iff]; exact h
    have hd := dat3_is h.1 h.2
    unfold dayC
    rw [e]
    obtain ⟨⟨y, m, d⟩, hq⟩ : ∃ q, q = dat3 n := ⟨_, rfl⟩
    rw [← hq] at hd ⊢
    obtain ⟨k, rfl⟩ : ∃ k : Nat, n = k := ⟨n.toNat, by omega⟩
    rw [Int.toNat_natCast] at hd
    by_cases h3 : f = 3
    · subst h3; exact day3 y m d k w hM hd
    by_cases h12 : f = 12
    · subst h12; exact day12 y m d k w hM hd
    by_cases h13 : f = 13
    · subst h13; exact day13 y m d k w hM hd
    rw [if_neg h3, if_neg h12, if_neg h13]
    exact dayN f h3 h12 h13 y m d k w hM hd
  · have e : dayB n = false := by unfold dayB; rw [Bool.and_eq_false_iff, decide_eq_false_iff_not, decide_eq_false_iff_not]; omega
    have hb : n < 1 ∨ 3652059 < n := by omega
    unfold dayC
    rw [e]
    by_cases h3 : f = 3
    · subst h3; exact dayB3 n w hb
    by_cases h12 : f = 12
    · subst h12; exact dayB12 n w hb
    by_cases h13 : f = 13
    · subst h13; exact dayB13 n w hb
    exact dayBN f h3 h12 h13 n w hb
end Go.Proofs.YtbenciieenbmeaaGreatDoor
