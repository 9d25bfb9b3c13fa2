import Derived.Test.YtddpladmkmpoaaaOnesA
namespace Go.Proofs.Ytddpladmkmpoaaa
open Go.ChangeShapes Go.WideShapes Go.ChangeAt Go.RowKit
set_option linter.unusedVariables false

def opp (a b : Int) : Bool := decide (a < 0) != decide (b < 0)
theorem ret_b {a b : Bool} (h : a = b) : Ending.returned (.bool a) = .returned (.bool b) := by rw [h]
theorem ret_u {a b : Int} (h : a = b) : Ending.returned (.int .u64 a) = .returned (.int .u64 b) := by rw [h]

set_option maxHeartbeats 1000000 in
theorem opp_any (a b : Int) (w : World) : Calls Try.prog 38 #[.int .i64 a, .int .i64 b] w fun e w' => e = .returned (.bool (opp a b)) ∧ w' = w := by
  by_cases ha : a < 0 <;> by_cases hb : b < 0
  all_goals
    go_enter Try.func38, Try.ntmps38
    go_wp2
    go_ret
    exact ⟨ret_b (by simp [opp]; omega), rfl⟩
set_option maxHeartbeats 1000000 in
theorem size_any (a : Int) (w : World) (h : -9223372036854775807 ≤ a) (h' : a ≤ 9223372036854775807) : Calls Try.prog 36 #[.int .i64 a] w fun e w' => e = .returned (.int .u64 (a.natAbs : Int)) ∧ w' = w := by
  by_cases ha : a < 0
  · go_enter Try.func36, Try.ntmps36
    go_wp2
    go_ret
    exact ⟨ret_u (by omega), rfl⟩
  · go_enter Try.func36, Try.ntmps36
    go_wp2
    go_ret
    exact ⟨ret_u (by omega), rfl⟩
set_option maxHeartbeats 1000000 in
theorem signed_pos (n : Nat) (w : World) (h : n ≤ 9223372036854775807) : Calls Try.prog 37 #[.int .u64 n, .bool false] w fun e w' => e = .returned (.tuple #[.int .i64 n, .int .i64 0]) ∧ w' = w := by
  have hi : (n : Int) ≤ 9223372036854775807 := by omega
  go_enter Try.func37, Try.ntmps37
  go_wp2
  go_ret2
  exact ⟨rfl, rfl⟩
set_option maxHeartbeats 1000000 in
theorem signed_neg (n : Nat) (w : World) (h : n ≤ 9223372036854775807) : Calls Try.prog 37 #[.int .u64 n, .bool true] w fun e w' => e = .returned (.tuple #[.int .i64 (-(n : Int)), .int .i64 0]) ∧ w' = w := by
  have hi : (n : Int) ≤ 9223372036854775807 := by omega
  go_enter Try.func37, Try.ntmps37
  go_wp2
  go_ret2
  exact ⟨rfl, rfl⟩
theorem signed_fits (n : Nat) (s : Bool) (w : World) (h : n ≤ 9223372036854775807) : Calls Try.prog 37 #[.int .u64 n, .bool s] w fun e w' => e = .returned (.tuple #[.int .i64 (if s then -(n : Int) else n), .int .i64 0]) ∧ w' = w := by
  cases s
  · exact signed_pos n w h
  · exact signed_neg n w h
set_option maxHeartbeats 1000000 in
theorem signed_over (n : Nat) (s : Bool) (w : World) (h : 9223372036854775808 ≤ n) : Calls Try.prog 37 #[.int .u64 n, .bool s] w fun e w' => e = .returned (.tuple #[.int .i64 0, .int .i64 11]) ∧ w' = w := by
  have hi : (9223372036854775807 : Int) < (n : Int) := by omega
  clear h
  go_enter Try.func37, Try.ntmps37
  go_wp2
  go_ret2
  exact ⟨rfl, rfl⟩

theorem mul64_any (x y hi lo : Nat) (hx : x < 18446744073709551616) (hy : y < 18446744073709551616) (h1 : x * y / 18446744073709551616 = hi) (h2 : x * y % 18446744073709551616 = lo) (w : World) :
    Calls Try.prog 35 #[.int .u64 x, .int .u64 y] w fun e w' => e = .returned (.tuple #[.int .u64 hi, .int .u64 lo]) ∧ w' = w := by
  rw [← h1, ← h2]
  exact Try.bits_Mul64 x y hx hy w

set_option maxHeartbeats 1000000 in
theorem msub_bad (a b : Int) (w : World) (ha : -9223372036854775808 ≤ a) (hb : -9223372036854775808 ≤ b) (h : isMin a = true ∨ isMin b = true) :
    Calls Try.prog 15 #[.int .i64 a, .int .i64 b] w fun e w' => e = .returned (.tuple #[.int .i64 0, .int .i64 10]) ∧ w' = w := by
  have H := hide h
  clear h
  go_enter Try.func15, Try.ntmps15
  go_wp2_with (go_at_call 34; refine (both_bad _ _ _ (by omega) (by omega) (unhide H)).mono ?_; rintro e w' ⟨rfl, hw⟩; subst hw)
  go_ret2
  exact ⟨rfl, rfl⟩
set_option maxHeartbeats 1000000 in
theorem msub_ok (a b : Int) (w : World) (ha : -9223372036854775807 ≤ a) (hb : -9223372036854775807 ≤ b) (ha' : a ≤ 9223372036854775807) (hb' : b ≤ 9223372036854775807) :
    Calls Try.prog 15 #[.int .i64 a, .int .i64 b] w fun e w' => e = .returned (.tuple #[.int .i64 (addSpec a (-b)).1, .int .i64 (addSpec a (-b)).2]) ∧ w' = w := by
  go_enter Try.func15, Try.ntmps15
  go_wp2_with (first | (go_at_call 34; refine (both_yes _ _ _ (by omega) (by omega)).mono ?_; rintro e w' ⟨rfl, hw⟩; subst hw) | (go_at_call 13; refine (madd_any a (-b) _ (by omega) (by omega) (by omega) (by omega)).mono ?_; rintro e w' ⟨rfl, hw⟩; subst hw))
  go_ret2
  exact ⟨rfl, rfl⟩
theorem noMin {a : Int} (h : isMin a = false) : ¬ a = -9223372036854775808 := by intro e; rw [isMin_yes e] at h; cases h
theorem minCases (a b : Int) : (isMin a = true ∨ isMin b = true) ∨ (isMin a = false ∧ isMin b = false) := by
  cases isMin a <;> cases isMin b <;> simp
theorem msub_any (a b : Int) (w : World) (ha : -9223372036854775808 ≤ a) (hb : -9223372036854775808 ≤ b) (ha' : a ≤ 9223372036854775807) (hb' : b ≤ 9223372036854775807) :
    Calls Try.prog 15 #[.int .i64 a, .int .i64 b] w fun e w' => e = .returned (.tuple #[.int .i64 (subSpec a b).1, .int .i64 (subSpec a b).2]) ∧ w' = w := by
  rcases minCases a b with h | ⟨h1, h2⟩
  · have : subSpec a b = (0, 10) := by unfold subSpec; rcases h with h | h <;> simp [h]
    rw [this]
    exact msub_bad a b w ha hb h
  · have : subSpec a b = addSpec a (-b) := by simp [subSpec, h1, h2]
    rw [this]
    have := noMin h1
    have := noMin h2
    exact msub_ok a b w (by omega) (by omega) ha' hb'

set_option maxHeartbeats 1000000 in
theorem mneg_bad (w : World) : Calls Try.prog 17 #[.int .i64 (-9223372036854775808)] w fun e w' => e = .returned (.tuple #[.int .i64 0, .int .i64 10]) ∧ w' = w := by
  go_enter Try.func17, Try.ntmps17
  go_wp2_with (go_at_call 11; refine (chk_no _).mono ?_; rintro e w' ⟨rfl, hw⟩; subst hw)
  go_ret2
  exact ⟨rfl, rfl⟩
set_option maxHeartbeats 1000000 in
theorem mneg_ok (a : Int) (w : World) (ha : -9223372036854775807 ≤ a) (ha' : a ≤ 9223372036854775807) : Calls Try.prog 17 #[.int .i64 a] w fun e w' => e = .returned (.tuple #[.int .i64 (-a), .int .i64 0]) ∧ w' = w := by
  go_enter Try.func17, Try.ntmps17
  go_wp2_with (go_at_call 11; refine (chk_yes _ _ (by omega)).mono ?_; rintro e w' ⟨rfl, hw⟩; subst hw)
  go_ret2
  exact ⟨rfl, rfl⟩
theorem mneg_any (a : Int) (w : World) (ha : -9223372036854775808 ≤ a) (ha' : a ≤ 9223372036854775807) : Calls Try.prog 17 #[.int .i64 a] w fun e w' => e = .returned (.tuple #[.int .i64 (negSpec a).1, .int .i64 (negSpec a).2]) ∧ w' = w := by
  by_cases h0 : a = -9223372036854775808
  · have : negSpec a = (0, 10) := by simp [negSpec, isMin_yes h0]
    rw [this]
    subst h0
    exact mneg_bad w
  · have : negSpec a = (-a, 0) := by simp [negSpec, isMin_no h0]
    rw [this]
    exact mneg_ok a w (by omega) ha'

set_option maxHeartbeats 1000000 in
theorem mmul_bad (a b : Int) (w : World) (ha : -9223372036854775808 ≤ a) (hb : -9223372036854775808 ≤ b) (h : isMin a = true ∨ isMin b = true) :
    Calls Try.prog 19 #[.int .i64 a, .int .i64 b] w fun e w' => e = .returned (.tuple #[.int .i64 0, .int .i64 10]) ∧ w' = w := by
  have H := hide h
  clear h
  go_enter Try.func19, Try.ntmps19
  go_wp2_with (go_at_call 34; refine (both_bad _ _ _ (by omega) (by omega) (unhide H)).mono ?_; rintro e w' ⟨rfl, hw⟩; subst hw)
  go_ret2
  exact ⟨rfl, rfl⟩
set_option maxHeartbeats 1000000 in
/-- the upper word is not 0 -/
theorem mmul_high (a b : Int) (hi lo : Nat) (w : World) (ha : -9223372036854775807 ≤ a) (hb : -9223372036854775807 ≤ b) (ha' : a ≤ 9223372036854775807) (hb' : b ≤ 9223372036854775807) (h1 : Hid (a.natAbs * b.natAbs / 18446744073709551616 = hi)) (h2 : Hid (a.natAbs * b.natAbs % 18446744073709551616 = lo)) (h3 : ((hi : Int) != 0) = true) :
    Calls Try.prog 19 #[.int .i64 a, .int .i64 b] w fun e w' => e = .returned (.tuple #[.int .i64 0, .int .i64 11]) ∧ w' = w := by
  have xa : a.natAbs < 18446744073709551616 := by omega
  have xb : b.natAbs < 18446744073709551616 := by omega
  have XA := hide xa
  have XB := hide xb
  clear xa xb
  go_enter Try.func19, Try.ntmps19
  go_wp2_with (first | (go_at_call 34; refine (both_yes _ _ _ (by omega) (by omega)).mono ?_; rintro e w' ⟨rfl, hw⟩; subst hw) | (go_at_call 36; refine (size_any _ _ (by omega) (by omega)).mono ?_; rintro e w' ⟨rfl, hw⟩; subst hw) | (go_at_call 35; refine (mul64_any a.natAbs b.natAbs hi lo (unhide XA) (unhide XB) (unhide h1) (unhide h2) _).mono ?_; rintro e w' ⟨rfl, hw⟩; subst hw))
  go_ret2
  exact ⟨rfl, rfl⟩
set_option maxHeartbeats 1000000 in
/-- .. it is -/
theorem mmul_low (a b : Int) (lo : Nat) (r s : Int) (w : World) (ha : -9223372036854775807 ≤ a) (hb : -9223372036854775807 ≤ b) (ha' : a ≤ 9223372036854775807) (hb' : b ≤ 9223372036854775807) (h1 : Hid (a.natAbs * b.natAbs / 18446744073709551616 = 0)) (h2 : Hid (a.natAbs * b.natAbs % 18446744073709551616 = lo))
    (hs : Hid (∀ w, Calls Try.prog 37 #[.int .u64 lo, .bool (opp a b)] w fun e w' => e = .returned (.tuple #[.int .i64 r, .int .i64 s]) ∧ w' = w)) :
    Calls Try.prog 19 #[.int .i64 a, .int .i64 b] w fun e w' => e = .returned (.tuple #[.int .i64 r, .int .i64 s]) ∧ w' = w := by
  have xa : a.natAbs < 18446744073709551616 := by omega
  have xb : b.natAbs < 18446744073709551616 := by omega
  have XA := hide xa
  have XB := hide xb
  clear xa xb
  go_enter Try.func19, Try.ntmps19
  go_wp2_with (first | (go_at_call 34; refine (both_yes _ _ _ (by omega) (by omega)).mono ?_; rintro e w' ⟨rfl, hw⟩; subst hw) | (go_at_call 36; refine (size_any _ _ (by omega) (by omega)).mono ?_; rintro e w' ⟨rfl, hw⟩; subst hw) | (go_at_call 35; refine (mul64_any a.natAbs b.natAbs 0 lo (unhide XA) (unhide XB) (unhide h1) (unhide h2) _).mono ?_; rintro e w' ⟨rfl, hw⟩; subst hw) | (go_at_call 38; refine (opp_any _ _ _).mono ?_; rintro e w' ⟨rfl, hw⟩; subst hw) | (go_at_call 37; refine ((unhide hs) _).mono ?_; rintro e w' ⟨rfl, hw⟩; subst hw))
  go_ret2
  exact ⟨rfl, rfl⟩
theorem mmul_any (a b : Int) (w : World) (ha : -9223372036854775808 ≤ a) (hb : -9223372036854775808 ≤ b) (ha' : a ≤ 9223372036854775807) (hb' : b ≤ 9223372036854775807) :
    Calls Try.prog 19 #[.int .i64 a, .int .i64 b] w fun e w' => e = .returned (.tuple #[.int .i64 (mulSpec a b).1, .int .i64 (mulSpec a b).2]) ∧ w' = w := by
  rcases minCases a b with h | ⟨m1, m2⟩
  · rw [mulSpec_bad a b h]
    exact mmul_bad a b w ha hb h
  · have n1 := noMin m1
    have n2 := noMin m2
    have key : ∀ M : Nat, a.natAbs * b.natAbs = M → Calls Try.prog 19 #[.int .i64 a, .int .i64 b] w fun e w' => e = .returned (.tuple #[.int .i64 (mulSpec a b).1, .int .i64 (mulSpec a b).2]) ∧ w' = w := by
      intro M hM
      by_cases hh : M / 18446744073709551616 = 0
      · have hlow : M % 18446744073709551616 = M := by omega
        refine mmul_low a b M _ _ w (by omega) (by omega) ha' hb' (by rw [hM]; exact hh) (by rw [hM]; exact hlow) ?_
        intro w2
        by_cases hf : M < 9223372036854775808
        · rw [mulSpec_fits a b (opp a b) m1 m2 (by rw [hM]; exact hf) rfl, hM]
          exact signed_fits M _ w2 (by omega)
        · rw [mulSpec_over a b m1 m2 (by rw [hM]; omega)]
          exact signed_over M _ w2 (by omega)
      · rw [mulSpec_over a b m1 m2 (by rw [hM]; omega)]
        exact mmul_high a b _ _ w (by omega) (by omega) ha' hb' rfl rfl (by rw [bne_iff_ne]; rw [hM]; omega)
    exact key _ rfl
end Go.Proofs.Ytddpladmkmpoaaa
