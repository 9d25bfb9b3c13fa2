import Derived.Test.YtddpladmkmpoaaaOnesB
namespace Go.Proofs.Ytddpladmkmpoaaa
open Go.ChangeShapes Go.WideShapes Go.ChangeAt Go.RowKit
set_option linter.unusedVariables false

set_option maxHeartbeats 1000000 in
theorem rchk_yes (a : Int) (w : World) (h : -9223372036854775807 ≤ a) : Calls Try.prog 12 #[.int .i64 a] w fun e w' => e = .returned (.int .i64 0) ∧ w' = w := by
  go_enter Try.func12, Try.ntmps12
  go_wp2_with (go_at_call 28; refine (is_yes _ _ (by omega)).mono ?_; rintro e w' ⟨rfl, hw⟩; subst hw)
  go_ret
  exact ⟨rfl, rfl⟩
set_option maxHeartbeats 1000000 in
theorem rchk_no (w : World) : Calls Try.prog 12 #[.int .i64 (-9223372036854775808)] w fun e w' => e = .returned (.int .i64 10) ∧ w' = w := by
  go_enter Try.func12, Try.ntmps12
  go_wp2_with (go_at_call 28; refine (is_no _).mono ?_; rintro e w' ⟨rfl, hw⟩; subst hw)
  go_ret
  exact ⟨rfl, rfl⟩
theorem rchk_any (a : Int) (w : World) (h : -9223372036854775808 ≤ a) : Calls Try.prog 12 #[.int .i64 a] w fun e w' => e = .returned (.int .i64 (chkSpec a)) ∧ w' = w := by
  by_cases h0 : a = -9223372036854775808
  · have : chkSpec a = 10 := by simp [chkSpec, isMin_yes h0]
    rw [this]
    subst h0
    exact rchk_no w
  · have : chkSpec a = 0 := by simp [chkSpec, isMin_no h0]
    rw [this]
    exact rchk_yes a w (by omega)
theorem two_bd (a b : Int) (ha : -9223372036854775808 ≤ a) (hb : -9223372036854775808 ≤ b) (ha' : a ≤ 9223372036854775807) (hb' : b ≤ 9223372036854775807) : ∀ k, k < 2 → -9223372036854775808 ≤ two a b k ∧ two a b k ≤ 9223372036854775807 := by
  intro k hk
  unfold two
  split <;> omega
theorem two_cells (a b : Int) (w : World) : ∀ k, k < 2 → (w.alloc (.cells #[.int .i64 a, .int .i64 b] 2)).cell? ⟨w.heap.size, 0 + k, none⟩ = some (.int .i64 (two a b k)) := by
  intro k hk
  have : k = 0 ∨ k = 1 := by omega
  rcases this with rfl | rfl <;> simp [two]
theorem two_sum_at (a b : Int) (ha : -9223372036854775808 ≤ a) (hb : -9223372036854775808 ≤ b) (ha' : a ≤ 9223372036854775807) (hb' : b ≤ 9223372036854775807) (w : World) :
    Calls Try.prog 9 #[.slice (some ⟨w.heap.size, 0, none⟩) 2 2] (w.alloc (.cells #[.int .i64 a, .int .i64 b] 2)) fun e w' => e = .returned (.tuple #[.int .i64 (addSpec a b).1, .int .i64 (addSpec a b).2]) ∧ Below w.heap.size w w' := by
  refine (rsum_any (two a b) w.heap.size 0 2 2 (by omega) (two_bd a b ha hb ha' hb') _ (two_cells a b w) (by simp)).mono fun e w' hh => ⟨hh.1, ?_⟩
  have c := bal (Below.refl w.heap.size w) (.cells #[.int .i64 a, .int .i64 b] 2)
  exact c.trans (hh.2.mono c.size)

set_option maxHeartbeats 1000000 in
theorem radd_any (a b : Int) (w : World) (ha : -9223372036854775808 ≤ a) (hb : -9223372036854775808 ≤ b) (ha' : a ≤ 9223372036854775807) (hb' : b ≤ 9223372036854775807) :
    Calls Try.prog 14 #[.int .i64 a, .int .i64 b] w fun e w' => e = .returned (.tuple #[.int .i64 (addSpec a b).1, .int .i64 (addSpec a b).2]) ∧ Below w.heap.size w w' := by
  go_enter Try.func14, Try.ntmps14
  go_wp2_with (go_at_call 9; refine (two_sum_at a b (by omega) (by omega) (by omega) (by omega) _).mono ?_; rintro e w1 ⟨rfl, hb1⟩)
  go_ret2
  exact ⟨rfl, hb1⟩

set_option maxHeartbeats 1000000 in
theorem rsub_no1 (b : Int) (w : World) (hb : -9223372036854775807 ≤ b) :
    Calls Try.prog 16 #[.int .i64 (-9223372036854775808), .int .i64 b] w fun e w' => e = .returned (.tuple #[.int .i64 0, .int .i64 10]) ∧ w' = w := by
  go_enter Try.func16, Try.ntmps16
  go_wp2_with fail
  refine (is_no _).mono ?_
  rintro e w' ⟨rfl, hw⟩
  subst hw
  go_wp2_with fail
  refine (is_yes _ _ (by omega)).mono ?_
  rintro e w' ⟨rfl, hw⟩
  subst hw
  go_wp2
  go_ret2
  exact ⟨rfl, rfl⟩
set_option maxHeartbeats 1000000 in
theorem rsub_no2 (a : Int) (w : World) (ha : -9223372036854775807 ≤ a) :
    Calls Try.prog 16 #[.int .i64 a, .int .i64 (-9223372036854775808)] w fun e w' => e = .returned (.tuple #[.int .i64 0, .int .i64 10]) ∧ w' = w := by
  go_enter Try.func16, Try.ntmps16
  go_wp2_with fail
  refine (is_yes _ _ (by omega)).mono ?_
  rintro e w' ⟨rfl, hw⟩
  subst hw
  go_wp2_with fail
  refine (is_no _).mono ?_
  rintro e w' ⟨rfl, hw⟩
  subst hw
  go_wp2
  go_ret2
  exact ⟨rfl, rfl⟩
set_option maxHeartbeats 1000000 in
theorem rsub_no3 (w : World) :
    Calls Try.prog 16 #[.int .i64 (-9223372036854775808), .int .i64 (-9223372036854775808)] w fun e w' => e = .returned (.tuple #[.int .i64 0, .int .i64 10]) ∧ w' = w := by
  go_enter Try.func16, Try.ntmps16
  go_wp2_with (go_at_call 28; refine (is_no _).mono ?_; rintro e w' ⟨rfl, hw⟩; subst hw)
  go_ret2
  exact ⟨rfl, rfl⟩
set_option maxHeartbeats 1000000 in
theorem rsub_ok (a b : Int) (w : World) (ha : -9223372036854775807 ≤ a) (hb : -9223372036854775807 ≤ b) (ha' : a ≤ 9223372036854775807) (hb' : b ≤ 9223372036854775807) :
    Calls Try.prog 16 #[.int .i64 a, .int .i64 b] w fun e w' => e = .returned (.tuple #[.int .i64 (addSpec a (-b)).1, .int .i64 (addSpec a (-b)).2]) ∧ Below w.heap.size w w' := by
  go_enter Try.func16, Try.ntmps16
  go_wp2_with (first | (go_at_call 28; refine (is_yes _ _ (by omega)).mono ?_; rintro e w' ⟨rfl, hw⟩; subst hw) | (go_at_call 9; refine (two_sum_at a (-b) (by omega) (by omega) (by omega) (by omega) _).mono ?_; rintro e w1 ⟨rfl, hb1⟩))
  go_ret2
  exact ⟨rfl, hb1⟩
theorem rsub_any (a b : Int) (w : World) (ha : -9223372036854775808 ≤ a) (hb : -9223372036854775808 ≤ b) (ha' : a ≤ 9223372036854775807) (hb' : b ≤ 9223372036854775807) :
    Calls Try.prog 16 #[.int .i64 a, .int .i64 b] w fun e w' => e = .returned (.tuple #[.int .i64 (subSpec a b).1, .int .i64 (subSpec a b).2]) ∧ Below w.heap.size w w' := by
  by_cases h1 : a = -9223372036854775808
  · have e : subSpec a b = (0, 10) := by simp [subSpec, isMin_yes h1]
    rw [e]
    by_cases h2 : b = -9223372036854775808
    · subst h1; subst h2
      exact (rsub_no3 w).mono fun e w' hh => ⟨hh.1, by rw [hh.2]; exact Below.refl _ _⟩
    · subst h1
      exact (rsub_no1 b w (by omega)).mono fun e w' hh => ⟨hh.1, by rw [hh.2]; exact Below.refl _ _⟩
  · by_cases h2 : b = -9223372036854775808
    · have e : subSpec a b = (0, 10) := by simp [subSpec, isMin_yes h2]
      rw [e]
      subst h2
      exact (rsub_no2 a w (by omega)).mono fun e w' hh => ⟨hh.1, by rw [hh.2]; exact Below.refl _ _⟩
    · have e : subSpec a b = addSpec a (-b) := by simp [subSpec, isMin_no h1, isMin_no h2]
      rw [e]
      exact rsub_ok a b w (by omega) (by omega) ha' hb'

set_option maxHeartbeats 1000000 in
theorem rneg_bad (w : World) : Calls Try.prog 18 #[.int .i64 (-9223372036854775808)] w fun e w' => e = .returned (.tuple #[.int .i64 0, .int .i64 10]) ∧ w' = w := by
  go_enter Try.func18, Try.ntmps18
  go_wp2_with (go_at_call 28; refine (is_no _).mono ?_; rintro e w' ⟨rfl, hw⟩; subst hw)
  go_ret2
  exact ⟨rfl, rfl⟩
set_option maxHeartbeats 1000000 in
theorem rneg_ok (a : Int) (w : World) (ha : -9223372036854775807 ≤ a) (ha' : a ≤ 9223372036854775807) : Calls Try.prog 18 #[.int .i64 a] w fun e w' => e = .returned (.tuple #[.int .i64 (-a), .int .i64 0]) ∧ w' = w := by
  go_enter Try.func18, Try.ntmps18
  go_wp2_with (go_at_call 28; refine (is_yes _ _ (by omega)).mono ?_; rintro e w' ⟨rfl, hw⟩; subst hw)
  go_ret2
  exact ⟨rfl, rfl⟩
theorem rneg_any (a : Int) (w : World) (ha : -9223372036854775808 ≤ a) (ha' : a ≤ 9223372036854775807) : Calls Try.prog 18 #[.int .i64 a] w fun e w' => e = .returned (.tuple #[.int .i64 (negSpec a).1, .int .i64 (negSpec a).2]) ∧ w' = w := by
  by_cases h0 : a = -9223372036854775808
  · have : negSpec a = (0, 10) := by simp [negSpec, isMin_yes h0]
    rw [this]
    subst h0
    exact rneg_bad w
  · have : negSpec a = (-a, 0) := by simp [negSpec, isMin_no h0]
    rw [this]
    exact rneg_ok a w (by omega) ha'

set_option maxHeartbeats 1000000 in
theorem rmul_no1 (b : Int) (w : World) (hb : -9223372036854775807 ≤ b) :
    Calls Try.prog 20 #[.int .i64 (-9223372036854775808), .int .i64 b] w fun e w' => e = .returned (.tuple #[.int .i64 0, .int .i64 10]) ∧ w' = w := by
  go_enter Try.func20, Try.ntmps20
  go_wp2_with fail
  refine (is_no _).mono ?_
  rintro e w' ⟨rfl, hw⟩
  subst hw
  go_wp2_with fail
  refine (is_yes _ _ (by omega)).mono ?_
  rintro e w' ⟨rfl, hw⟩
  subst hw
  go_wp2
  go_ret2
  exact ⟨rfl, rfl⟩
set_option maxHeartbeats 1000000 in
theorem rmul_no2 (a : Int) (w : World) (ha : -9223372036854775807 ≤ a) :
    Calls Try.prog 20 #[.int .i64 a, .int .i64 (-9223372036854775808)] w fun e w' => e = .returned (.tuple #[.int .i64 0, .int .i64 10]) ∧ w' = w := by
  go_enter Try.func20, Try.ntmps20
  go_wp2_with fail
  refine (is_yes _ _ (by omega)).mono ?_
  rintro e w' ⟨rfl, hw⟩
  subst hw
  go_wp2_with fail
  refine (is_no _).mono ?_
  rintro e w' ⟨rfl, hw⟩
  subst hw
  go_wp2
  go_ret2
  exact ⟨rfl, rfl⟩
set_option maxHeartbeats 1000000 in
theorem rmul_no3 (w : World) :
    Calls Try.prog 20 #[.int .i64 (-9223372036854775808), .int .i64 (-9223372036854775808)] w fun e w' => e = .returned (.tuple #[.int .i64 0, .int .i64 10]) ∧ w' = w := by
  go_enter Try.func20, Try.ntmps20
  go_wp2_with (go_at_call 28; refine (is_no _).mono ?_; rintro e w' ⟨rfl, hw⟩; subst hw)
  go_ret2
  exact ⟨rfl, rfl⟩
set_option maxHeartbeats 1000000 in
theorem rmul_fits (a b : Int) (s t : Bool) (r : Int) (w : World) (ha : -9223372036854775807 ≤ a) (hb : -9223372036854775807 ≤ b) (ha' : a ≤ 9223372036854775807) (hb' : b ≤ 9223372036854775807)
    (XA : Hid (a.natAbs < 4294967296 ^ 6)) (XB : Hid (b.natAbs < 4294967296 ^ 6)) (XM : Hid (a.natAbs * b.natAbs < 4294967296 ^ 6))
    (hsa : decide (a < 0) = s) (hsb : decide (b < 0) = t) (o : Bool) (ho : (!(s == t)) = o)
    (hs : Hid (∀ w, Calls Try.prog 33 #[wv (a.natAbs * b.natAbs), .bool o] w fun e w' => e = .returned (.tuple #[.int .i64 r, .bool true]) ∧ Below w.heap.size w w')) :
    Calls Try.prog 20 #[.int .i64 a, .int .i64 b] w fun e w' => e = .returned (.tuple #[.int .i64 r, .int .i64 0]) ∧ Below w.heap.size w w' := by
  go_enter Try.func20, Try.ntmps20
  go_wp2_with (first | (go_at_call 28; refine (is_yes _ _ (by omega)).mono ?_; rintro e w' ⟨rfl, hw⟩; subst hw))
  refine (of_any _ _ (by omega) (by omega)).mono ?_
  rintro e w1 ⟨rfl, hb1⟩
  go_wp2_with fail
  refine (of_any _ _ (by omega) (by omega)).mono ?_
  rintro e w2 ⟨rfl, hb2⟩
  go_wp2_with fail
  refine (times_any a.natAbs b.natAbs (unhide XA) (unhide XB) (unhide XM) _).mono ?_
  rintro e w3 ⟨rfl, hb3⟩
  go_wp2_with fail
  refine ((unhide hs) _).mono ?_
  rintro e w4 ⟨rfl, hb4⟩
  go_wp2
  go_ret2
  have c2 := hb1.trans (hb2.mono hb1.size)
  have c3 := c2.trans (hb3.mono c2.size)
  exact ⟨rfl, c3.trans (hb4.mono c3.size)⟩
set_option maxHeartbeats 1000000 in
theorem rmul_over (a b : Int) (s t : Bool) (r : Int) (w : World) (ha : -9223372036854775807 ≤ a) (hb : -9223372036854775807 ≤ b) (ha' : a ≤ 9223372036854775807) (hb' : b ≤ 9223372036854775807)
    (XA : Hid (a.natAbs < 4294967296 ^ 6)) (XB : Hid (b.natAbs < 4294967296 ^ 6)) (XM : Hid (a.natAbs * b.natAbs < 4294967296 ^ 6))
    (hsa : decide (a < 0) = s) (hsb : decide (b < 0) = t) (o : Bool) (ho : (!(s == t)) = o)
    (hs : Hid (∀ w, Calls Try.prog 33 #[wv (a.natAbs * b.natAbs), .bool o] w fun e w' => e = .returned (.tuple #[.int .i64 r, .bool false]) ∧ Below w.heap.size w w')) :
    Calls Try.prog 20 #[.int .i64 a, .int .i64 b] w fun e w' => e = .returned (.tuple #[.int .i64 0, .int .i64 11]) ∧ Below w.heap.size w w' := by
  go_enter Try.func20, Try.ntmps20
  go_wp2_with (first | (go_at_call 28; refine (is_yes _ _ (by omega)).mono ?_; rintro e w' ⟨rfl, hw⟩; subst hw))
  refine (of_any _ _ (by omega) (by omega)).mono ?_
  rintro e w1 ⟨rfl, hb1⟩
  go_wp2_with fail
  refine (of_any _ _ (by omega) (by omega)).mono ?_
  rintro e w2 ⟨rfl, hb2⟩
  go_wp2_with fail
  refine (times_any a.natAbs b.natAbs (unhide XA) (unhide XB) (unhide XM) _).mono ?_
  rintro e w3 ⟨rfl, hb3⟩
  go_wp2_with fail
  refine ((unhide hs) _).mono ?_
  rintro e w4 ⟨rfl, hb4⟩
  go_wp2
  go_ret2
  have c2 := hb1.trans (hb2.mono hb1.size)
  have c3 := c2.trans (hb3.mono c2.size)
  exact ⟨rfl, c3.trans (hb4.mono c3.size)⟩
theorem opp_is (a b : Int) : opp a b = !(decide (a < 0) == decide (b < 0)) := rfl
theorem rmul_any (a b : Int) (w : World) (ha : -9223372036854775808 ≤ a) (hb : -9223372036854775808 ≤ b) (ha' : a ≤ 9223372036854775807) (hb' : b ≤ 9223372036854775807) :
    Calls Try.prog 20 #[.int .i64 a, .int .i64 b] w fun e w' => e = .returned (.tuple #[.int .i64 (mulSpec a b).1, .int .i64 (mulSpec a b).2]) ∧ Below w.heap.size w w' := by
  by_cases h1 : a = -9223372036854775808
  · rw [mulSpec_bad a b (Or.inl (isMin_yes h1))]
    by_cases h2 : b = -9223372036854775808
    · subst h1; subst h2
      exact (rmul_no3 w).mono fun e w' hh => ⟨hh.1, by rw [hh.2]; exact Below.refl _ _⟩
    · subst h1
      exact (rmul_no1 b w (by omega)).mono fun e w' hh => ⟨hh.1, by rw [hh.2]; exact Below.refl _ _⟩
  · by_cases h2 : b = -9223372036854775808
    · rw [mulSpec_bad a b (Or.inr (isMin_yes h2))]
      subst h2
      exact (rmul_no2 a w (by omega)).mono fun e w' hh => ⟨hh.1, by rw [hh.2]; exact Below.refl _ _⟩
    · have xa : a.natAbs < 4294967296 ^ 6 := by rw [p6n]; omega
      have xb : b.natAbs < 4294967296 ^ 6 := by rw [p6n]; omega
      have xm : a.natAbs * b.natAbs < 4294967296 ^ 6 := by
        have h1 : a.natAbs * b.natAbs ≤ 9223372036854775807 * 9223372036854775807 := Nat.mul_le_mul (by omega) (by omega)
        rw [p6n]
        exact Nat.lt_of_le_of_lt h1 (by decide)
      by_cases hf : a.natAbs * b.natAbs < 9223372036854775808
      · rw [mulSpec_fits a b (opp a b) (isMin_no h1) (isMin_no h2) hf rfl]
        exact rmul_fits a b _ _ _ w (by omega) (by omega) ha' hb' xa xb xm rfl rfl _ rfl (fun w => amount_fits _ hf _ w)
      · rw [mulSpec_over a b (isMin_no h1) (isMin_no h2) (by omega)]
        exact rmul_over a b _ _ 0 w (by omega) (by omega) ha' hb' xa xb xm rfl rfl _ rfl (fun w => amount_over _ xm (by omega) _ w)
end Go.Proofs.Ytddpladmkmpoaaa
