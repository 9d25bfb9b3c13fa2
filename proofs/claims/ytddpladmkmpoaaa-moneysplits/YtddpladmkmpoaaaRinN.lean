/- Plain numbers: sums of two lists end to end, and turned about. Nothing of the program. -/
import Derived.Test.YtddpladmkmpoaaaOnesN
namespace Go.Proofs.Ytddpladmkmpoaaa
def catZ (zs : Nat → Int) (n : Nat) (ys : Nat → Int) : Nat → Int := fun i => if i < n then zs i else ys (i - n)
def revZ (f : Nat → Int) (n : Nat) : Nat → Int := fun i => f (n - 1 - i)
theorem catZ_lt {zs ys : Nat → Int} {n i : Nat} (h : i < n) : catZ zs n ys i = zs i := by simp [catZ, h]
theorem catZ_ge {zs ys : Nat → Int} {n : Nat} (i : Nat) : catZ zs n ys (n + i) = ys i := by
  have h : ¬ n + i < n := by omega
  have e : n + i - n = i := by omega
  simp only [catZ, if_neg h, e]
theorem sumZ_cat (zs ys : Nat → Int) (n : Nat) : ∀ m, sumZ (catZ zs n ys) (n + m) = sumZ zs n + sumZ ys m
  | 0 => by
    rw [Nat.add_zero, sumZ_ext n (fun i hi => catZ_lt (zs := zs) (ys := ys) hi)]
    simp [sumZ]
  | m + 1 => by
    have := sumZ_cat zs ys n m
    show sumZ (catZ zs n ys) (n + m) + catZ zs n ys (n + m) = _
    rw [this, catZ_ge]
    simp only [sumZ]
    omega
theorem sumZ_rev_part (f : Nat → Int) (n : Nat) : ∀ k, k ≤ n → sumZ (revZ f n) k = sumZ f n - sumZ f (n - k)
  | 0, _ => by simp [sumZ]
  | k + 1, h => by
    have ih := sumZ_rev_part f n k (by omega)
    have e : n - k = (n - (k + 1)) + 1 := by omega
    have e1 : n - 1 - k = n - (k + 1) := by omega
    simp only [sumZ]
    rw [ih, e]
    simp only [sumZ, revZ, e1]
    omega
theorem sumZ_rev (f : Nat → Int) (n : Nat) : sumZ (revZ f n) n = sumZ f n := by
  rw [sumZ_rev_part f n n (Nat.le_refl _), Nat.sub_self]
  simp [sumZ]
theorem anyMin_no {f : Nat → Int} : ∀ {n}, anyMin f n = false → ∀ i, i < n → ¬ f i = -9223372036854775808
  | 0, _, i, hi => by omega
  | n + 1, h, i, hi => by
    simp only [anyMin, Bool.or_eq_false_iff, beq_eq_false_iff_ne] at h
    by_cases e : i = n
    · subst e; exact h.2
    · exact anyMin_no h.1 i (by omega)
theorem anyMin_of {f : Nat → Int} : ∀ {n}, (∀ i, i < n → ¬ f i = -9223372036854775808) → anyMin f n = false
  | 0, _ => rfl
  | n + 1, h => anyMin_step (anyMin_of fun i hi => h i (by omega)) (h n (by omega))
theorem anyMin_cat {zs ys : Nat → Int} {n m : Nat} (h1 : anyMin zs n = false) (h2 : anyMin ys m = false) : anyMin (catZ zs n ys) (n + m) = false := by
  refine anyMin_of fun i hi => ?_
  by_cases h : i < n
  · rw [catZ_lt h]; exact anyMin_no h1 i h
  · obtain ⟨j, rfl⟩ : ∃ j, i = n + j := ⟨i - n, by omega⟩
    rw [catZ_ge]
    exact anyMin_no h2 j (by omega)
theorem anyMin_rev {f : Nat → Int} {n : Nat} (h : anyMin f n = false) : anyMin (revZ f n) n = false := by
  refine anyMin_of fun i hi => ?_
  exact anyMin_no h (n - 1 - i) (by omega)
/-- an answer without an error -/
theorem sumSpec_ok {zs : Nat → Int} {n : Nat} (h : (sumSpec zs n).2 = 0) : anyMin zs n = false ∧ (sumSpec zs n).1 = sumZ zs n ∧ -9223372036854775808 < sumZ zs n ∧ sumZ zs n < 9223372036854775808 := by
  unfold sumSpec at h ⊢
  split at h
  · cases h
  · rename_i h1
    split at h
    · rename_i h2
      rw [if_neg h1, if_pos h2]
      exact ⟨by simpa using h1, rfl, h2.1, h2.2⟩
    · cases h
theorem sumSpec_err {zs : Nat → Int} {n : Nat} (h : ¬ (sumSpec zs n).2 = 0) : (sumSpec zs n).1 = 0 := by
  unfold sumSpec at h ⊢
  split
  · rfl
  · rename_i h1
    rw [if_neg h1] at h
    split
    · rename_i h2
      rw [if_pos h2] at h
      exact absurd rfl h
    · rfl
theorem sumSpec_cat {zs ys : Nat → Int} {n m : Nat} (h1 : (sumSpec zs n).2 = 0) (h2 : (sumSpec ys m).2 = 0) : sumSpec (catZ zs n ys) (n + m) = addSpec (sumSpec zs n).1 (sumSpec ys m).1 := by
  obtain ⟨a1, b1, c1, d1⟩ := sumSpec_ok h1
  obtain ⟨a2, b2, c2, d2⟩ := sumSpec_ok h2
  rw [b1, b2, addSpec_is, isMin_no (by omega), isMin_no (by omega)]
  unfold sumSpec
  rw [anyMin_cat a1 a2, sumZ_cat]
  rfl
theorem sumSpec_rev {f : Nat → Int} {n : Nat} (h : anyMin f n = false) : sumSpec (revZ f n) n = sumSpec f n := by
  unfold sumSpec
  rw [anyMin_rev h, h, sumZ_rev]
theorem addSpec_comm (a b : Int) : addSpec a b = addSpec b a := by
  rw [addSpec_is, addSpec_is, Bool.or_comm, Int.add_comm]
theorem addSpec_two {a b : Int} (ha : -9223372036854775808 < a) (hb : -9223372036854775808 < b) (h : ¬ (addSpec a b).2 = 0) : (addSpec a b).2 = 11 := by
  rw [addSpec_is, isMin_no (by omega), isMin_no (by omega)] at *
  simp only [Bool.or_self, Bool.false_eq_true, if_false] at *
  split at h
  · exact absurd rfl h
  · rename_i h'; rw [if_neg h']
/-- what was added is taken away again -/
theorem sub_back {a b : Int} (ha : -9223372036854775808 < a) (ha' : a < 9223372036854775808) (hb : -9223372036854775808 < b) (hb' : b < 9223372036854775808) (h : (addSpec a b).2 = 0) : subSpec (addSpec a b).1 b = (a, 0) ∧ -9223372036854775808 < (addSpec a b).1 ∧ (addSpec a b).1 < 9223372036854775808 := by
  have e : addSpec a b = (a + b, 0) ∧ -9223372036854775808 < a + b ∧ a + b < 9223372036854775808 := by
    rw [addSpec_is, isMin_no (by omega), isMin_no (by omega)] at h ⊢
    simp only [Bool.or_self, Bool.false_eq_true, if_false] at h ⊢
    split at h
    · rename_i h'; rw [if_pos h']; exact ⟨rfl, h'⟩
    · cases h
  rw [e.1]
  refine ⟨?_, e.2⟩
  unfold subSpec
  have h1 := e.2.1
  have h2 := e.2.2
  have e1 : a + b + -b = a := by omega
  rw [isMin_no (by omega), isMin_no (by omega), addSpec_fits _ _ (isMin_no (by omega)) (isMin_no (by omega)) (by omega) (by omega), e1]
  rfl
theorem addSpec_bd {a b : Int} : -9223372036854775808 < (addSpec a b).1 ∧ (addSpec a b).1 < 9223372036854775808 := by
  rw [addSpec_is]
  split
  · decide
  · split
    · rename_i h; exact h
    · decide
end Go.Proofs.Ytddpladmkmpoaaa
