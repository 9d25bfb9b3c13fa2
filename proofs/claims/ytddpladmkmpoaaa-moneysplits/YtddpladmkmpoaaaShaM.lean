/- Plain numbers: the parts' sum, their bounds, their order, opposites and multiples. -/
import Derived.Test.YtddpladmkmpoaaaShaN
namespace Go.Proofs.Ytddpladmkmpoaaa
open Go.Sort
set_option linter.unusedVariables false
def sumR (T S : Nat) (zs : Nat → Int) : Nat → Nat
  | 0 => 0
  | k + 1 => sumR T S zs k + rf T S zs k
theorem cum_rest (T S : Nat) (zs : Nat → Int) : ∀ k, T * sumN zs k = cumQ T S zs k * S + sumR T S zs k
  | 0 => by simp [sumN, cumQ, sumR]
  | k + 1 => by
    have ih := cum_rest T S zs k
    have h := Nat.div_add_mod (T * (zs k).toNat) S
    simp only [sumN, cumQ, sumR, Nat.mul_add, Nat.add_mul]
    unfold qf rf
    rw [Nat.mul_comm S] at h
    omega
section
variable {T S n : Nat} {zs : Nat → Int} {c : Array Sh}
theorem left_rest (hS : sumN zs n = S) : left T S zs n * S = sumR T S zs n := by
  have h := cum_rest T S zs n
  rw [hS] at h
  unfold left
  rw [Nat.sub_mul]
  omega
theorem sumR_le (S0 : 0 < S) : ∀ k, sumR T S zs k ≤ ((List.range k).countP (fun i => decide (0 < rf T S zs i))) * S
  | 0 => by simp [sumR]
  | k + 1 => by
    have ih := sumR_le S0 k
    have hr : rf T S zs k < S := Nat.mod_lt _ S0
    rw [List.range_succ, List.countP_append, Nat.add_mul]
    simp only [sumR, List.countP_singleton]
    by_cases h : 0 < rf T S zs k
    · simp only [h, decide_true, if_true, Nat.one_mul]
      omega
    · have h' : rf T S zs k = 0 := by omega
      rw [h']
      simp
      exact ih
theorem left_le (hS : sumN zs n = S) (S0 : 0 < S) : left T S zs n ≤ n := by
  have h1 := left_rest (T := T) hS
  have h2 := sumR_le (T := T) (zs := zs) S0 n
  have h3 : (List.range n).countP (fun i => decide (0 < rf T S zs i)) ≤ n := by
    have := List.countP_le_length (p := fun i => decide (0 < rf T S zs i)) (l := List.range n)
    simpa using this
  have h4 : left T S zs n * S ≤ n * S := by rw [h1]; exact Nat.le_trans h2 (Nat.mul_le_mul_right _ h3)
  exact Nat.le_of_mul_le_mul_right h4 S0
/-- only what has a rest is rounded up -/
theorem up_rest (hS : sumN zs n = S) (S0 : 0 < S) {i : Nat} (h : cnt T S zs n i < left T S zs n) : 0 < rf T S zs i := by
  rcases Nat.eq_zero_or_pos (rf T S zs i) with h0 | h0
  · exfalso
    have h1 : (List.range n).countP (fun i => decide (0 < rf T S zs i)) ≤ cnt T S zs n i := by
      unfold cnt ahd allS
      rw [List.countP_map]
      apply List.countP_mono_left
      intro j _ hj
      have hj' : 0 < rf T S zs j := by simpa using hj
      show decide (lts (shf T S zs j) (shf T S zs i)) = true
      refine decide_eq_true (.inl ?_)
      show rf T S zs i < rf T S zs j
      omega
    have h2 := sumR_le (T := T) (zs := zs) S0 n
    rw [← left_rest (T := T) hS] at h2
    have h3 := Nat.le_of_mul_le_mul_right h2 S0
    omega
  · exact h0
theorem count_first {α : Type} : ∀ (l : List α) (L : Nat) (p : α → Bool), (∀ j (hj : j < l.length), p l[j] = decide (j < L)) → l.countP p = min L l.length
  | [], L, p, _ => by simp
  | y :: r, L, p, h => by
    have h0 : p y = decide (0 < L) := h 0 (by simp)
    have ih := count_first r (L - 1) p (fun j hj => by
      have := h (j + 1) (by simpa using hj)
      show p r[j] = _
      rw [show p r[j] = decide (j + 1 < L) from this]
      have e : j + 1 < L ↔ j < L - 1 := by omega
      simp only [e])
    rw [List.countP_cons, ih, h0, List.length_cons]
    by_cases hL : 0 < L
    · simp only [hL, decide_true, if_true]
      omega
    · have : L = 0 := by omega
      subst this
      simp
theorem up_count (h : Ord T S zs n c) (hS : sumN zs n = S) (S0 : 0 < S) : (List.range n).countP (fun i => decide (cnt T S zs n i < left T S zs n)) = left T S zs n := by
  have e1 : (List.range n).countP (fun i => decide (cnt T S zs n i < left T S zs n)) = (allS T S zs n).countP (fun z => decide (ahd (allS T S zs n) z < left T S zs n)) := by
    unfold allS
    rw [List.countP_map]
    rfl
  have e2 : ∀ z, ahd (allS T S zs n) z = ahd (c.extract 0 n).toList z := fun z => (h.lperm.countP_eq _).symm
  rw [e1, ← h.lperm.countP_eq]
  rw [count_first _ (left T S zs n) _ (fun j hj => by simp only [e2, ahd_at _ h.lsrt j hj]), h.llen]
  have := left_le (T := T) hS S0
  omega
def sumP (T S : Nat) (zs : Nat → Int) (n : Nat) : Nat → Nat
  | 0 => 0
  | k + 1 => sumP T S zs n k + part T S zs n k
theorem sumP_is (T S : Nat) (zs : Nat → Int) (n : Nat) : ∀ k, sumP T S zs n k = cumQ T S zs k + (List.range k).countP (fun i => decide (cnt T S zs n i < left T S zs n))
  | 0 => by simp [sumP, cumQ]
  | k + 1 => by
    rw [List.range_succ, List.countP_append, List.countP_singleton]
    simp only [sumP, cumQ, sumP_is T S zs n k]
    unfold part
    simp only [decide_eq_true_eq]
    omega
theorem sumP_T (h : Ord T S zs n c) (hS : sumN zs n = S) (S0 : 0 < S) : sumP T S zs n n = T := by
  rw [sumP_is, up_count h hS S0]
  have := cumQ_T (T := T) (k := n) hS S0 (Nat.le_refl _)
  unfold left
  omega
theorem sumZ_part (neg : Bool) (g : Nat → Int) (hg : ∀ i, i < n → g i = if neg then -(part T S zs n i : Int) else (part T S zs n i : Int)) : ∀ k, k ≤ n → sumZ g k = if neg then -(sumP T S zs n k : Int) else (sumP T S zs n k : Int)
  | 0, _ => by cases neg <;> rfl
  | k + 1, hk => by
    have ih := sumZ_part neg g hg k (by omega)
    simp only [sumZ, sumP, ih, hg k (by omega)]
    cases neg <;> simp <;> omega
theorem part_le (h : Ord T S zs n c) (hS : sumN zs n = S) (S0 : 0 < S) {i : Nat} (hi : i < n) : part T S zs n i ≤ T := by
  have h1 : ∀ m, i < m → part T S zs n i ≤ sumP T S zs n m := by
    intro m
    induction m with
    | zero => intro h; omega
    | succ m ih =>
      intro h
      simp only [sumP]
      by_cases e : i = m
      · subst e; omega
      · have := ih (by omega)
        omega
  have := h1 n hi
  rw [sumP_T h hS S0] at this
  exact this
/-- rounded down or up -/
theorem part_two (hS : sumN zs n = S) (S0 : 0 < S) (i : Nat) : part T S zs n i = qf T S zs i ∨ part T S zs n i = qf T S zs i + 1 ∧ 0 < rf T S zs i := by
  unfold part
  by_cases h : cnt T S zs n i < left T S zs n
  · exact .inr ⟨by rw [if_pos h], up_rest hS S0 h⟩
  · exact .inl (by rw [if_neg h, Nat.add_zero])
theorem part_zero (hS : sumN zs n = S) (S0 : 0 < S) {i : Nat} (hz : zs i = 0) : part T S zs n i = 0 := by
  have hr : rf T S zs i = 0 := by unfold rf; rw [hz]; simp
  have hq : qf T S zs i = 0 := by unfold qf; rw [hz]; simp
  rcases part_two (T := T) hS S0 i with h | h
  · omega
  · omega
theorem ahd_lt {l : List Sh} {x y : Sh} (h : lts x y) : ahd l x ≤ ahd l y := by
  unfold ahd
  apply List.countP_mono_left
  intro z _ hz
  have hz' : lts z x := by simpa using hz
  exact decide_eq_true (lts_trans hz' h)
/-- the shares' order decides -/
theorem part_mono {i j : Nat} (hq : qf T S zs j = qf T S zs i) (h : lts (shf T S zs i) (shf T S zs j)) : part T S zs n j ≤ part T S zs n i := by
  have := ahd_lt (l := allS T S zs n) h
  have h2 : cnt T S zs n i ≤ cnt T S zs n j := this
  unfold part
  rw [hq]
  by_cases a : cnt T S zs n j < left T S zs n
  · rw [if_pos a, if_pos (by omega)]
    exact Nat.le_refl _
  · rw [if_neg a]
    omega
/-- a greater weight never gets less -/
theorem part_more {i j : Nat} (S0 : 0 < S) (h : zs j < zs i) (h0 : 0 ≤ zs j) : part T S zs n j ≤ part T S zs n i := by
  have hz : (zs j).toNat < (zs i).toNat := by omega
  have hm : T * (zs j).toNat ≤ T * (zs i).toNat := Nat.mul_le_mul_left _ (by omega)
  have hq : qf T S zs j ≤ qf T S zs i := Nat.div_le_div_right hm
  by_cases e : qf T S zs j = qf T S zs i
  · rcases Nat.eq_zero_or_pos T with hT | hT
    · subst hT
      have a : ∀ k, part 0 S zs n k = 0 + if cnt 0 S zs n k < left 0 S zs n then 1 else 0 := fun k => by unfold part qf; simp
      have l0 : left 0 S zs n = 0 := by unfold left; omega
      rw [a, a, l0]
      simp
    · refine part_mono e (.inl ?_)
      show rf T S zs j < rf T S zs i
      have h1 := Nat.div_add_mod (T * (zs j).toNat) S
      have h2 := Nat.div_add_mod (T * (zs i).toNat) S
      have h3 : T * (zs j).toNat < T * (zs i).toNat := Nat.mul_lt_mul_of_pos_left hz hT
      have e' : T * (zs j).toNat / S = T * (zs i).toNat / S := e
      rw [e'] at h1
      unfold rf
      omega
  · have : part T S zs n j ≤ qf T S zs j + 1 := by unfold part; split <;> omega
    have : qf T S zs i ≤ part T S zs n i := by unfold part; omega
    omega
/-- of equal ones the earlier one never gets less -/
theorem part_same {i j : Nat} (hij : j < i) (h : zs i = zs j) : part T S zs n i ≤ part T S zs n j := by
  have hq : qf T S zs i = qf T S zs j := by unfold qf; rw [h]
  have hr : rf T S zs i = rf T S zs j := by unfold rf; rw [h]
  refine part_mono hq (.inr ⟨?_, ?_⟩)
  · show rf T S zs j = rf T S zs i
    exact hr.symm
  · show (j : Int) < (i : Int)
    omega
end
end Go.Proofs.Ytddpladmkmpoaaa
