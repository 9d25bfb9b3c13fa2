import Derived.Test.YtddpladmkmpoaaaDoorRouA
import Derived.Test.YtddpladmkmpoaaaDoorRouN
namespace Go.Proofs.YtddpladmkmpoaaaDoor
set_option linter.unusedVariables false
theorem ratio_val (a n d : Int) (k : Nat) (hk : k < 6) (hd : 1 ≤ d) (ha : isMin a = false) (hn : isMin n = false) : ratioSpec a n d k = if rq k (opp a n) (a.natAbs * n.natAbs) d.natAbs < 9223372036854775808 then (sg (opp a n) (rq k (opp a n) (a.natAbs * n.natAbs) d.natAbs), 0) else (0, 11) := by
  unfold ratioSpec sg
  rw [if_neg (by omega), ha, hn]
  simp
theorem ratio_ok (a n d : Int) (k : Nat) (hk : k < 6) (hd : 1 ≤ d) (ha : isMin a = false) (hn : isMin n = false) (h : (ratioSpec a n d k).2 = 0) : rq k (opp a n) (a.natAbs * n.natAbs) d.natAbs < 9223372036854775808 ∧ (ratioSpec a n d k).1 = sg (opp a n) (rq k (opp a n) (a.natAbs * n.natAbs) d.natAbs) := by
  rw [ratio_val a n d k hk hd ha hn] at h ⊢
  by_cases hc : rq k (opp a n) (a.natAbs * n.natAbs) d.natAbs < 9223372036854775808
  · rw [if_pos hc]
    exact ⟨hc, rfl⟩
  · rw [if_neg hc] at h
    cases h
theorem rq_zero (k : Int) (o : Bool) (T D : Nat) (h : T % D = 0) : rq k o T D = T / D := by
  simp [rq, stepB, h]
theorem ratio_self (a d : Int) (k : Nat) (hk : k < 6) (hd : 1 ≤ d) (ha1 : -9223372036854775807 ≤ a) (ha2 : a ≤ 9223372036854775807) (ha : isMin a = false) (hn : isMin d = false) : ratioSpec a d d k = (a, 0) := by
  have h0 : (a.natAbs * d.natAbs) % d.natAbs = 0 := Nat.mul_mod_left _ _
  have h1 : (a.natAbs * d.natAbs) / d.natAbs = a.natAbs := Nat.mul_div_cancel _ (by omega)
  rw [ratio_val a d d k hk hd ha hn, rq_zero _ _ _ _ h0, h1, if_pos (by omega)]
  have ho : opp a d = decide (a < 0) := by
    unfold opp
    rw [decide_eq_false (show ¬ d < 0 by omega)]
    simp
  rw [ho]
  unfold sg
  by_cases h : a < 0
  · simp [h]
    omega
  · simp [h]
    omega
theorem sg_not (o : Bool) (x : Nat) : sg (!o) x = - sg o x := by cases o <;> simp [sg]
theorem sg_zero (o : Bool) : sg o 0 = 0 := by cases o <;> simp [sg]
/-- the opposite's six -/
theorem ratio_opp (a n d : Int) (k j : Nat) (hk : k < 6) (hj : j < 6) (hkj : k = 0 ∧ j = 0 ∨ k = 1 ∧ j = 1 ∨ k = 2 ∧ j = 3 ∨ k = 3 ∧ j = 2 ∨ k = 4 ∧ j = 4 ∨ k = 5 ∧ j = 5) (hd : 1 ≤ d) (ha : isMin a = false) (ham : isMin (-a) = false) (hn : isMin n = false) (h : (ratioSpec a n d j).2 = 0) :
    ratioSpec (-a) n d k = (-(ratioSpec a n d j).1, 0) := by
  obtain ⟨h1, h2⟩ := ratio_ok a n d j hj hd ha hn h
  rw [ratio_val (-a) n d k hk hd ham hn, h2, Int.natAbs_neg]
  by_cases hT : a.natAbs * n.natAbs = 0
  · rw [hT, rq_zero _ _ _ _ (Nat.zero_mod _), rq_zero _ _ _ _ (Nat.zero_mod _), Nat.zero_div, if_pos (by decide), sg_zero, sg_zero]
    rfl
  · have ho : opp (-a) n = !opp a n := by
      have : a ≠ 0 := by
        intro h
        subst h
        simp at hT
      unfold opp
      by_cases h3 : a < 0
      · rw [decide_eq_true h3, decide_eq_false (show ¬ -a < 0 by omega)]
        cases decide (n < 0) <;> rfl
      · rw [decide_eq_false h3, decide_eq_true (show -a < 0 by omega)]
        cases decide (n < 0) <;> rfl
    have six := six_opp (opp a n) (a.natAbs * n.natAbs) d.natAbs (by omega)
    have e : rq k (!opp a n) (a.natAbs * n.natAbs) d.natAbs = rq j (opp a n) (a.natAbs * n.natAbs) d.natAbs := by
      rcases hkj with ⟨rfl, rfl⟩ | ⟨rfl, rfl⟩ | ⟨rfl, rfl⟩ | ⟨rfl, rfl⟩ | ⟨rfl, rfl⟩ | ⟨rfl, rfl⟩
      · exact six.1
      · exact six.2.1
      · exact six.2.2.1
      · exact six.2.2.2.1
      · exact six.2.2.2.2.1
      · exact six.2.2.2.2.2
    rw [ho, e, if_pos h1, sg_not]
end Go.Proofs.YtddpladmkmpoaaaDoor
