import Derived.Test.YtddpladmkmpoaaaDoorFirD
namespace Go.Proofs.YtddpladmkmpoaaaDoor
set_option linter.unusedVariables false
def sg (o : Bool) (x : Nat) : Int := if o then -(x : Int) else x
/-- the six sizes of a ratio -/
structure SixV (o : Bool) (q : Nat) (v : Nat → Nat) : Prop where
  down : v 0 = q
  up : v 1 = q ∨ v 1 = q + 1
  fl : v 2 = if o then v 1 else q
  ce : v 3 = if o then q else v 1
  ha : v 4 = q ∨ v 4 = v 1
  ev : v 5 = q ∨ v 5 = v 1
  he : v 4 = v 5 ∨ v 4 % 2 = 1
theorem six (o : Bool) (T D : Nat) (hD : 1 ≤ D) : SixV o (T / D) (fun k => rq (k : Int) o T D) := by
  generalize hq : T / D = q
  generalize hr : T % D = r
  have hr2 : r < D := by rw [← hr]; exact Nat.mod_lt _ (by omega)
  refine ⟨?_, ?_, ?_, ?_, ?_, ?_, ?_⟩ <;> simp [rq, stepB, awayB, hq, hr] <;> cases o <;> by_cases h0 : r = 0 <;> by_cases h1 : D ≤ r + r <;> by_cases h2 : D < r + r <;> by_cases h3 : q % 2 = 1 <;> simp [h0, h1, h2, h3] <;> omega
/-- how the six stand to one another -/
theorem SixV.law {o : Bool} {q : Nat} {v : Nat → Nat} (h : SixV o q v) :
    sg o (v 2) ≤ sg o (v 3) ∧ sg o (v 3) - sg o (v 2) ≤ 1 ∧ (sg o (v 0) = sg o (v 1) ↔ sg o (v 2) = sg o (v 3)) ∧ (∀ i, i < 6 → sg o (v 2) ≤ sg o (v i) ∧ sg o (v i) ≤ sg o (v 3)) ∧
    (sg o (v 0) < 0 → sg o (v 0) = sg o (v 3)) ∧ (0 < sg o (v 0) → sg o (v 0) = sg o (v 2)) ∧ (sg o (v 4) ≠ sg o (v 5) → (sg o (v 4)).tmod 2 ≠ 0) := by
  obtain ⟨h0, h1, h2, h3, h4, h5, h6⟩ := h
  have hm : ∀ x : Nat, (x : Int).tmod 2 = ((x % 2 : Nat) : Int) := fun x => by rw [Int.tmod_eq_emod_of_nonneg (by omega)]; omega
  have hm2 : ∀ x : Nat, (-(x : Int)).tmod 2 = -((x % 2 : Nat) : Int) := fun x => by rw [Int.neg_tmod, hm]
  have all : ∀ i, i < 6 → v i = q ∨ v i = v 1 := by
    intro i hi
    have : i = 0 ∨ i = 1 ∨ i = 2 ∨ i = 3 ∨ i = 4 ∨ i = 5 := by omega
    rcases this with rfl | rfl | rfl | rfl | rfl | rfl
    · exact Or.inl h0
    · exact Or.inr rfl
    · rw [h2]; cases o <;> simp
    · rw [h3]; cases o <;> simp
    · exact h4
    · exact h5
  cases o
  · simp only [sg, Bool.false_eq_true, if_false] at *
    refine ⟨by omega, by omega, by omega, fun i hi => by have := all i hi; omega, by omega, by omega, fun hne => ?_⟩
    rw [hm]
    omega
  · simp only [sg, if_true] at *
    refine ⟨by omega, by omega, by omega, fun i hi => by have := all i hi; omega, by omega, by omega, fun hne => ?_⟩
    rw [hm2]
    omega
/-- the opposite -/
theorem six_opp (o : Bool) (T D : Nat) (hD : 1 ≤ D) : (rq 0 (!o) T D = rq 0 o T D) ∧ (rq 1 (!o) T D = rq 1 o T D) ∧ (rq 2 (!o) T D = rq 3 o T D) ∧ (rq 3 (!o) T D = rq 2 o T D) ∧ (rq 4 (!o) T D = rq 4 o T D) ∧ (rq 5 (!o) T D = rq 5 o T D) := by
  refine ⟨?_, ?_, ?_, ?_, ?_, ?_⟩ <;> simp [rq, stepB, awayB]

end Go.Proofs.YtddpladmkmpoaaaDoor
