/- aged: an invoice and its ages as plain numbers. -/
import Derived.Test.YtildpgfhahmgmaaDoorChecked
namespace Go.Proofs.YtildpgfhahmgmaaDoor
set_option linter.unusedVariables false
/-- an invoice -/
structure Cl where
  key : ByteArray
  acc : ByteArray
  day : Int
  due : Int
  amt : Int
/-- what was allotted to it: days and amounts -/
abbrev Pts := List (Int × Int)
def sumTo (P : Pts) (t : Int) : Int := P.foldr (fun p x => (if p.1 ≤ t then p.2 else 0) + x) 0
def sumAll (P : Pts) : Int := P.foldr (fun p x => p.2 + x) 0
def stepsL : List Int := [1, 31, 61, 91]
def ageOf (due t : Int) : Int := stepsL.foldr (fun n x => (if t - due ≥ n then 1 else 0) + x) 0
/-- what an invoice puts into its account's ages at a day: its age, what is open -/
def shr (c : Cl) (P : Pts) (t : Int) : Int × Int := if t < c.day then (0, 0) else (ageOf c.due t, c.amt - sumTo P t)
/-- the days on which that changes -/
def trn (c : Cl) (P : Pts) : List Int := c.day :: (stepsL.map fun n => c.due + n) ++ P.map (·.1)
theorem sumTo_nil (t : Int) : sumTo [] t = 0 := rfl
theorem sumTo_cons (p : Int × Int) (P : Pts) (t : Int) : sumTo (p :: P) t = (if p.1 ≤ t then p.2 else 0) + sumTo P t := rfl
theorem sumTo_append (P Q : Pts) (t : Int) : sumTo (P ++ Q) t = sumTo P t + sumTo Q t := by
  induction P with
  | nil => rw [List.nil_append, sumTo_nil, Int.zero_add]
  | cons p P ih => rw [List.cons_append, sumTo_cons, sumTo_cons, ih]; omega
theorem sumTo_bounds {P : Pts} (h : ∀ p ∈ P, 1 ≤ p.2) (t : Int) : 0 ≤ sumTo P t ∧ sumTo P t ≤ sumAll P := by
  induction P with
  | nil => exact ⟨Int.le_refl _, Int.le_refl _⟩
  | cons p P ih =>
    have h1 := ih (fun q hq => h q (List.mem_cons_of_mem _ hq))
    have h2 := h p List.mem_cons_self
    have e : sumAll (p :: P) = p.2 + sumAll P := rfl
    rw [sumTo_cons, e]
    split <;> omega
theorem sumTo_same {P : Pts} {t u : Int} (htu : t ≤ u) (h : ∀ p ∈ P, ¬ (t < p.1 ∧ p.1 ≤ u)) : sumTo P t = sumTo P u := by
  induction P with
  | nil => rfl
  | cons p P ih =>
    have h1 := h p List.mem_cons_self
    rw [sumTo_cons, sumTo_cons, ih (fun q hq => h q (List.mem_cons_of_mem _ hq))]
    by_cases hp : p.1 ≤ t
    · rw [if_pos hp, if_pos (by omega)]
    · rw [if_neg hp, if_neg (by omega)]
theorem ageOf_same {due t u : Int} (htu : t ≤ u) (h : ∀ n ∈ stepsL, ¬ (t < due + n ∧ due + n ≤ u)) : ageOf due t = ageOf due u := by
  have h1 := h 1 (by decide)
  have h2 := h 31 (by decide)
  have h3 := h 61 (by decide)
  have h4 := h 91 (by decide)
  simp only [ageOf, stepsL, List.foldr]
  have e : ∀ n : Int, ¬ (t < due + n ∧ due + n ≤ u) → (if t - due ≥ n then (1 : Int) else 0) = if u - due ≥ n then 1 else 0 := fun n hn => by
    by_cases ht : t - due ≥ n
    · rw [if_pos ht, if_pos (by omega)]
    · rw [if_neg ht, if_neg (by omega)]
  rw [e 1 h1, e 31 h2, e 61 h3, e 91 h4]
theorem ageOf_bounds (due t : Int) : 0 ≤ ageOf due t ∧ ageOf due t ≤ 4 := by
  simp only [ageOf, stepsL, List.foldr]
  repeat' split
  all_goals omega
/-- with no turn from one day to another all is as it was -/
theorem shr_same {c : Cl} {P : Pts} {t u : Int} (htu : t ≤ u) (h : ∀ x ∈ trn c P, ¬ (t < x ∧ x ≤ u)) : shr c P t = shr c P u := by
  have hd := h c.day (by simp [trn])
  have ha : ageOf c.due t = ageOf c.due u := ageOf_same htu fun n hn => h (c.due + n) (by
    simp only [trn, List.mem_append, List.mem_cons]
    exact .inl (.inr (List.mem_map.2 ⟨n, hn, rfl⟩)))
  have hs : sumTo P t = sumTo P u := sumTo_same htu fun p hp => h p.1 (by
    simp only [trn, List.mem_append]
    exact .inr (List.mem_map.2 ⟨p, hp, rfl⟩))
  unfold shr
  by_cases h1 : t < c.day
  · rw [if_pos h1, if_pos (by omega)]
  · rw [if_neg h1, if_neg (by omega), ha, hs]
/-- what is open is never below 0 and never more than it was -/
theorem shr_bounds {c : Cl} {P : Pts} (h : ∀ p ∈ P, 1 ≤ p.2) (hs : sumAll P ≤ c.amt) (h0 : 0 ≤ c.amt) (t : Int) : 0 ≤ (shr c P t).2 ∧ (shr c P t).2 ≤ c.amt ∧ 0 ≤ (shr c P t).1 ∧ (shr c P t).1 ≤ 4 := by
  have h1 := sumTo_bounds h t
  have h2 := ageOf_bounds c.due t
  unfold shr
  split
  · exact ⟨by simp, by simpa using h0, by simp, by simp⟩
  · simp only
    omega
end Go.Proofs.YtildpgfhahmgmaaDoor
