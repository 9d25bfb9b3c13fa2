/- Plain numbers: whom a choosing, round by round, of the greatest rest that is left gives one more. Nothing of the program but the shares' order. -/
import Derived.Test.YtddpladmkmpoaaaShaM
namespace Go.Proofs.Ytddpladmkmpoaaa
set_option linter.unusedVariables false
theorem ahd_less {x y : Sh} (h : lts x y) : ∀ (l : List Sh), x ∈ l → ahd l x < ahd l y
  | [], hx => by cases hx
  | z :: r, hx => by
    rw [ahd_cons, ahd_cons]
    rcases List.mem_cons.1 hx with e | e
    · subst e
      have := ahd_lt (l := r) h
      rw [if_neg (lts_irr x), if_pos h]
      omega
    · have := ahd_less h r e
      by_cases hz : lts z x
      · rw [if_pos hz, if_pos (lts_trans hz h)]; omega
      · rw [if_neg hz]; omega
theorem count_more (gv : Nat → Bool) (b : Nat) (hg : gv b = false) : ∀ n, (List.range n).countP (fun i => if i = b then true else gv i) = (List.range n).countP gv + if b < n then 1 else 0
  | 0 => by simp
  | n + 1 => by
    rw [List.range_succ, List.countP_append, List.countP_append, count_more gv b hg n]
    by_cases h : n = b
    · subst h
      simp [hg]
    · have e : (if b < n + 1 then 1 else 0) = (if b < n then 1 else 0) := by
        by_cases h' : b < n
        · rw [if_pos h', if_pos (by omega)]
        · rw [if_neg h', if_neg (by omega)]
      rw [e]
      simp [h]
      omega
section
variable {T S n m : Nat} {zs : Nat → Int} {gv : Nat → Bool}
theorem lts_two {i j : Nat} (h : i ≠ j) : lts (shf T S zs i) (shf T S zs j) ∨ lts (shf T S zs j) (shf T S zs i) := by
  unfold lts shf
  simp only
  omega
theorem cnt_is (T S : Nat) (zs : Nat → Int) (n b : Nat) : cnt T S zs n b = (List.range n).countP (fun i => decide (lts (shf T S zs i) (shf T S zs b))) := by
  unfold cnt ahd allS
  rw [List.countP_map]
  rfl
theorem cnt_less {i b : Nat} (hb : b < n) (h : lts (shf T S zs b) (shf T S zs i)) : cnt T S zs n b < cnt T S zs n i :=
  ahd_less h _ (List.mem_map.2 ⟨b, List.mem_range.2 hb, rfl⟩)
/-- after m rounds: those with fewer than m ahead are given one, m in all -/
structure Giv (T S : Nat) (zs : Nat → Int) (n m : Nat) (gv : Nat → Bool) : Prop where
  is : ∀ i, i < n → (gv i = true ↔ cnt T S zs n i < m)
  num : (List.range n).countP gv = m
theorem Giv.zero (T S : Nat) (zs : Nat → Int) (n : Nat) : Giv T S zs n 0 (fun _ => false) := ⟨fun i _ => by simp, by simp⟩
theorem Giv.step (h : Giv T S zs n m gv) {b : Nat} (hb : b < n) (hg : gv b = false) (hm : ∀ i, i < n → gv i = false → i ≠ b → lts (shf T S zs b) (shf T S zs i)) : Giv T S zs n (m + 1) (fun i => if i = b then true else gv i) := by
  have hmb : ¬ cnt T S zs n b < m := fun h' => by have := (h.is b hb).2 h'; rw [hg] at this; cases this
  have hc : cnt T S zs n b = m := by
    rw [cnt_is, ← h.num]
    apply List.countP_congr
    intro i hi
    have hi' : i < n := List.mem_range.1 hi
    cases hgi : gv i with
    | true =>
      have h1 := (h.is i hi').1 hgi
      have hne : i ≠ b := fun e => by rw [e, hg] at hgi; cases hgi
      rcases lts_two (T := T) (S := S) (zs := zs) hne with h2 | h2
      · simp [h2]
      · have := cnt_less hb h2
        omega
    | false =>
      by_cases e : i = b
      · subst e
        simp [lts_irr]
      · have := lts_asym (hm i hi' hgi e)
        simp [this]
  refine ⟨fun i hi => ?_, ?_⟩
  · by_cases e : i = b
    · subst e
      simp
      omega
    · simp only [if_neg e]
      cases hgi : gv i with
      | true =>
        have := (h.is i hi).1 hgi
        simp
        omega
      | false =>
        have := cnt_less hb (hm i hi hgi e)
        simp
        omega
  · rw [count_more gv b hg, h.num, if_pos hb]
/-- the best so far, among the first i -/
def Best (T S : Nat) (zs : Nat → Int) (gv : Nat → Bool) (i : Nat) : Option Nat → Prop
  | none => ∀ j, j < i → gv j = true
  | some b => b < i ∧ gv b = false ∧ ∀ j, j < i → gv j = false → j ≠ b → lts (shf T S zs b) (shf T S zs j)
theorem Best.zero (T S : Nat) (zs : Nat → Int) (gv : Nat → Bool) : Best T S zs gv 0 none := fun j hj => by omega
theorem Best.given {i : Nat} {o : Option Nat} (h : Best T S zs gv i o) (hg : gv i = true) : Best T S zs gv (i + 1) o := by
  cases o with
  | none =>
    intro j hj
    by_cases e : j = i
    · rw [e]; exact hg
    · exact h j (by omega)
  | some b =>
    refine ⟨by have := h.1; omega, h.2.1, fun j hj hgj hne => ?_⟩
    by_cases e : j = i
    · rw [e, hg] at hgj; cases hgj
    · exact h.2.2 j (by omega) hgj hne
theorem Best.first {i : Nat} (h : Best T S zs gv i none) (hg : gv i = false) : Best T S zs gv (i + 1) (some i) :=
  ⟨by omega, hg, fun j hj hgj hne => by have := h j (by omega); rw [hgj] at this; cases this⟩
theorem Best.keep {i b : Nat} (h : Best T S zs gv i (some b)) (hr : ¬ rf T S zs b < rf T S zs i) : Best T S zs gv (i + 1) (some b) := by
  refine ⟨by have := h.1; omega, h.2.1, fun j hj hgj hne => ?_⟩
  by_cases e : j = i
  · subst e
    have := h.1
    unfold lts shf
    simp only
    omega
  · exact h.2.2 j (by omega) hgj hne
theorem Best.take {i b : Nat} (h : Best T S zs gv i (some b)) (hg : gv i = false) (hr : rf T S zs b < rf T S zs i) : Best T S zs gv (i + 1) (some i) := by
  have hib : lts (shf T S zs i) (shf T S zs b) := by unfold lts shf; simp only; omega
  refine ⟨by omega, hg, fun j hj hgj hne => ?_⟩
  by_cases e : j = b
  · rw [e]; exact hib
  · exact lts_trans hib (h.2.2 j (by omega) hgj e)
theorem Best.there (h : Giv T S zs n m gv) (hm : m < n) : ¬ Best T S zs gv n none := fun hb => by
  have : (List.range n).countP gv = n := by
    have e := List.countP_eq_length (l := List.range n) (p := gv) |>.2 (fun i hi => hb i (List.mem_range.1 hi))
    rw [e, List.length_range]
  have := h.num
  omega
end
end Go.Proofs.Ytddpladmkmpoaaa
