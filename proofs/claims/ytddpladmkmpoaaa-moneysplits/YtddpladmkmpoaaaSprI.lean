/- A region that draws its order, by what holds at each state of its list. -/
import Derived.Deep.RegionHeld3
namespace Go.Proofs.Ytddpladmkmpoaaa
open Go
theorem wpAnyH_inv {P : Program} {md : Region.Mode} {ops : Array Oper} {Q : Exit → Act → World → Prop} {S : World → Prop} (Inv : Array Bool → Act → World → Prop)
    (hstep : ∀ listed a w, Inv listed a w → ∀ i ∈ Region.ready md ops listed, wpOp P ops Q i (fun a' w' => S w' ∧ Inv (listed.setIfInBounds i true) a' w') a w)
    (hdone : ∀ listed a w, Inv listed a w → Region.ready md ops listed = [] → Q .normal a w) (hlen : ∀ listed a w, Inv listed a w → ∀ i ∈ Region.ready md ops listed, listed.getD i true = false) :
    ∀ (fuel : Nat) (listed : Array Bool) (a : Act) (w : World), listed.count false ≤ fuel → Inv listed a w → wpAnyH P md ops Q S fuel listed a w
  | 0, listed, a, w, hf, hi => by
    have hr : Region.ready md ops listed = [] := by
      cases hr : Region.ready md ops listed with
      | nil => rfl
      | cons i r =>
        have h1 := hlen listed a w hi i (by rw [hr]; exact List.mem_cons_self)
        have h2 : false ∈ listed := by
          rcases Nat.lt_or_ge i listed.size with h' | h'
          · simp [h'] at h1
            rw [← h1]
            exact Array.getElem_mem h'
          · simp [h'] at h1
        have := Array.count_pos_iff.2 h2
        omega
    exact ⟨hr, hdone listed a w hi hr⟩
  | fuel + 1, listed, a, w, hf, hi => by
    refine ⟨hdone listed a w hi, fun i hir => wpOp_mono (fun a' w' h' => ⟨h'.1, ?_⟩) (hstep listed a w hi i hir)⟩
    refine wpAnyH_inv Inv hstep hdone hlen fuel _ a' w' ?_ h'.2
    have h1 := hlen listed a w hi i hir
    rcases Nat.lt_or_ge i listed.size with h | h
    · have h1' : listed[i] = false := by simpa [h] using h1
      have := Array.count_set (xs := listed) (i := i) (a := true) (b := false) h
      rw [Array.setIfInBounds, dif_pos h]
      simp [h1'] at this
      omega
    · simp [h] at h1
theorem ready_not {md : Region.Mode} {ops : Array Oper} {listed : Array Bool} : ∀ i ∈ Region.ready md ops listed, listed.getD i true = false := by
  intro i hi
  unfold Region.ready at hi
  have := (List.mem_filter.1 hi).2
  simp only [Bool.and_eq_true, Bool.not_eq_true'] at this
  exact this.1
end Go.Proofs.Ytddpladmkmpoaaa
