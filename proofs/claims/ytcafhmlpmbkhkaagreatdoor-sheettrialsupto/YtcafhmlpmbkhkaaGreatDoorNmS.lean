/- Names are short. -/
import Derived.Test.YtcafhmlpmbkhkaaGreatDoorPthA
namespace Go.Proofs.YtcafhmlpmbkhkaaGreatDoor
set_option linter.unusedVariables false
theorem spl_tot (l : List UInt8) : ((spl l).map fun p => p.length + 1).sum = l.length + 1 := by
  induction l with
  | nil => simp [spl]
  | cons c l ih =>
    by_cases hc : c = 58
    · rw [spl, if_pos hc, List.map_cons, List.sum_cons, ih]
      simp
      omega
    · obtain ⟨h, t, e⟩ := spl_ne l
      rw [e] at ih
      rw [spl_cons hc e]
      simp at ih ⊢
      omega
theorem name_short {l : List UInt8} (h : nameL l = true) : l.length ≤ 101 := by
  unfold nameL at h
  simp only [Bool.and_eq_true, decide_eq_true_eq, List.all_eq_true] at h
  have h1 := spl_tot l
  have h2 : ∀ ps : List (List UInt8), (∀ p ∈ ps, p.length ≤ 16) → (ps.map fun p => p.length + 1).sum ≤ ps.length * 17 := fun ps => by
    induction ps with
    | nil => simp
    | cons p ps ih =>
      intro hp
      have a1 := ih (fun q hq => hp q (List.mem_cons_of_mem _ hq))
      have a2 := hp p (List.mem_cons_self ..)
      simp at a1 ⊢
      omega
  have h3 := h2 (spl l) (fun p hp => by
    have := h.2 p hp
    unfold partL at this
    simp only [Bool.and_eq_true, decide_eq_true_eq] at this
    exact this.1.1.2)
  have h4 := spl_len l
  rw [h1] at h3
  omega
end Go.Proofs.YtcafhmlpmbkhkaaGreatDoor
