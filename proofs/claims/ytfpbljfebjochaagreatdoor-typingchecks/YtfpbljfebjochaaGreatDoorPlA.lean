/- typing: isBareSum 25. -/
import Derived.Test.YtfpbljfebjochaaGreatDoorMoN
namespace Go.Proofs.YtfpbljfebjochaaGreatDoor
open Go Go.Shelf Go.ChangeShapes Go.WideShapes Go.ChangeAt Go.RowKit Go.Maps
set_option linter.unusedVariables false
set_option maxRecDepth 100000
set_option maxHeartbeats 8000000
theorem rec_nz {op a b : Int} (h : recS op a b ≠ 0) : a ≠ 0 ∧ b ≠ 0 := by
  by_cases hh : ∃ k, k < 11 ∧ rHit k op a b
  · obtain ⟨k, hk, h1, h2, h3⟩ := hh
    rw [← h2, ← h3]
    match k, hk with
    | 0, _ => exact ⟨by decide, by decide⟩
    | 1, _ => exact ⟨by decide, by decide⟩
    | 2, _ => exact ⟨by decide, by decide⟩
    | 3, _ => exact ⟨by decide, by decide⟩
    | 4, _ => exact ⟨by decide, by decide⟩
    | 5, _ => exact ⟨by decide, by decide⟩
    | 6, _ => exact ⟨by decide, by decide⟩
    | 7, _ => exact ⟨by decide, by decide⟩
    | 8, _ => exact ⟨by decide, by decide⟩
    | 9, _ => exact ⟨by decide, by decide⟩
    | 10, _ => exact ⟨by decide, by decide⟩
  · exact absurd (rec_none (fun j hj hr => hh ⟨j, hj, hr⟩)) h
theorem alike_nz {a b : Int} (h : alike a b = true) : a ≠ 0 ∧ b ≠ 0 := by
  unfold alike at h
  by_cases e : a = b
  · rw [if_pos e] at h
    have : a ≠ 0 := by simpa using h
    exact ⟨this, by rw [← e]; exact this⟩
  · rw [if_neg e] at h
    simp only [Bool.or_eq_true, Bool.and_eq_true, beq_iff_eq] at h
    omega
theorem tif_nz {b : Bool} {t : Int} (h : tif b t ≠ 0) : b = true := by
  cases b
  · exact absurd rfl h
  · rfl
theorem pr_nz {op a b : Int} (h : prS op a b ≠ 0) : a ≠ 0 ∧ b ≠ 0 := by
  unfold prS at h
  split at h
  · have := tif_nz h
    simp only [Bool.and_eq_true, beq_iff_eq] at this
    omega
  · split at h
    · exact alike_nz (tif_nz h)
    · split at h
      · have := tif_nz h
        rw [Bool.and_eq_true] at this
        exact alike_nz this.1
      · split at h
        · have := tif_nz h
          simp only [Bool.and_eq_true, beq_iff_eq] at this
          omega
        · exact rec_nz h
theorem tat_nz {T : List Int} {i : Int} (h : tat T i ≠ 0) : 0 ≤ i ∧ i < (T.length : Int) := by
  unfold tat at h
  split at h
  · exact absurd rfl h
  · omega
attribute [local go_sem ↓] ld32_is ld37_is ld45_is
end Go.Proofs.YtfpbljfebjochaaGreatDoor
