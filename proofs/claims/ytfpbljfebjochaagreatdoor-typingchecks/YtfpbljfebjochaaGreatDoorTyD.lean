/- typing: FieldOf 11. -/
import Derived.Test.YtfpbljfebjochaaGreatDoorTyC
namespace Go.Proofs.YtfpbljfebjochaaGreatDoor
open Go Go.ChangeShapes Go.WideShapes Go.ChangeAt Go.RowKit
set_option linter.unusedVariables false
theorem str_ne {x s : ByteArray} (h : ¬ x = s) : (x.toList == s.toList) = false := by
  rw [ByteArray.toList_eq, ByteArray.toList_eq, beq_eq_false_iff_ne]
  intro e
  apply h
  cases x with
  | mk dx => cases s with
    | mk ds => exact congrArg ByteArray.mk (Array.toList_inj.1 e)
attribute [local go_sem ↓] ld56_is
/-- the document's table of fields, as the call lays it -/
def rwsO : Obj := .cells fldC 151
theorem rows_any (w : World) : Calls Tryz.prog 130 #[] w fun e w' => e = .returned (.slice (some ⟨w.heap.size, 0, none⟩) 15 15) ∧ w' = w.alloc rwsO := by
  unfold rwsO fldC
  go_enter Tryz.func130, Tryz.ntmps130
  go_wp2_with fail
  go_ret
  exact ⟨rfl, rfl⟩
theorem rws_cell (w : World) (i : Nat) : (w.alloc rwsO).cell? ⟨w.heap.size, i, none⟩ = fldC[i]? := by
  unfold rwsO
  simp
theorem rfield_any (w : World) (f : Int) : Calls Tryz.prog 59 #[.int .i64 f] w fun e w' => e = .returned (.tuple #[.string (fldS f).1, .int .i64 (fldS f).2]) ∧ Below w.heap.size w w' := by
  have d := hide (rows_any w)
  have HB := hide ((Below.refl w.heap.size w).alloc (Nat.le_refl _) rwsO)
  by_cases h : isF f = true
  · have h' := h
    rw [isF, Bool.and_eq_true, decide_eq_true_iff, decide_eq_true_iff] at h'
    obtain ⟨k, rfl⟩ : ∃ k : Nat, f = k := ⟨f.toNat, by omega⟩
    have hk : k < 15 := by omega
    have e : fldS k = fldL.getD k (⟨#[]⟩, 0) := by unfold fldS; rw [if_pos h]; rfl
    rw [e]
    obtain ⟨c0, c1⟩ := fldC_at k hk
    have l0 := (rws_cell w (k * 2 + 0)).trans c0
    have l1 := (rws_cell w (k * 2 + 1)).trans c1
    obtain ⟨nm, hnm⟩ : ∃ nm, nm = (fldL.getD k (⟨#[]⟩, 0)).1 := ⟨_, rfl⟩
    obtain ⟨ty, hty⟩ : ∃ ty, ty = (fldL.getD k (⟨#[]⟩, 0)).2 := ⟨_, rfl⟩
    rw [← hnm] at l0 ⊢
    rw [← hty] at l1 ⊢
    simp only [Nat.add_zero] at l0
    have h1 : ¬ (k : Int) < 1 := by omega
    have h2 : ¬ (k : Int) ≥ 15 := by omega
    have h3 : (k : Int) < 15 := by omega
    have h4 : ¬ (k : Int) < 0 := by omega
    obtain ⟨W, hW⟩ : ∃ W, W = w.alloc rwsO := ⟨_, rfl⟩
    rw [← hW] at d l0 l1 HB
    clear hnm hty c0 c1 h e h' hW
    go_enter Tryz.func59, Tryz.ntmps59
    go_wp2_with fail
    refine (unhide d).mono ?_
    rintro e w1 ⟨rfl, hw⟩
    rw [hw]; clear hw w1
    go_wp2_with fail
    go_quiet (fail)
    go_wp2_with fail
    go_ret2
    exact ⟨rfl, below_drewN (unhide HB) _⟩
  · have h' : isF f = false := by simpa using h
    have e : fldS f = (⟨#[]⟩, 0) := by unfold fldS; rw [if_neg h]
    rw [e]
    obtain ⟨W, hW⟩ : ∃ W, W = w.alloc rwsO := ⟨_, rfl⟩
    rw [← hW] at d HB
    clear hW
    by_cases h1 : f < 1
    · go_enter Tryz.func59, Tryz.ntmps59
      go_wp2_with fail
      refine (unhide d).mono ?_
      rintro e w1 ⟨rfl, hw⟩
      rw [hw]; clear hw w1
      go_wp2_with fail
      go_ret2
      exact ⟨rfl, unhide HB⟩
    · have h2 : f ≥ 15 := by
        rw [isF, Bool.and_eq_false_iff, decide_eq_false_iff_not, decide_eq_false_iff_not] at h'
        omega
      go_enter Tryz.func59, Tryz.ntmps59
      go_wp2_with fail
      refine (unhide d).mono ?_
      rintro e w1 ⟨rfl, hw⟩
      rw [hw]; clear hw w1
      go_wp2_with fail
      go_ret2
      exact ⟨rfl, unhide HB⟩
end Go.Proofs.YtfpbljfebjochaaGreatDoor
