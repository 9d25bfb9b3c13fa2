/- typing: FieldOf 11. -/
import Derived.Test.YtcelllihidkphaaDoorTyC
namespace Go.Proofs.YtcelllihidkphaaDoor
open Go Go.ChangeShapes Go.WideShapes Go.ChangeAt Go.RowKit
set_option linter.unusedVariables false
theorem str_ne {x s : ByteArray} (h : ¬ x = s) : (x.toList == s.toList) = false := by
  rw [ByteArray.toList_eq, ByteArray.toList_eq, beq_eq_false_iff_ne]
  intro e
  apply h
  cases x with
  | mk dx => cases s with
    | mk ds => exact congrArg ByteArray.mk (Array.toList_inj.1 e)
attribute [local go_sem ↓] ld56_is
set_option maxRecDepth 100000 in
set_option maxHeartbeats 4000000 in
theorem fieldOf_any {w : World} (hT : Flds w) (nm : ByteArray) : Calls Tryd.prog 11 #[.string nm] w fun e w' => e = .returned (.tuple #[.int .i64 (fofS nm).1, .bool (fofS nm).2]) ∧ Below w.heap.size w w' := by
  have hld := run_ld56 hT
  have d := hide isField_any
  clear hT
  go_enter Tryd.func11, Tryd.ntmps11
  go_wp2_with fail
  go_loopw [7] (fun v wr => ∃ (k : Nat), v = .int .i64 k ∧ k ≤ 15 ∧ Hid (Below w.heap.size w wr ∧ ∀ j, 1 ≤ j → j < k → ¬ nmA j = nm)) (fun v _ => 15 - (intOf v).toNat)
  case atStart => exact ⟨0, rfl, by omega, Below.refl _ _, fun j _ h => by omega⟩
  case round =>
    obtain ⟨k, rfl, hk, hrel⟩ := hrel
    by_cases hlt : k < 15
    · have hix := ix56 k hlt
      have hlt' : (k : Int) < 15 := by omega
      obtain ⟨nk, hnk⟩ : ∃ nk, nk = nmA k := ⟨_, rfl⟩
      obtain ⟨tk, htk⟩ : ∃ tk, tk = tyA k := ⟨_, rfl⟩
      rw [← hnk, ← htk] at hix
      have HNK := hide hnk
      clear hnk htk
      by_cases h0 : 1 ≤ k
      · have df : isF (k : Int) = true := by unfold isF; rw [Bool.and_eq_true, decide_eq_true_iff, decide_eq_true_iff]; omega
        have d2 := hide (isField_any (k : Int))
        rw [df] at d2
        by_cases he : nk = nm
        · have hfin := hide (fof_hit h0 hlt ((unhide HNK).symm.trans he) (unhide hrel).2)
          subst he
          go_wp2_with fail
          refine (unhide d2 _).mono ?_
          rintro e w1 ⟨rfl, hw⟩
          rw [hw]; clear hw w1
          go_wp2_with fail
          go_ret2
          exact ⟨by rw [unhide hfin]; rfl, (unhide hrel).1.alloc (unhide hrel).1.size _⟩
        · have hb := str_ne he
          go_wp2_with fail
          refine (unhide d2 _).mono ?_
          rintro e w1 ⟨rfl, hw⟩
          rw [hw]; clear hw w1
          go_wp2_with fail
          refine ⟨⟨k + 1, by go_num, by omega, (unhide hrel).1.alloc (unhide hrel).1.size _, fun j h1 h2 => ?_⟩, by simp [intOf]; omega⟩
          by_cases hj : j = k
          · subst hj; rw [← unhide HNK]; exact he
          · exact (unhide hrel).2 j h1 (by omega)
      · have hk0 : k = 0 := by omega
        subst hk0
        have d2 := hide (isField_any 0)
        have hix0 := hix
        simp only [Int.natCast_zero] at hix0
        go_wp2_with fail
        refine (unhide d2 _).mono ?_
        rintro e w1 ⟨rfl, hw⟩
        rw [hw]; clear hw w1
        have df : isF 0 = false := rfl
        go_wp2_with fail
        refine ⟨⟨1, by go_num, by omega, (unhide hrel).1.alloc (unhide hrel).1.size _, fun j h1 h2 => by omega⟩, by simp [intOf]⟩
    · have hkn : k = 15 := by omega
      subst hkn
      have hfin := hide (fof_none (unhide hrel).2)
      go_wp2_with fail
      go_ret2
      exact ⟨by rw [unhide hfin]; rfl, (unhide hrel).1⟩

/-- the document's table of fields, as the call lays it -/
def rwsO : Obj := .cells fldC 60
theorem rows_any (w : World) : Calls Tryd.prog 25 #[] w fun e w' => e = .returned (.slice (some ⟨w.heap.size, 0, none⟩) 15 15) ∧ w' = w.alloc rwsO := by
  unfold rwsO fldC
  go_enter Tryd.func25, Tryd.ntmps25
  go_wp2_with fail
  go_ret
  exact ⟨rfl, rfl⟩
theorem rws_cell (w : World) (i : Nat) : (w.alloc rwsO).cell? ⟨w.heap.size, i, none⟩ = fldC[i]? := by
  unfold rwsO
  simp
theorem rfield_any (w : World) (f : Int) : Calls Tryd.prog 10 #[.int .i64 f] w fun e w' => e = .returned (.tuple #[.string (fldS f).1, .int .i64 (fldS f).2]) ∧ Below w.heap.size w w' := by
  have d := hide (rows_any w)
  have HB := hide ((Below.refl w.heap.size w).alloc (Nat.le_refl _) rwsO)
  by_cases h : isF f = true
  · have h' := h
    rw [isF, Bool.and_eq_true, decide_eq_true_iff, decide_eq_true_iff] at h'
    obtain ⟨k, rfl⟩ : ∃ k : Nat, f = k := ⟨f.toNat, by omega⟩
    have hk : k < 15 := by omega
    have e : fldS k = fldL.getD k (⟨#[]⟩, 0) := by unfold fldS; rw [if_pos h]; rfl
    rw [e]
    obtain ⟨c0, c1⟩ := fldC_at k hk
    have l0 := (rws_cell w (k * 2 + 0)).trans c0
    have l1 := (rws_cell w (k * 2 + 1)).trans c1
    obtain ⟨nm, hnm⟩ : ∃ nm, nm = (fldL.getD k (⟨#[]⟩, 0)).1 := ⟨_, rfl⟩
    obtain ⟨ty, hty⟩ : ∃ ty, ty = (fldL.getD k (⟨#[]⟩, 0)).2 := ⟨_, rfl⟩
    rw [← hnm] at l0 ⊢
    rw [← hty] at l1 ⊢
    simp only [Nat.add_zero] at l0
    have h1 : ¬ (k : Int) < 1 := by omega
    have h2 : ¬ (k : Int) ≥ 15 := by omega
    have h3 : (k : Int) < 15 := by omega
    have h4 : ¬ (k : Int) < 0 := by omega
    obtain ⟨W, hW⟩ : ∃ W, W = w.alloc rwsO := ⟨_, rfl⟩
    rw [← hW] at d l0 l1 HB
    clear hnm hty c0 c1 h e h' hW
    go_enter Tryd.func10, Tryd.ntmps10
    go_wp2_with fail
    refine (unhide d).mono ?_
    rintro e w1 ⟨rfl, hw⟩
    rw [hw]; clear hw w1
    go_wp2_with fail
    go_quiet (fail)
    go_wp2_with fail
    go_ret2
    exact ⟨rfl, below_drewN (unhide HB) _⟩
  · have h' : isF f = false := by simpa using h
    have e : fldS f = (⟨#[]⟩, 0) := by unfold fldS; rw [if_neg h]
    rw [e]
    obtain ⟨W, hW⟩ : ∃ W, W = w.alloc rwsO := ⟨_, rfl⟩
    rw [← hW] at d HB
    clear hW
    by_cases h1 : f < 1
    · go_enter Tryd.func10, Tryd.ntmps10
      go_wp2_with fail
      refine (unhide d).mono ?_
      rintro e w1 ⟨rfl, hw⟩
      rw [hw]; clear hw w1
      go_wp2_with fail
      go_ret2
      exact ⟨rfl, unhide HB⟩
    · have h2 : f ≥ 15 := by
        rw [isF, Bool.and_eq_false_iff, decide_eq_false_iff_not, decide_eq_false_iff_not] at h'
        omega
      go_enter Tryd.func10, Tryd.ntmps10
      go_wp2_with fail
      refine (unhide d).mono ?_
      rintro e w1 ⟨rfl, hw⟩
      rw [hw]; clear hw w1
      go_wp2_with fail
      go_ret2
      exact ⟨rfl, unhide HB⟩
set_option maxRecDepth 100000 in
set_option maxHeartbeats 4000000 in
theorem rfieldOf_any (w : World) (nm : ByteArray) : Calls Tryd.prog 12 #[.string nm] w fun e w' => e = .returned (.tuple #[.int .i64 (fofS nm).1, .bool (fofS nm).2]) ∧ Below w.heap.size w w' := by
  have d := hide (rows_any w)
  have HB := hide ((Below.refl w.heap.size w).alloc (Nat.le_refl _) rwsO)
  have HC := hide (rws_cell w)
  obtain ⟨W, hW⟩ : ∃ W, W = w.alloc rwsO := ⟨_, rfl⟩
  rw [← hW] at d HB HC
  clear hW
  go_enter Tryd.func12, Tryd.ntmps12
  go_wp2_with fail
  refine (unhide d).mono ?_
  rintro e w1 ⟨rfl, hw⟩
  rw [hw]; clear hw w1
  go_wp2_with fail
  go_loop [5] (fun v => ∃ (k : Nat), v = .int .i64 k ∧ 1 ≤ k ∧ k ≤ 15 ∧ Hid (∀ j, 1 ≤ j → j < k → ¬ nmA j = nm)) (fun v => 15 - (intOf v).toNat)
  case atStart => exact ⟨1, rfl, by omega, by omega, fun j h1 h2 => by omega⟩
  case round =>
    obtain ⟨k, rfl, hk1, hk, hrel⟩ := hrel
    by_cases hlt : k < 15
    · obtain ⟨c0, c1⟩ := fldC_at k hlt
      have l0 := (unhide HC (k * 2 + 0)).trans c0
      obtain ⟨nk, hnk⟩ : ∃ nk, nk = nmA k := ⟨_, rfl⟩
      rw [show (fldL.getD k (⟨#[]⟩, 0)).1 = nmA k from rfl, ← hnk] at l0
      simp only [Nat.add_zero] at l0
      have hlt' : (k : Int) < 15 := by omega
      have h4 : ¬ (k : Int) < 0 := by omega
      have HNK := hide hnk
      clear hnk c0 c1
      by_cases he : nk = nm
      · have hfin := hide (fof_hit hk1 hlt ((unhide HNK).symm.trans he) (unhide hrel))
        subst he
        go_wp2_with fail
        go_ret2
        exact ⟨by rw [unhide hfin]; rfl, unhide HB⟩
      · have hb := str_ne he
        go_wp2_with fail
        refine ⟨⟨k + 1, by go_num, by omega, by omega, fun j h1 h2 => ?_⟩, by simp [intOf]; omega⟩
        by_cases hj : j = k
        · subst hj; rw [← unhide HNK]; exact he
        · exact unhide hrel j h1 (by omega)
    · have hkn : k = 15 := by omega
      subst hkn
      have hfin := hide (fof_none (unhide hrel))
      go_wp2_with fail
      go_ret2
      exact ⟨by rw [unhide hfin]; rfl, unhide HB⟩
end Go.Proofs.YtcelllihidkphaaDoor
