import Derived.Test.YtbenciieenbmeaaGreatDoorW01
import Derived.Test.YtbenciieenbmeaaGreatDoorW03
import Derived.Test.YtbenciieenbmeaaGreatDoorW20
import Derived.Test.YtbenciieenbmeaaGreatDoorW27
/- typing: FieldOf 11, the document's Field 10, FieldOf 12, rows 25. -/
namespace Go.Proofs.YtbenciieenbmeaaGreatDoor
open Go Go.ChangeShapes Go.WideShapes Go.ChangeAt Go.RowKit
set_option linter.unusedVariables false
/-- a field's name -/
def nmA (k : Nat) : ByteArray := (fldL.getD k (⟨#[]⟩, 0)).1
def tyA (k : Nat) : Int := (fldL.getD k (⟨#[]⟩, 0)).2
theorem ix56_0 (W : World) : (Instr.index 207 (.agg fldC) (.int .i64 0)).run Tryz.prog W = .ok (.agg #[.string (nmA 0), .int .i64 (tyA 0)]) W := by kernel_rfl
theorem ix56_1 (W : World) : (Instr.index 207 (.agg fldC) (.int .i64 1)).run Tryz.prog W = .ok (.agg #[.string (nmA 1), .int .i64 (tyA 1)]) W := by kernel_rfl
theorem ix56_2 (W : World) : (Instr.index 207 (.agg fldC) (.int .i64 2)).run Tryz.prog W = .ok (.agg #[.string (nmA 2), .int .i64 (tyA 2)]) W := by kernel_rfl
theorem ix56_3 (W : World) : (Instr.index 207 (.agg fldC) (.int .i64 3)).run Tryz.prog W = .ok (.agg #[.string (nmA 3), .int .i64 (tyA 3)]) W := by kernel_rfl
theorem ix56_4 (W : World) : (Instr.index 207 (.agg fldC) (.int .i64 4)).run Tryz.prog W = .ok (.agg #[.string (nmA 4), .int .i64 (tyA 4)]) W := by kernel_rfl
theorem ix56_5 (W : World) : (Instr.index 207 (.agg fldC) (.int .i64 5)).run Tryz.prog W = .ok (.agg #[.string (nmA 5), .int .i64 (tyA 5)]) W := by kernel_rfl
theorem ix56_6 (W : World) : (Instr.index 207 (.agg fldC) (.int .i64 6)).run Tryz.prog W = .ok (.agg #[.string (nmA 6), .int .i64 (tyA 6)]) W := by kernel_rfl
theorem ix56_7 (W : World) : (Instr.index 207 (.agg fldC) (.int .i64 7)).run Tryz.prog W = .ok (.agg #[.string (nmA 7), .int .i64 (tyA 7)]) W := by kernel_rfl
theorem ix56_8 (W : World) : (Instr.index 207 (.agg fldC) (.int .i64 8)).run Tryz.prog W = .ok (.agg #[.string (nmA 8), .int .i64 (tyA 8)]) W := by kernel_rfl
theorem ix56_9 (W : World) : (Instr.index 207 (.agg fldC) (.int .i64 9)).run Tryz.prog W = .ok (.agg #[.string (nmA 9), .int .i64 (tyA 9)]) W := by kernel_rfl
theorem ix56_10 (W : World) : (Instr.index 207 (.agg fldC) (.int .i64 10)).run Tryz.prog W = .ok (.agg #[.string (nmA 10), .int .i64 (tyA 10)]) W := by kernel_rfl
theorem ix56_11 (W : World) : (Instr.index 207 (.agg fldC) (.int .i64 11)).run Tryz.prog W = .ok (.agg #[.string (nmA 11), .int .i64 (tyA 11)]) W := by kernel_rfl
theorem ix56_12 (W : World) : (Instr.index 207 (.agg fldC) (.int .i64 12)).run Tryz.prog W = .ok (.agg #[.string (nmA 12), .int .i64 (tyA 12)]) W := by kernel_rfl
theorem ix56_13 (W : World) : (Instr.index 207 (.agg fldC) (.int .i64 13)).run Tryz.prog W = .ok (.agg #[.string (nmA 13), .int .i64 (tyA 13)]) W := by kernel_rfl
theorem ix56_14 (W : World) : (Instr.index 207 (.agg fldC) (.int .i64 14)).run Tryz.prog W = .ok (.agg #[.string (nmA 14), .int .i64 (tyA 14)]) W := by kernel_rfl
theorem ix56 (k : Nat) (hk : k < 15) (W : World) : (Instr.index 207 (.agg fldC) (.int .i64 k)).run Tryz.prog W = .ok (.agg #[.string (nmA k), .int .i64 (tyA k)]) W := by
  match k, hk with
  | 0, _ => exact ix56_0 W
  | 1, _ => exact ix56_1 W
  | 2, _ => exact ix56_2 W
  | 3, _ => exact ix56_3 W
  | 4, _ => exact ix56_4 W
  | 5, _ => exact ix56_5 W
  | 6, _ => exact ix56_6 W
  | 7, _ => exact ix56_7 W
  | 8, _ => exact ix56_8 W
  | 9, _ => exact ix56_9 W
  | 10, _ => exact ix56_10 W
  | 11, _ => exact ix56_11 W
  | 12, _ => exact ix56_12 W
  | 13, _ => exact ix56_13 W
  | 14, _ => exact ix56_14 W
def ld56 (x : Value) : Sem Value := Instr.loadAt 207 x
theorem ld56_is (x : Value) : Instr.loadAt 207 x = ld56 x := rfl
theorem size56 : (Tryz.prog.info? 207).map (·.size) = some 30 := by kernel_rfl
theorem run_ld56 {W : World} (h : Flds W) : (ld56 (.pointer (some ⟨0, 0, none⟩))).run Tryz.prog W = .ok (.agg fldC) W :=
  run_loadAt_mid (P := Tryz.prog) W 0 0 207 fldC.toList _ (fun j u hu => by rw [Nat.zero_add, h.cell]; simpa using hu) Tryz.underlying207 rfl size56
/-- the number of the field of a name -/
def fofS (nm : ByteArray) : Nat × Bool := match (List.range 15).find? (fun k => decide (1 ≤ k) && decide (nmA k = nm)) with | some k => (k, true) | none => (0, false)
theorem fof_hit {nm : ByteArray} {k : Nat} (h1 : 1 ≤ k) (hk : k < 15) (h : nmA k = nm) (hb : ∀ j, 1 ≤ j → j < k → ¬ nmA j = nm) : fofS nm = (k, true) := by
  have : (List.range 15).find? (fun k => decide (1 ≤ k) && decide (nmA k = nm)) = some k := by
    rw [List.find?_range_eq_some]
    refine ⟨by simp [h1, h], by simpa using hk, fun j hj => ?_⟩
    by_cases h0 : 1 ≤ j
    · simp [h0, hb j h0 hj]
    · simp [h0]
  unfold fofS
  rw [this]
theorem fof_none {nm : ByteArray} (hb : ∀ j, 1 ≤ j → j < 15 → ¬ nmA j = nm) : fofS nm = (0, false) := by
  have : (List.range 15).find? (fun k => decide (1 ≤ k) && decide (nmA k = nm)) = none := by
    rw [List.find?_eq_none]
    intro j hj
    have hj' : j < 15 := by simpa using hj
    by_cases h0 : 1 ≤ j
    · simp [h0, hb j h0 hj']
    · simp [h0]
  unfold fofS
  rw [this]
end Go.Proofs.YtbenciieenbmeaaGreatDoor
/- typing: FieldOf 11. -/
namespace Go.Proofs.YtbenciieenbmeaaGreatDoor
open Go Go.ChangeShapes Go.WideShapes Go.ChangeAt Go.RowKit
set_option linter.unusedVariables false
theorem str_ne {x s : ByteArray} (h : ¬ x = s) : (x.toList == s.toList) = false := by
  rw [ByteArray.toList_eq, ByteArray.toList_eq, beq_eq_false_iff_ne]
  intro e
  apply h
  cases x with
  | mk dx => cases s with
    | mk ds => exact congrArg ByteArray.mk (Array.toList_inj.1 e)
attribute [local go_sem ↓] ld56_is
/-- the document's table of fields, as the call lays it -/
def rwsO : Obj := .cells fldC 93
theorem rows_any (w : World) : Calls Tryz.prog 37 #[] w fun e w' => e = .returned (.slice (some ⟨w.heap.size, 0, none⟩) 15 15) ∧ w' = w.alloc rwsO := by
  unfold rwsO fldC
  go_enter Tryz.func37, Tryz.ntmps37
  go_wp2_with fail
  go_ret
  exact ⟨rfl, rfl⟩
theorem rws_cell (w : World) (i : Nat) : (w.alloc rwsO).cell? ⟨w.heap.size, i, none⟩ = fldC[i]? := by
  unfold rwsO
  simp
theorem rfield_any (w : World) (f : Int) : Calls Tryz.prog 22 #[.int .i64 f] w fun e w' => e = .returned (.tuple #[.string (fldS f).1, .int .i64 (fldS f).2]) ∧ Below w.heap.size w w' := by
  have d := hide (rows_any w)
  have HB := hide ((Below.refl w.heap.size w).alloc (Nat.le_refl _) rwsO)
  by_cases h : isF f = true
  · have h' := h
    rw [isF, Bool.and_eq_true, decide_eq_true_iff, decide_eq_true_iff] at h'
    obtain ⟨k, rfl⟩ : ∃ k : Nat, f = k := ⟨f.toNat, by omega⟩
    have hk : k < 15 := by omega
    have e : fldS k = fldL.getD k (⟨#[]⟩, 0) := by unfold fldS; rw [if_pos h]; rfl
    rw [e]
    obtain ⟨c0, c1⟩ := fldC_at k hk
    have l0 := (rws_cell w (k * 2 + 0)).trans c0
    have l1 := (rws_cell w (k * 2 + 1)).trans c1
    obtain ⟨nm, hnm⟩ : ∃ nm, nm = (fldL.getD k (⟨#[]⟩, 0)).1 := ⟨_, rfl⟩
    obtain ⟨ty, hty⟩ : ∃ ty, ty = (fldL.getD k (⟨#[]⟩, 0)).2 := ⟨_, rfl⟩
    rw [← hnm] at l0 ⊢
    rw [← hty] at l1 ⊢
    simp only [Nat.add_zero] at l0
    have h1 : ¬ (k : Int) < 1 := by omega
    have h2 : ¬ (k : Int) ≥ 15 := by omega
    have h3 : (k : Int) < 15 := by omega
    have h4 : ¬ (k : Int) < 0 := by omega
    obtain ⟨W, hW⟩ : ∃ W, W = w.alloc rwsO := ⟨_, rfl⟩
    rw [← hW] at d l0 l1 HB
    clear hnm hty c0 c1 h e h' hW
    go_enter Tryz.func22, Tryz.ntmps22
    go_wp2_with fail
    refine (unhide d).mono ?_
    rintro e w1 ⟨rfl, hw⟩
    rw [hw]; clear hw w1
    go_wp2_with fail
    go_quiet (fail)
    go_wp2_with fail
    go_ret2
    exact ⟨rfl, below_drewN (unhide HB) _⟩
  · have h' : isF f = false := by simpa using h
    have e : fldS f = (⟨#[]⟩, 0) := by unfold fldS; rw [if_neg h]
    rw [e]
    obtain ⟨W, hW⟩ : ∃ W, W = w.alloc rwsO := ⟨_, rfl⟩
    rw [← hW] at d HB
    clear hW
    by_cases h1 : f < 1
    · go_enter Tryz.func22, Tryz.ntmps22
      go_wp2_with fail
      refine (unhide d).mono ?_
      rintro e w1 ⟨rfl, hw⟩
      rw [hw]; clear hw w1
      go_wp2_with fail
      go_ret2
      exact ⟨rfl, unhide HB⟩
    · have h2 : f ≥ 15 := by
        rw [isF, Bool.and_eq_false_iff, decide_eq_false_iff_not, decide_eq_false_iff_not] at h'
        omega
      go_enter Tryz.func22, Tryz.ntmps22
      go_wp2_with fail
      refine (unhide d).mono ?_
      rintro e w1 ⟨rfl, hw⟩
      rw [hw]; clear hw w1
      go_wp2_with fail
      go_ret2
      exact ⟨rfl, unhide HB⟩
end Go.Proofs.YtbenciieenbmeaaGreatDoor
/- typing, the document's: Is 83, two 67, compared 79, leaf 78. -/
namespace Go.Proofs.YtbenciieenbmeaaGreatDoor
open Go Go.Shelf Go.ChangeShapes Go.WideShapes Go.ChangeAt Go.RowKit Go.Maps
set_option linter.unusedVariables false
set_option maxRecDepth 100000
set_option maxHeartbeats 4000000

theorem rIs_any (n : Int) (w : World) : Calls Tryz.prog 99 #[.int .i64 n] w fun e w' => e = .returned (.bool (dayB n)) ∧ w' = w := by
  unfold dayB
  by_cases h1 : n ≥ 1
  · rw [decide_eq_true (show 1 ≤ n by omega), Bool.true_and]
    go_enter Tryz.func99, Tryz.ntmps99
    go_wp2_with fail
    go_ret
    exact ⟨rfl, rfl⟩
  · rw [decide_eq_false (show ¬ 1 ≤ n by omega), Bool.false_and]
    go_enter Tryz.func99, Tryz.ntmps99
    go_wp2_with fail
    go_ret
    exact ⟨rfl, rfl⟩
def twoI (n : Int) : Int := if n > 2 then 2 else n
/-- may two types stand in a comparison? (the document's) -/
def rcmpS (op a b : Int) : Bool := decide (4 ≤ op ∧ op ≤ 9) && (alike a b && (!(a == 4) || (op == 4 || op == 5)))
theorem rcmp_any (op a b : Int) (w : World) : Calls Tryz.prog 57 #[.int .i64 op, .int .i64 a, .int .i64 b] w fun e w' => e = .returned (.bool (rcmpS op a b)) ∧ w' = w := by
  by_cases h4 : op < 4
  · have e : rcmpS op a b = false := by unfold rcmpS; rw [decide_eq_false (by omega)]; rfl
    rw [e]
    clear e
    go_enter Tryz.func57, Tryz.ntmps57
    go_wp2_with fail
    go_ret
    exact ⟨rfl, rfl⟩
  by_cases h9 : op > 9
  · have e : rcmpS op a b = false := by unfold rcmpS; rw [decide_eq_false (by omega)]; rfl
    rw [e]
    clear e
    go_enter Tryz.func57, Tryz.ntmps57
    go_wp2_with fail
    go_ret
    exact ⟨rfl, rfl⟩
  have e : rcmpS op a b = (alike a b && (!(a == 4) || (op == 4 || op == 5))) := by unfold rcmpS; rw [decide_eq_true (by omega)]; rfl
  rw [e]
  clear e
  unfold alike
  by_cases h5 : a = 5
  · subst h5
    by_cases hb1 : b = 1
    · subst hb1
      go_enter Tryz.func57, Tryz.ntmps57
      go_wp2_with fail
      go_ret
      exact ⟨rfl, rfl⟩
    · have hb1' := beqF hb1
      by_cases hb5 : b = 5
      · subst hb5
        go_enter Tryz.func57, Tryz.ntmps57
        go_wp2_with fail
        go_ret
        exact ⟨rfl, rfl⟩
      · have hb5' := beqF (fun h => hb5 h.symm : ¬ (5 : Int) = b)
        rw [if_neg (fun h => hb5 h.symm), hb1']
        go_enter Tryz.func57, Tryz.ntmps57
        go_wp2_with fail
        go_ret
        exact ⟨rfl, rfl⟩
  have h5' := beqF h5
  by_cases h1 : a = 1
  · subst h1
    by_cases hb5 : b = 5
    · subst hb5
      go_enter Tryz.func57, Tryz.ntmps57
      go_wp2_with fail
      go_ret
      exact ⟨rfl, rfl⟩
    · have hb5' := beqF hb5
      by_cases hb1 : b = 1
      · subst hb1
        go_enter Tryz.func57, Tryz.ntmps57
        go_wp2_with fail
        go_ret
        exact ⟨rfl, rfl⟩
      · have hb1' := beqF (fun h => hb1 h.symm : ¬ (1 : Int) = b)
        rw [if_neg (fun h => hb1 h.symm), hb5']
        go_enter Tryz.func57, Tryz.ntmps57
        go_wp2_with fail
        go_ret
        exact ⟨rfl, rfl⟩
  have h1' := beqF h1
  by_cases hab : a = b
  · subst hab
    rw [if_pos rfl]
    by_cases h0 : a = 0
    · subst h0
      go_enter Tryz.func57, Tryz.ntmps57
      go_wp2_with fail
      go_ret
      exact ⟨rfl, rfl⟩
    · have h0' := beqF h0
      have h0'' : (a != 0) = true := by simpa using h0
      rw [h0']
      by_cases h4a : a = 4
      · subst h4a
        by_cases ho4 : op = 4
        · subst ho4
          go_enter Tryz.func57, Tryz.ntmps57
          go_wp2_with fail
          go_ret
          exact ⟨rfl, rfl⟩
        · have ho4' := beqF ho4
          rw [ho4']
          go_enter Tryz.func57, Tryz.ntmps57
          go_wp2_with fail
          go_ret
          exact ⟨rfl, rfl⟩
      · have h4' := beqF h4a
        have h4'' : (a != 4) = true := by simpa using h4a
        rw [h4']
        go_enter Tryz.func57, Tryz.ntmps57
        go_wp2_with fail
        go_ret
        exact ⟨rfl, rfl⟩
  · have hab' := beqF hab
    rw [if_neg hab, h5', h1']
    go_enter Tryz.func57, Tryz.ntmps57
    go_wp2_with fail
    go_ret
    exact ⟨rfl, rfl⟩

/-- the type of a node without parts (the document's) -/
def leafS (x : Nd) : Int := if x.op = 16 then (fldS x.field).2 else if x.op = 17 then 1 else if x.op = 18 then 2 else if x.op = 19 then tif (dayB x.num) 3 else if x.op = 20 then tif (x.num == 0 || x.num == 1) 4 else 0
theorem leaf_any (x : Nd) (w : World) : Calls Tryz.prog 56 #[x.val] w fun e w' => e = .returned (.int .i64 (leafS x)) ∧ Below w.heap.size w w' := by
  obtain ⟨o, l, r, f, m, s⟩ := x
  unfold leafS Nd.val
  simp only
  have HB : Hid (∀ ob, Below w.heap.size w (w.alloc ob)) := fun ob => Below.a1 w ob
  by_cases h16 : o = 16
  · subst h16
    rw [if_pos rfl]
    have d := hide (fun X => rfield_any X f)
    obtain ⟨nm, hnm⟩ : ∃ v, v = (fldS f).1 := ⟨_, rfl⟩
    obtain ⟨ty, hty⟩ : ∃ v, v = (fldS f).2 := ⟨_, rfl⟩
    rw [← hnm, ← hty] at d
    rw [← hty]
    clear hnm hty
    go_enter Tryz.func56, Tryz.ntmps56
    go_wp2_with fail
    refine (unhide d _).mono ?_
    rintro e w1 ⟨rfl, hw⟩
    have HW := hide ((unhide HB _).trans (hw.mono (by simp)))
    clear hw
    go_wp2_with fail
    go_ret
    exact ⟨rfl, unhide HW⟩
  have h16' := beqF h16
  rw [if_neg h16]
  by_cases h17 : o = 17
  · subst h17
    go_enter Tryz.func56, Tryz.ntmps56
    go_wp2_with fail
    go_ret
    exact ⟨rfl, unhide HB _⟩
  have h17' := beqF h17
  rw [if_neg h17]
  by_cases h18 : o = 18
  · subst h18
    go_enter Tryz.func56, Tryz.ntmps56
    go_wp2_with fail
    go_ret
    exact ⟨rfl, unhide HB _⟩
  have h18' := beqF h18
  rw [if_neg h18]
  by_cases h19 : o = 19
  · subst h19
    rw [if_pos rfl]
    by_cases m1 : m < 1
    · have e : dayB m = false := by unfold dayB; rw [decide_eq_false (show ¬ 1 ≤ m by omega)]; rfl
      rw [e]
      clear e
      go_enter Tryz.func56, Tryz.ntmps56
      go_wp2_with fail
      go_ret
      exact ⟨rfl, unhide HB _⟩
    by_cases m2 : m > 3652059
    · have e : dayB m = false := by unfold dayB; rw [decide_eq_false (show ¬ m ≤ 3652059 by omega), Bool.and_false]
      rw [e]
      clear e
      go_enter Tryz.func56, Tryz.ntmps56
      go_wp2_with fail
      go_ret
      exact ⟨rfl, unhide HB _⟩
    have e : dayB m = true := by unfold dayB; rw [decide_eq_true (show 1 ≤ m by omega), decide_eq_true (show m ≤ 3652059 by omega)]; rfl
    have d := hide (fun X => rIs_any m X)
    rw [e] at d ⊢
    clear e
    go_enter Tryz.func56, Tryz.ntmps56
    go_wp2_with fail
    refine (unhide d _).mono ?_
    rintro e w1 ⟨rfl, hw⟩
    have HW : Hid (Below w.heap.size w w1) := by rw [hw]; exact unhide HB _
    clear hw
    go_wp2_with fail
    go_ret
    exact ⟨rfl, unhide HW⟩
  have h19' := beqF h19
  rw [if_neg h19]
  by_cases h20 : o = 20
  · subst h20
    rw [if_pos rfl]
    by_cases m0 : m = 0
    · subst m0
      go_enter Tryz.func56, Tryz.ntmps56
      go_wp2_with fail
      go_ret
      exact ⟨rfl, unhide HB _⟩
    have m0' := beqF m0
    by_cases m1 : m = 1
    · subst m1
      go_enter Tryz.func56, Tryz.ntmps56
      go_wp2_with fail
      go_ret
      exact ⟨rfl, unhide HB _⟩
    have m1' := beqF m1
    rw [m0', m1']
    go_enter Tryz.func56, Tryz.ntmps56
    go_wp2_with fail
    go_ret
    exact ⟨rfl, unhide HB _⟩
  have h20' := beqF h20
  rw [if_neg h20]
  go_enter Tryz.func56, Tryz.ntmps56
  go_wp2_with fail
  go_ret
  exact ⟨rfl, unhide HB _⟩
end Go.Proofs.YtbenciieenbmeaaGreatDoor
/- typing, the document's: the table 80, and that both ways to a node's type agree. -/
namespace Go.Proofs.YtbenciieenbmeaaGreatDoor
open Go Go.Shelf Go.ChangeShapes Go.WideShapes Go.ChangeAt Go.RowKit Go.Maps
set_option linter.unusedVariables false
set_option linter.unusedSimpArgs false
set_option maxRecDepth 100000
set_option maxHeartbeats 4000000

/-- the document's table of operations -/
def tbL : List (Int × Int × Int × Int) := [(1, 4, 4, 4), (2, 4, 4, 4), (3, 4, 0, 4), (10, 2, 2, 4), (11, 2, 2, 4), (12, 1, 1, 1), (12, 5, 5, 5), (12, 3, 1, 3), (12, 1, 3, 3), (13, 1, 1, 1), (13, 5, 5, 5), (13, 3, 1, 3), (13, 3, 3, 1), (14, 1, 1, 1), (14, 5, 1, 5), (14, 1, 5, 5), (15, 1, 0, 1), (15, 5, 0, 5)]
def tbC : Array Value := #[.int .i64 1, .int .i64 4, .int .i64 4, .int .i64 4, .int .i64 2, .int .i64 4, .int .i64 4, .int .i64 4, .int .i64 3, .int .i64 4, .int .i64 0, .int .i64 4, .int .i64 10, .int .i64 2, .int .i64 2, .int .i64 4, .int .i64 11, .int .i64 2, .int .i64 2, .int .i64 4, .int .i64 12, .int .i64 1, .int .i64 1, .int .i64 1, .int .i64 12, .int .i64 5, .int .i64 5, .int .i64 5, .int .i64 12, .int .i64 3, .int .i64 1, .int .i64 3, .int .i64 12, .int .i64 1, .int .i64 3, .int .i64 3, .int .i64 13, .int .i64 1, .int .i64 1, .int .i64 1, .int .i64 13, .int .i64 5, .int .i64 5, .int .i64 5, .int .i64 13, .int .i64 3, .int .i64 1, .int .i64 3, .int .i64 13, .int .i64 3, .int .i64 3, .int .i64 1, .int .i64 14, .int .i64 1, .int .i64 1, .int .i64 1, .int .i64 14, .int .i64 5, .int .i64 1, .int .i64 5, .int .i64 14, .int .i64 1, .int .i64 5, .int .i64 5, .int .i64 15, .int .i64 1, .int .i64 0, .int .i64 1, .int .i64 15, .int .i64 5, .int .i64 0, .int .i64 5]
def tbO : Obj := .cells tbC 132
def tP (op a b : Int) (r : Int × Int × Int × Int) : Bool := r.1 == op && (r.2.1 == a && (r.2.2.1 == 0 || r.2.2.1 == b))
def tabS (op a b : Int) : Int := match tbL.find? (tP op a b) with | some r => r.2.2.2 | none => 0
def tb (k : Nat) : Int × Int × Int × Int := tbL.getD k (0, 0, 0, 0)
theorem tb_len : tbL.length = 18 := rfl
theorem tb_at {k : Nat} (hk : k < tbL.length) : tbL[k] = tb k := by unfold tb; rw [List.getD_eq_getElem?_getD, List.getElem?_eq_getElem hk]; rfl
theorem tab_hit {op a b : Int} {k : Nat} (hk : k < 18) (h : tP op a b (tb k) = true) (hb : ∀ j, j < k → tP op a b (tb j) = false) : tabS op a b = (tb k).2.2.2 := by
  have : tbL.find? (tP op a b) = some (tb k) := by
    rw [List.find?_eq_some_iff_getElem]
    exact ⟨h, k, by rw [tb_len]; exact hk, tb_at _, fun j hj => by rw [tb_at, hb j hj]; rfl⟩
  unfold tabS
  rw [this]
theorem tab_none {op a b : Int} (hb : ∀ j, j < 18 → tP op a b (tb j) = false) : tabS op a b = 0 := by
  have : tbL.find? (tP op a b) = none := by
    rw [List.find?_eq_none]
    intro x hx
    obtain ⟨j, hj, rfl⟩ := List.getElem_of_mem hx
    rw [tb_at, hb j (by rw [← tb_len]; exact hj)]
    decide
  unfold tabS
  rw [this]
theorem tab_ops {op a b : Int} (h : ∀ r ∈ tbL, r.1 ≠ op) : tabS op a b = 0 := by
  have : tbL.find? (tP op a b) = none := by
    rw [List.find?_eq_none]
    intro x hx
    unfold tP
    rw [beqF (h x hx)]
    simp
  unfold tabS
  rw [this]
theorem tb_ops : ∀ r ∈ tbL, 1 ≤ r.1 ∧ r.1 ≤ 15 := by decide
theorem tbC_at (k : Nat) (hk : k < 18) : tbC[k * 4 + 0]? = some (.int .i64 (tb k).1) ∧ tbC[k * 4 + 1]? = some (.int .i64 (tb k).2.1) ∧ tbC[k * 4 + 2]? = some (.int .i64 (tb k).2.2.1) ∧ tbC[k * 4 + 3]? = some (.int .i64 (tb k).2.2.2) := by
  have h : k = 0 ∨ k = 1 ∨ k = 2 ∨ k = 3 ∨ k = 4 ∨ k = 5 ∨ k = 6 ∨ k = 7 ∨ k = 8 ∨ k = 9 ∨ k = 10 ∨ k = 11 ∨ k = 12 ∨ k = 13 ∨ k = 14 ∨ k = 15 ∨ k = 16 ∨ k = 17 := by omega
  rcases h with rfl | rfl | rfl | rfl | rfl | rfl | rfl | rfl | rfl | rfl | rfl | rfl | rfl | rfl | rfl | rfl | rfl | rfl <;> exact ⟨rfl, rfl, rfl, rfl⟩
theorem tab3 (a b : Int) : tabS 3 a b = sgl 3 a := by
  by_cases h : a = 4
  · subst h; rfl
  · have h' := beqF h; have h'' := beqF (fun e => h e.symm : ¬ (4 : Int) = a); simp [tabS, tbL, tP, List.find?_cons, sgl, tif, h', h'']
theorem tab15 (a b : Int) : tabS 15 a b = sgl 15 a := by
  by_cases h : a = 1
  · subst h; rfl
  · by_cases g : a = 5
    · subst g; rfl
    · have h' := beqF h; have h'' := beqF (fun e => h e.symm : ¬ (1 : Int) = a); have g' := beqF g; have g'' := beqF (fun e => g e.symm : ¬ (5 : Int) = a); simp [tabS, tbL, tP, List.find?_cons, sgl, tif, h', h'', g', g'', h, g]
theorem tabEq {op a b t : Int} (hop : op = 1 ∨ op = 2 ∨ op = 10 ∨ op = 11) (ht : t = if op = 1 ∨ op = 2 then 4 else 2) : tabS op a b = tif (a == t && b == t) 4 := by
  rcases hop with rfl | rfl | rfl | rfl <;> simp at ht <;> subst ht <;> (
    first
    | (by_cases h : a = 4
       · subst h
         by_cases g : b = 4
         · subst g; rfl
         · have g' := beqF g; have g'' := beqF (fun e => g e.symm : ¬ (4 : Int) = b); simp [tabS, tbL, tP, List.find?_cons, tif, g', g'']
       · have h' := beqF h; have h'' := beqF (fun e => h e.symm : ¬ (4 : Int) = a); simp [tabS, tbL, tP, List.find?_cons, tif, h', h''])
    | (by_cases h : a = 2
       · subst h
         by_cases g : b = 2
         · subst g; rfl
         · have g' := beqF g; have g'' := beqF (fun e => g e.symm : ¬ (2 : Int) = b); simp [tabS, tbL, tP, List.find?_cons, tif, g', g'']
       · have h' := beqF h; have h'' := beqF (fun e => h e.symm : ¬ (2 : Int) = a); simp [tabS, tbL, tP, List.find?_cons, tif, h', h'']))
theorem tabR {op : Int} (hop : op = 12 ∨ op = 13 ∨ op = 14) (a b : Int) : tabS op a b = recS op a b := by
  have ha : a = 1 ∨ a = 3 ∨ a = 5 ∨ (¬ a = 1 ∧ ¬ a = 3 ∧ ¬ a = 5) := by omega
  have hb : b = 1 ∨ b = 3 ∨ b = 5 ∨ (¬ b = 1 ∧ ¬ b = 3 ∧ ¬ b = 5) := by omega
  rcases ha with rfl | rfl | rfl | ⟨a1, a3, a5⟩
  · rcases hb with rfl | rfl | rfl | ⟨b1, b3, b5⟩
    · rcases hop with rfl | rfl | rfl <;> decide
    · rcases hop with rfl | rfl | rfl <;> decide
    · rcases hop with rfl | rfl | rfl <;> decide
    · have c1 := beqF (fun e => b1 e.symm : ¬ (1 : Int) = b); have c3 := beqF (fun e => b3 e.symm : ¬ (3 : Int) = b); have c5 := beqF (fun e => b5 e.symm : ¬ (5 : Int) = b)
      rcases hop with rfl | rfl | rfl <;> simp [tabS, tbL, tP, List.find?_cons, recS, range11, rB, rc, recL, c1, c3, c5]
  · rcases hb with rfl | rfl | rfl | ⟨b1, b3, b5⟩
    · rcases hop with rfl | rfl | rfl <;> decide
    · rcases hop with rfl | rfl | rfl <;> decide
    · rcases hop with rfl | rfl | rfl <;> decide
    · have c1 := beqF (fun e => b1 e.symm : ¬ (1 : Int) = b); have c3 := beqF (fun e => b3 e.symm : ¬ (3 : Int) = b); have c5 := beqF (fun e => b5 e.symm : ¬ (5 : Int) = b)
      rcases hop with rfl | rfl | rfl <;> simp [tabS, tbL, tP, List.find?_cons, recS, range11, rB, rc, recL, c1, c3, c5]
  · rcases hb with rfl | rfl | rfl | ⟨b1, b3, b5⟩
    · rcases hop with rfl | rfl | rfl <;> decide
    · rcases hop with rfl | rfl | rfl <;> decide
    · rcases hop with rfl | rfl | rfl <;> decide
    · have c1 := beqF (fun e => b1 e.symm : ¬ (1 : Int) = b); have c3 := beqF (fun e => b3 e.symm : ¬ (3 : Int) = b); have c5 := beqF (fun e => b5 e.symm : ¬ (5 : Int) = b)
      rcases hop with rfl | rfl | rfl <;> simp [tabS, tbL, tP, List.find?_cons, recS, range11, rB, rc, recL, c1, c3, c5]
  · have c1 := beqF (fun e => a1 e.symm : ¬ (1 : Int) = a); have c3 := beqF (fun e => a3 e.symm : ¬ (3 : Int) = a); have c5 := beqF (fun e => a5 e.symm : ¬ (5 : Int) = a)
    rcases hop with rfl | rfl | rfl <;> simp [tabS, tbL, tP, List.find?_cons, recS, range11, rB, rc, recL, c1, c3, c5]
/-- the document's way to a node's type, and the program's -/
theorem pr_of {op a b : Int} (h : 1 ≤ op ∧ op ≤ 14 ∧ op ≠ 3) : prS op a b = if rcmpS op a b then 4 else tabS op a b := by
  have hc : op = 1 ∨ op = 2 ∨ op = 4 ∨ op = 5 ∨ op = 6 ∨ op = 7 ∨ op = 8 ∨ op = 9 ∨ op = 10 ∨ op = 11 ∨ op = 12 ∨ op = 13 ∨ op = 14 := by omega
  have ht : ∀ o : Int, (o = 4 ∨ o = 5 ∨ o = 6 ∨ o = 7 ∨ o = 8 ∨ o = 9) → tabS o a b = 0 := fun o ho => tab_ops (by
    intro r hr
    have : ∀ r ∈ tbL, r.1 ≠ 4 ∧ r.1 ≠ 5 ∧ r.1 ≠ 6 ∧ r.1 ≠ 7 ∧ r.1 ≠ 8 ∧ r.1 ≠ 9 := by decide
    have := this r hr
    rcases ho with rfl | rfl | rfl | rfl | rfl | rfl
    · exact this.1
    · exact this.2.1
    · exact this.2.2.1
    · exact this.2.2.2.1
    · exact this.2.2.2.2.1
    · exact this.2.2.2.2.2)
  rcases hc with rfl | rfl | rfl | rfl | rfl | rfl | rfl | rfl | rfl | rfl | rfl | rfl | rfl
  · rw [tabEq (.inl rfl) rfl]; rfl
  · rw [tabEq (.inr (.inl rfl)) rfl]; rfl
  · rw [ht _ (.inl rfl)]; cases h1 : alike a b <;> simp [prS, rcmpS, tif, h1]
  · rw [ht _ (.inr (.inl rfl))]; cases h1 : alike a b <;> simp [prS, rcmpS, tif, h1]
  · rw [ht _ (.inr (.inr (.inl rfl)))]; cases h1 : alike a b <;> simp [prS, rcmpS, tif, h1]
  · rw [ht _ (.inr (.inr (.inr (.inl rfl))))]; cases h1 : alike a b <;> simp [prS, rcmpS, tif, h1]
  · rw [ht _ (.inr (.inr (.inr (.inr (.inl rfl)))))]; cases h1 : alike a b <;> simp [prS, rcmpS, tif, h1]
  · rw [ht _ (.inr (.inr (.inr (.inr (.inr rfl)))))]; cases h1 : alike a b <;> simp [prS, rcmpS, tif, h1]
  · rw [tabEq (.inr (.inr (.inl rfl))) rfl]; rfl
  · rw [tabEq (.inr (.inr (.inr rfl))) rfl]; rfl
  · rw [tabR (.inl rfl)]; rfl
  · rw [tabR (.inr (.inl rfl))]; rfl
  · rw [tabR (.inr (.inr rfl))]; rfl
theorem tat_out {T : List Int} {i : Int} (h : i < 0 ∨ (T.length : Int) ≤ i) : tat T i = 0 := by unfold tat; rw [if_pos h]
theorem nt_of (x : Nd) (T : List Int) : ntS x T = if leafS x ≠ 0 then leafS x else if x.left < 0 ∨ (T.length : Int) ≤ x.left then 0 else if rcmpS x.op (tat T x.left) (tat T x.right) then 4 else tabS x.op (tat T x.left) (tat T x.right) := by
  have hcf : ∀ {o a b : Int}, o < 4 ∨ 9 < o → rcmpS o a b = false := fun {o a b} ho => by unfold rcmpS; rw [decide_eq_false (by omega)]; rfl
  have htf : ∀ {o a b : Int}, o < 1 ∨ 15 < o → tabS o a b = 0 := fun {o a b} ho => tab_ops (fun r hr => by have := tb_ops r hr; omega)
  by_cases hL : 16 ≤ x.op ∧ x.op ≤ 20
  · have e : ntS x T = leafS x := by
      unfold ntS narS leafS
      rcases (show x.op = 16 ∨ x.op = 17 ∨ x.op = 18 ∨ x.op = 19 ∨ x.op = 20 by omega) with h | h | h | h | h <;> rw [h] <;> rfl
    rw [e, hcf (by omega), htf (by omega)]
    by_cases h0 : leafS x = 0
    · simp [h0]
    · rw [if_pos h0]
  · have e : leafS x = 0 := by
      unfold leafS
      rw [if_neg (by omega), if_neg (by omega), if_neg (by omega), if_neg (by omega), if_neg (by omega)]
    rw [e, if_neg (by simp)]
    have n16 : ¬ x.op = 16 := by omega
    have n17 : ¬ x.op = 17 := by omega
    have n18 : ¬ x.op = 18 := by omega
    have n19 : ¬ x.op = 19 := by omega
    have n20 : ¬ x.op = 20 := by omega
    unfold ntS narS
    rw [if_neg n16, if_neg n17, if_neg n18, if_neg n19, if_neg n20]
    by_cases hs : x.op = 3 ∨ x.op = 15
    · rw [if_pos hs]
      show sgl x.op (tat T x.left) = _
      by_cases ho : x.left < 0 ∨ (T.length : Int) ≤ x.left
      · rw [if_pos ho, tat_out ho]
        rcases hs with h | h <;> rw [h] <;> rfl
      · rw [if_neg ho, hcf (by omega)]
        rcases hs with h | h <;> rw [h]
        · rw [tab3]; rfl
        · rw [tab15]; rfl
    · rw [if_neg hs]
      by_cases hp : 1 ≤ x.op ∧ x.op ≤ 14
      · rw [if_pos hp]
        show prS x.op (tat T x.left) (tat T x.right) = _
        by_cases ho : x.left < 0 ∨ (T.length : Int) ≤ x.left
        · rw [if_pos ho, tat_out ho]
          by_cases hz : prS x.op 0 (tat T x.right) = 0
          · exact hz
          · exact absurd rfl (pr_nz hz).1
        · rw [if_neg ho]
          exact pr_of ⟨hp.1, hp.2, fun h => hs (.inl h)⟩
      · rw [if_neg hp, hcf (by omega), htf (by omega)]
        show (0 : Int) = _
        split <;> rfl
theorem table_any (w : World) : Calls Tryz.prog 58 #[] w fun e w' => e = .returned (.slice (some ⟨w.heap.size, 0, none⟩) 18 18) ∧ w' = w.alloc tbO := by
  unfold tbO tbC
  go_enter Tryz.func58, Tryz.ntmps58
  go_wp2_with fail
  go_ret
  exact ⟨rfl, rfl⟩
theorem tb_cell (w : World) (i : Nat) : (w.alloc tbO).cell? ⟨w.heap.size, i, none⟩ = tbC[i]? := by
  unfold tbO
  simp
end Go.Proofs.YtbenciieenbmeaaGreatDoor
/- typing, the document's: of 74. -/
namespace Go.Proofs.YtbenciieenbmeaaGreatDoor
open Go Go.Shelf Go.ChangeShapes Go.WideShapes Go.ChangeAt Go.RowKit Go.Maps
set_option linter.unusedVariables false
set_option maxRecDepth 100000
set_option maxHeartbeats 8000000
attribute [local go_sem ↓] ld37_is
theorem rof_any {w : World} {p : Option Addr} {n c : Nat} {T : List Int} (hn : T.length = n) (hT : Lies kI w p T) (x : Nd) : Calls Tryz.prog 36 #[x.val, .slice p n c] w fun e w' => e = .returned (.int .i64 (ntS x T)) ∧ Below w.heap.size w w' := by
  have hl := run_ld37 (w := w.alloc (.cells x.vals.toArray 51)) (b := w.heap.size) (o := 0) (x := x) (new_range w x.vals 51)
  have hr := new_range w x.vals 51
  have hB := Below.a1 w (.cells x.vals.toArray 51)
  have hlt : w.heap.size < (w.alloc (.cells x.vals.toArray 51)).heap.size := by simp
  have dL := hide (leaf_any x (w.alloc (.cells x.vals.toArray 51)))
  have HNT0 := hide (nt_of x T)
  obtain ⟨lf, hlf⟩ : ∃ v, v = leafS x := ⟨_, rfl⟩
  rw [← hlf] at dL HNT0
  obtain ⟨W1, hW1⟩ : ∃ X, X = w.alloc (.cells x.vals.toArray 51) := ⟨_, rfl⟩
  rw [← hW1] at hl hr hB hlt dL
  obtain ⟨o, l, r, f, m, s⟩ := x
  simp only at HNT0
  have e0 := hr 0 (.int .i64 o) rfl
  have e1 := hr 1 (.int .i64 l) rfl
  have e2 := hr 2 (.int .i64 r) rfl
  obtain ⟨xv, hxv⟩ : ∃ v, v = Nd.val ⟨o, l, r, f, m, s⟩ := ⟨_, rfl⟩
  rw [← hxv] at hl dL
  rw [show Nd.val ⟨o, l, r, f, m, s⟩ = .agg #[.int .i64 o, .int .i64 l, .int .i64 r, .int .i64 f, .int .i64 m, .string s] from rfl]
  have hW1' : W1 = w.alloc (.cells #[.int .i64 o, .int .i64 l, .int .i64 r, .int .i64 f, .int .i64 m, .string s] 51) := hW1
  have HT := hide hT; have HN := hide hn; have HB := hide hB; have HLT := hide hlt
  have E0 := hide e0; have E1 := hide e1; have E2 := hide e2
  clear hT hn hB hlt hr hxv hW1 hlf e0 e1 e2
  go_enter Tryz.func36, Tryz.ntmps36
  go_upto_region 1 with fail
  rw [← hW1']
  clear hW1'
  go_wp2_with fail
  refine (unhide dL).mono ?_
  rintro e X ⟨rfl, hX⟩
  have HX : Hid (Below w.heap.size w X) := (unhide HB).trans (hX.mono (unhide HB).size)
  have HXlt : Hid (w.heap.size < X.heap.size) := Nat.lt_of_lt_of_le (unhide HLT) hX.size
  have x0 : X.cell? ⟨w.heap.size, 0, none⟩ = some (.int .i64 o) := (hX.cell (p := ⟨w.heap.size, 0, none⟩) (unhide HLT)).trans (unhide E0)
  have x1 : X.cell? ⟨w.heap.size, 1, none⟩ = some (.int .i64 l) := (hX.cell (p := ⟨w.heap.size, 1, none⟩) (unhide HLT)).trans (unhide E1)
  have x2 : X.cell? ⟨w.heap.size, 2, none⟩ = some (.int .i64 r) := (hX.cell (p := ⟨w.heap.size, 2, none⟩) (unhide HLT)).trans (unhide E2)
  have HXO := hide x0
  have HLX : Hid (Lies kI X p T) := (unhide HT).below (unhide HX)
  clear hX dL hl HB HLT E0 E1 E2 HT
  by_cases h0 : lf = 0
  case neg =>
    have h0' : (lf != 0) = true := by simpa using h0
    have HF : Hid (ntS ⟨o, l, r, f, m, s⟩ T = lf) := by show _ = _; rw [unhide HNT0, if_pos h0]
    go_wp2_with fail
    go_ret
    exact ⟨by rw [unhide HF]; rfl, unhide HX⟩
  subst h0
  by_cases hl0 : l < 0
  · have HF : Hid (ntS ⟨o, l, r, f, m, s⟩ T = 0) := by show _ = _; rw [unhide HNT0, if_neg (by simp), if_pos (.inl hl0)]
    go_wp2_with fail
    go_ret
    exact ⟨by rw [unhide HF]; rfl, unhide HX⟩
  by_cases hln : l ≥ (n : Int)
  · have HF : Hid (ntS ⟨o, l, r, f, m, s⟩ T = 0) := by show _ = _; rw [unhide HNT0, if_neg (by simp), if_pos (.inr (by rw [unhide HN]; exact hln))]
    go_wp2_with fail
    go_ret
    exact ⟨by rw [unhide HF]; rfl, unhide HX⟩
  obtain ⟨i, rfl⟩ : ∃ i : Nat, l = i := ⟨l.toNat, by omega⟩
  have hin : (i : Int) < (n : Int) := by omega
  have hiT : i < T.length := by rw [unhide HN]; omega
  have hta : tat T i = T[i] := by unfold tat; rw [if_neg (by omega)]; simp [List.getD, hiT]
  obtain ⟨bT, oT, hp, hbT, hrT⟩ := (unhide HLX).2 i hiT
  have ca := hrT 0 (.int .i64 (T[i])) rfl
  rw [← hta] at ca
  simp only [kI, Nat.mul_one, Nat.add_zero] at ca
  have HNT1 : Hid (ntS ⟨o, i, r, f, m, s⟩ T = if rcmpS o (tat T i) (tat T r) then 4 else tabS o (tat T i) (tat T r)) := by show _ = _; rw [unhide HNT0, if_neg (by simp), if_neg (by rw [unhide HN]; omega)]
  obtain ⟨av, hav⟩ : ∃ v, v = tat T i := ⟨_, rfl⟩
  rw [← hav] at ca HNT1
  subst hp
  clear hta hrT hav HNT0 hiT hbT
  by_cases hr0 : r < 0
  · have HNT : Hid (ntS ⟨o, i, r, f, m, s⟩ T = if rcmpS o av 0 then 4 else tabS o av 0) := by have h1 := unhide HNT1; rw [tat_out (.inl hr0)] at h1; exact h1
    have hr0' : ¬ r ≥ 0 := by omega
    clear HNT1
    go_upto_region 10 with fail
    obtain ⟨bv, hbv⟩ : ∃ v : Int, v = 0 := ⟨_, rfl⟩
    clear hbv hr0' x1 x2 ca bv
    have dC := hide (rcmp_any o av 0 X)
    obtain ⟨cv, hcv⟩ : ∃ v, v = rcmpS o av 0 := ⟨_, rfl⟩
    rw [← hcv] at dC
    have HCV := hide hcv
    clear hcv
    go_wp2_with fail
    refine (unhide dC).mono ?_
    rintro e w2 ⟨rfl, hw2⟩
    rw [hw2]
    clear hw2 w2 dC
    cases cv with
    | true =>
      have HF : Hid (ntS ⟨o, i, r, f, m, s⟩ T = 4) := (unhide HNT).trans (by rw [← unhide HCV]; rfl)
      go_wp2_with fail
      go_ret
      exact ⟨by rw [unhide HF]; rfl, unhide HX⟩
    | false =>
      have HF : Hid (ntS ⟨o, i, r, f, m, s⟩ T = tabS o av 0) := (unhide HNT).trans (by rw [← unhide HCV]; rfl)
      have dT := hide (table_any X)
      obtain ⟨Y, hY⟩ : ∃ Y, Y = X.alloc tbO := ⟨_, rfl⟩
      obtain ⟨g, hg⟩ : ∃ g, g = X.heap.size := ⟨_, rfl⟩
      have HTC : Hid (∀ i, Y.cell? ⟨g, i, none⟩ = tbC[i]?) := fun i => by rw [hY, hg]; exact tb_cell X i
      have hc0 : Y.cell? ⟨w.heap.size, 0, none⟩ = some (.int .i64 o) := by rw [hY, World.cell?_alloc_lt _ _ _ (unhide HXlt)]; exact unhide HXO
      have HY : Hid (Below w.heap.size w Y) := by rw [hY]; exact (unhide HX).alloc (unhide HX).size _
      rw [← hY, ← hg] at dT
      clear hY hg
      go_wp2_with fail
      refine (unhide dT).mono ?_
      rintro e w2 ⟨rfl, hw2⟩
      rw [hw2]
      clear hw2 w2 dT
      go_wp2_with fail
      go_loopw [10] (fun v wr => ∃ (k : Nat), v = .int .i64 k ∧ k ≤ 18 ∧ Hid ((∃ mm, wr = Y.drewN mm) ∧ ∀ j, j < k → tP o av 0 (tb j) = false)) (fun v _ => 18 - (intOf v).toNat)
      case atStart => exact ⟨0, rfl, by omega, ⟨0, rfl⟩, fun j h => by omega⟩
      case round =>
        obtain ⟨k, rfl, hk, hrel⟩ := hrel
        obtain ⟨mm, hwr⟩ := (unhide hrel).1
        rw [hwr]
        have HJ := hide (unhide hrel).2
        clear hrel hwr wr
        by_cases hlt : k < 18
        · obtain ⟨c0, c1, c2, c3⟩ := tbC_at k hlt
          have c0 := (unhide HTC _).trans c0
          have c1 := (unhide HTC _).trans c1
          have c2 := (unhide HTC _).trans c2
          have c3 := (unhide HTC _).trans c3
          simp only [Nat.add_zero] at c0
          have hlt' : (k : Int) < 18 := by omega
          have hk0 : ¬ (k : Int) < 0 := by omega
          have hf : Hid (tP o av 0 (tb k) = true → tabS o av 0 = (tb k).2.2.2) := fun h => tab_hit hlt h (unhide HJ)
          have hn : Hid (tP o av 0 (tb k) = false → ∀ j, j < k + 1 → tP o av 0 (tb j) = false) := fun h j hj => by
            by_cases e : j = k
            · subst e; exact h
            · exact unhide HJ j (by omega)
          have hh : Hid (tP o av 0 (tb k) = ((tb k).1 == o && ((tb k).2.1 == av && ((tb k).2.2.1 == 0 || (tb k).2.2.1 == 0)))) := rfl
          obtain ⟨o', ho⟩ : ∃ v, v = (tb k).1 := ⟨_, rfl⟩
          obtain ⟨a', ha⟩ : ∃ v, v = (tb k).2.1 := ⟨_, rfl⟩
          obtain ⟨b', hb⟩ : ∃ v, v = (tb k).2.2.1 := ⟨_, rfl⟩
          obtain ⟨g', hg⟩ : ∃ v, v = (tb k).2.2.2 := ⟨_, rfl⟩
          rw [← ho] at c0 hh
          rw [← ha] at c1 hh
          rw [← hb] at c2 hh
          rw [← hg] at c3 hf
          clear ho ha hb hg
          by_cases e1 : o' = o
          · by_cases e2 : a' = av
            · by_cases e3 : b' = 0
              · have hfin := hide (unhide hf (by rw [unhide hh, e1, e2, e3]; simp))
                clear hf hn hh
                subst e1 e2 e3
                go_wp2_with fail
                go_quiet (fail)
                go_wp2_with fail
                go_ret
                exact ⟨by rw [unhide HF, unhide hfin]; rfl, below_drewN (unhide HY) _⟩
              · have e3' := beqF e3
                by_cases e4 : b' = 0
                · exact absurd e4 e3
                · have hnn := hide (unhide hn (by rw [unhide hh, e3']; simp))
                  clear hf hn hh
                  subst e1 e2
                  go_wp2_with fail
                  go_quiet (fail)
                  go_wp2_with fail
                  exact ⟨⟨k + 1, by go_num, by omega, ⟨_, rfl⟩, unhide hnn⟩, by simp [intOf]; omega⟩
            · have e2' := beqF e2
              have hnn := hide (unhide hn (by rw [unhide hh, e2']; simp))
              clear hf hn hh
              subst e1
              go_wp2_with fail
              go_quiet (fail)
              go_wp2_with fail
              exact ⟨⟨k + 1, by go_num, by omega, ⟨_, rfl⟩, unhide hnn⟩, by simp [intOf]; omega⟩
          · have e1' := beqF e1
            have hnn := hide (unhide hn (by rw [unhide hh, e1']; simp))
            clear hf hn hh
            go_wp2_with fail
            go_quiet (fail)
            go_wp2_with fail
            exact ⟨⟨k + 1, by go_num, by omega, ⟨_, rfl⟩, unhide hnn⟩, by simp [intOf]; omega⟩
        · have hkn : k = 18 := by omega
          subst hkn
          have hfin := hide (tab_none (unhide HJ))
          go_wp2_with fail
          go_ret
          exact ⟨by rw [unhide HF, unhide hfin]; rfl, below_drewN (unhide HY) _⟩
  by_cases hrn : r < (n : Int)
  · obtain ⟨j, rfl⟩ : ∃ j : Nat, r = j := ⟨r.toNat, by omega⟩
    have hjT : j < T.length := by rw [unhide HN]; omega
    have htb : tat T j = T[j] := by unfold tat; rw [if_neg (by omega)]; simp [List.getD, hjT]
    obtain ⟨bU, oU, hp, hbU, hrU⟩ := (unhide HLX).2 j hjT
    injection hp with hp
    injection hp with hp1 hp2
    subst hp1 hp2
    have cb := hrU 0 (.int .i64 (T[j])) rfl
    rw [← htb] at cb
    simp only [kI, Nat.mul_one, Nat.add_zero] at cb
    have HNT := HNT1
    obtain ⟨bv, hbv⟩ : ∃ v, v = tat T j := ⟨_, rfl⟩
    rw [← hbv] at cb HNT
    have hj0 : (j : Int) ≥ 0 := by omega
    clear htb hrU hbv HNT1 hjT
    go_upto_region 10 with fail
    clear hj0 x1 x2 ca cb
    have dC := hide (rcmp_any o av bv X)
    obtain ⟨cv, hcv⟩ : ∃ v, v = rcmpS o av bv := ⟨_, rfl⟩
    rw [← hcv] at dC
    have HCV := hide hcv
    clear hcv
    go_wp2_with fail
    refine (unhide dC).mono ?_
    rintro e w2 ⟨rfl, hw2⟩
    rw [hw2]
    clear hw2 w2 dC
    cases cv with
    | true =>
      have HF : Hid (ntS ⟨o, i, j, f, m, s⟩ T = 4) := (unhide HNT).trans (by rw [← unhide HCV]; rfl)
      go_wp2_with fail
      go_ret
      exact ⟨by rw [unhide HF]; rfl, unhide HX⟩
    | false =>
      have HF : Hid (ntS ⟨o, i, j, f, m, s⟩ T = tabS o av bv) := (unhide HNT).trans (by rw [← unhide HCV]; rfl)
      have dT := hide (table_any X)
      obtain ⟨Y, hY⟩ : ∃ Y, Y = X.alloc tbO := ⟨_, rfl⟩
      obtain ⟨g, hg⟩ : ∃ g, g = X.heap.size := ⟨_, rfl⟩
      have HTC : Hid (∀ i, Y.cell? ⟨g, i, none⟩ = tbC[i]?) := fun i => by rw [hY, hg]; exact tb_cell X i
      have hc0 : Y.cell? ⟨w.heap.size, 0, none⟩ = some (.int .i64 o) := by rw [hY, World.cell?_alloc_lt _ _ _ (unhide HXlt)]; exact unhide HXO
      have HY : Hid (Below w.heap.size w Y) := by rw [hY]; exact (unhide HX).alloc (unhide HX).size _
      rw [← hY, ← hg] at dT
      clear hY hg
      go_wp2_with fail
      refine (unhide dT).mono ?_
      rintro e w2 ⟨rfl, hw2⟩
      rw [hw2]
      clear hw2 w2 dT
      go_wp2_with fail
      go_loopw [10] (fun v wr => ∃ (k : Nat), v = .int .i64 k ∧ k ≤ 18 ∧ Hid ((∃ mm, wr = Y.drewN mm) ∧ ∀ j, j < k → tP o av bv (tb j) = false)) (fun v _ => 18 - (intOf v).toNat)
      case atStart => exact ⟨0, rfl, by omega, ⟨0, rfl⟩, fun j h => by omega⟩
      case round =>
        obtain ⟨k, rfl, hk, hrel⟩ := hrel
        obtain ⟨mm, hwr⟩ := (unhide hrel).1
        rw [hwr]
        have HJ := hide (unhide hrel).2
        clear hrel hwr wr
        by_cases hlt : k < 18
        · obtain ⟨c0, c1, c2, c3⟩ := tbC_at k hlt
          have c0 := (unhide HTC _).trans c0
          have c1 := (unhide HTC _).trans c1
          have c2 := (unhide HTC _).trans c2
          have c3 := (unhide HTC _).trans c3
          simp only [Nat.add_zero] at c0
          have hlt' : (k : Int) < 18 := by omega
          have hk0 : ¬ (k : Int) < 0 := by omega
          have hf : Hid (tP o av bv (tb k) = true → tabS o av bv = (tb k).2.2.2) := fun h => tab_hit hlt h (unhide HJ)
          have hn : Hid (tP o av bv (tb k) = false → ∀ j, j < k + 1 → tP o av bv (tb j) = false) := fun h j hj => by
            by_cases e : j = k
            · subst e; exact h
            · exact unhide HJ j (by omega)
          have hh : Hid (tP o av bv (tb k) = ((tb k).1 == o && ((tb k).2.1 == av && ((tb k).2.2.1 == 0 || (tb k).2.2.1 == bv)))) := rfl
          obtain ⟨o', ho⟩ : ∃ v, v = (tb k).1 := ⟨_, rfl⟩
          obtain ⟨a', ha⟩ : ∃ v, v = (tb k).2.1 := ⟨_, rfl⟩
          obtain ⟨b', hb⟩ : ∃ v, v = (tb k).2.2.1 := ⟨_, rfl⟩
          obtain ⟨g', hg⟩ : ∃ v, v = (tb k).2.2.2 := ⟨_, rfl⟩
          rw [← ho] at c0 hh
          rw [← ha] at c1 hh
          rw [← hb] at c2 hh
          rw [← hg] at c3 hf
          clear ho ha hb hg
          by_cases e1 : o' = o
          · by_cases e2 : a' = av
            · by_cases e3 : b' = 0
              · have hfin := hide (unhide hf (by rw [unhide hh, e1, e2, e3]; simp))
                clear hf hn hh
                subst e1 e2 e3
                go_wp2_with fail
                go_quiet (fail)
                go_wp2_with fail
                go_ret
                exact ⟨by rw [unhide HF, unhide hfin]; rfl, below_drewN (unhide HY) _⟩
              · have e3' := beqF e3
                by_cases e4 : b' = bv
                · have hfin := hide (unhide hf (by rw [unhide hh, e1, e2, e4]; simp))
                  clear hf hn hh
                  subst e1 e2 e4
                  go_wp2_with fail
                  go_quiet (fail)
                  go_wp2_with fail
                  go_ret
                  exact ⟨by rw [unhide HF, unhide hfin]; rfl, below_drewN (unhide HY) _⟩
                · have e4' := beqF e4
                  have hnn := hide (unhide hn (by rw [unhide hh, e3', e4']; simp))
                  clear hf hn hh
                  subst e1 e2
                  go_wp2_with fail
                  go_quiet (fail)
                  go_wp2_with fail
                  exact ⟨⟨k + 1, by go_num, by omega, ⟨_, rfl⟩, unhide hnn⟩, by simp [intOf]; omega⟩
            · have e2' := beqF e2
              have hnn := hide (unhide hn (by rw [unhide hh, e2']; simp))
              clear hf hn hh
              subst e1
              go_wp2_with fail
              go_quiet (fail)
              go_wp2_with fail
              exact ⟨⟨k + 1, by go_num, by omega, ⟨_, rfl⟩, unhide hnn⟩, by simp [intOf]; omega⟩
          · have e1' := beqF e1
            have hnn := hide (unhide hn (by rw [unhide hh, e1']; simp))
            clear hf hn hh
            go_wp2_with fail
            go_quiet (fail)
            go_wp2_with fail
            exact ⟨⟨k + 1, by go_num, by omega, ⟨_, rfl⟩, unhide hnn⟩, by simp [intOf]; omega⟩
        · have hkn : k = 18 := by omega
          subst hkn
          have hfin := hide (tab_none (unhide HJ))
          go_wp2_with fail
          go_ret
          exact ⟨by rw [unhide HF, unhide hfin]; rfl, below_drewN (unhide HY) _⟩
  · have HNT : Hid (ntS ⟨o, i, r, f, m, s⟩ T = if rcmpS o av 0 then 4 else tabS o av 0) := by have h1 := unhide HNT1; rw [tat_out (.inr (by rw [unhide HN]; omega))] at h1; exact h1
    have hr1 : r ≥ 0 := by omega
    clear HNT1
    go_upto_region 10 with fail
    clear hr1 x1 x2 ca
    have dC := hide (rcmp_any o av 0 X)
    obtain ⟨cv, hcv⟩ : ∃ v, v = rcmpS o av 0 := ⟨_, rfl⟩
    rw [← hcv] at dC
    have HCV := hide hcv
    clear hcv
    go_wp2_with fail
    refine (unhide dC).mono ?_
    rintro e w2 ⟨rfl, hw2⟩
    rw [hw2]
    clear hw2 w2 dC
    cases cv with
    | true =>
      have HF : Hid (ntS ⟨o, i, r, f, m, s⟩ T = 4) := (unhide HNT).trans (by rw [← unhide HCV]; rfl)
      go_wp2_with fail
      go_ret
      exact ⟨by rw [unhide HF]; rfl, unhide HX⟩
    | false =>
      have HF : Hid (ntS ⟨o, i, r, f, m, s⟩ T = tabS o av 0) := (unhide HNT).trans (by rw [← unhide HCV]; rfl)
      have dT := hide (table_any X)
      obtain ⟨Y, hY⟩ : ∃ Y, Y = X.alloc tbO := ⟨_, rfl⟩
      obtain ⟨g, hg⟩ : ∃ g, g = X.heap.size := ⟨_, rfl⟩
      have HTC : Hid (∀ i, Y.cell? ⟨g, i, none⟩ = tbC[i]?) := fun i => by rw [hY, hg]; exact tb_cell X i
      have hc0 : Y.cell? ⟨w.heap.size, 0, none⟩ = some (.int .i64 o) := by rw [hY, World.cell?_alloc_lt _ _ _ (unhide HXlt)]; exact unhide HXO
      have HY : Hid (Below w.heap.size w Y) := by rw [hY]; exact (unhide HX).alloc (unhide HX).size _
      rw [← hY, ← hg] at dT
      clear hY hg
      go_wp2_with fail
      refine (unhide dT).mono ?_
      rintro e w2 ⟨rfl, hw2⟩
      rw [hw2]
      clear hw2 w2 dT
      go_wp2_with fail
      go_loopw [10] (fun v wr => ∃ (k : Nat), v = .int .i64 k ∧ k ≤ 18 ∧ Hid ((∃ mm, wr = Y.drewN mm) ∧ ∀ j, j < k → tP o av 0 (tb j) = false)) (fun v _ => 18 - (intOf v).toNat)
      case atStart => exact ⟨0, rfl, by omega, ⟨0, rfl⟩, fun j h => by omega⟩
      case round =>
        obtain ⟨k, rfl, hk, hrel⟩ := hrel
        obtain ⟨mm, hwr⟩ := (unhide hrel).1
        rw [hwr]
        have HJ := hide (unhide hrel).2
        clear hrel hwr wr
        by_cases hlt : k < 18
        · obtain ⟨c0, c1, c2, c3⟩ := tbC_at k hlt
          have c0 := (unhide HTC _).trans c0
          have c1 := (unhide HTC _).trans c1
          have c2 := (unhide HTC _).trans c2
          have c3 := (unhide HTC _).trans c3
          simp only [Nat.add_zero] at c0
          have hlt' : (k : Int) < 18 := by omega
          have hk0 : ¬ (k : Int) < 0 := by omega
          have hf : Hid (tP o av 0 (tb k) = true → tabS o av 0 = (tb k).2.2.2) := fun h => tab_hit hlt h (unhide HJ)
          have hn : Hid (tP o av 0 (tb k) = false → ∀ j, j < k + 1 → tP o av 0 (tb j) = false) := fun h j hj => by
            by_cases e : j = k
            · subst e; exact h
            · exact unhide HJ j (by omega)
          have hh : Hid (tP o av 0 (tb k) = ((tb k).1 == o && ((tb k).2.1 == av && ((tb k).2.2.1 == 0 || (tb k).2.2.1 == 0)))) := rfl
          obtain ⟨o', ho⟩ : ∃ v, v = (tb k).1 := ⟨_, rfl⟩
          obtain ⟨a', ha⟩ : ∃ v, v = (tb k).2.1 := ⟨_, rfl⟩
          obtain ⟨b', hb⟩ : ∃ v, v = (tb k).2.2.1 := ⟨_, rfl⟩
          obtain ⟨g', hg⟩ : ∃ v, v = (tb k).2.2.2 := ⟨_, rfl⟩
          rw [← ho] at c0 hh
          rw [← ha] at c1 hh
          rw [← hb] at c2 hh
          rw [← hg] at c3 hf
          clear ho ha hb hg
          by_cases e1 : o' = o
          · by_cases e2 : a' = av
            · by_cases e3 : b' = 0
              · have hfin := hide (unhide hf (by rw [unhide hh, e1, e2, e3]; simp))
                clear hf hn hh
                subst e1 e2 e3
                go_wp2_with fail
                go_quiet (fail)
                go_wp2_with fail
                go_ret
                exact ⟨by rw [unhide HF, unhide hfin]; rfl, below_drewN (unhide HY) _⟩
              · have e3' := beqF e3
                by_cases e4 : b' = 0
                · exact absurd e4 e3
                · have hnn := hide (unhide hn (by rw [unhide hh, e3']; simp))
                  clear hf hn hh
                  subst e1 e2
                  go_wp2_with fail
                  go_quiet (fail)
                  go_wp2_with fail
                  exact ⟨⟨k + 1, by go_num, by omega, ⟨_, rfl⟩, unhide hnn⟩, by simp [intOf]; omega⟩
            · have e2' := beqF e2
              have hnn := hide (unhide hn (by rw [unhide hh, e2']; simp))
              clear hf hn hh
              subst e1
              go_wp2_with fail
              go_quiet (fail)
              go_wp2_with fail
              exact ⟨⟨k + 1, by go_num, by omega, ⟨_, rfl⟩, unhide hnn⟩, by simp [intOf]; omega⟩
          · have e1' := beqF e1
            have hnn := hide (unhide hn (by rw [unhide hh, e1']; simp))
            clear hf hn hh
            go_wp2_with fail
            go_quiet (fail)
            go_wp2_with fail
            exact ⟨⟨k + 1, by go_num, by omega, ⟨_, rfl⟩, unhide hnn⟩, by simp [intOf]; omega⟩
        · have hkn : k = 18 := by omega
          subst hkn
          have hfin := hide (tab_none (unhide HJ))
          go_wp2_with fail
          go_ret
          exact ⟨by rw [unhide HF, unhide hfin]; rfl, below_drewN (unhide HY) _⟩
end Go.Proofs.YtbenciieenbmeaaGreatDoor
