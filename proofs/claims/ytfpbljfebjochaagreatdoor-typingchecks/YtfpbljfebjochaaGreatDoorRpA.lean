/- typing, the document's: Is 83, two 67, compared 79, leaf 78. -/
import Derived.Test.YtfpbljfebjochaaGreatDoorTyI
import Derived.Test.YtfpbljfebjochaaGreatDoorTyD
namespace Go.Proofs.YtfpbljfebjochaaGreatDoor
open Go Go.Shelf Go.ChangeShapes Go.WideShapes Go.ChangeAt Go.RowKit Go.Maps
set_option linter.unusedVariables false
set_option maxRecDepth 100000
set_option maxHeartbeats 4000000

theorem rIs_any (n : Int) (w : World) : Calls Tryz.prog 215 #[.int .i64 n] w fun e w' => e = .returned (.bool (dayB n)) ∧ w' = w := by
  unfold dayB
  by_cases h1 : n ≥ 1
  · rw [decide_eq_true (show 1 ≤ n by omega), Bool.true_and]
    go_enter Tryz.func215, Tryz.ntmps215
    go_wp2_with fail
    go_ret
    exact ⟨rfl, rfl⟩
  · rw [decide_eq_false (show ¬ 1 ≤ n by omega), Bool.false_and]
    go_enter Tryz.func215, Tryz.ntmps215
    go_wp2_with fail
    go_ret
    exact ⟨rfl, rfl⟩
def twoI (n : Int) : Int := if n > 2 then 2 else n
/-- may two types stand in a comparison? (the document's) -/
def cmpS (op a b : Int) : Bool := decide (4 ≤ op ∧ op ≤ 9) && (alike a b && (!(a == 4) || (op == 4 || op == 5)))
theorem cmp_any (op a b : Int) (w : World) : Calls Tryz.prog 189 #[.int .i64 op, .int .i64 a, .int .i64 b] w fun e w' => e = .returned (.bool (cmpS op a b)) ∧ w' = w := by
  by_cases h4 : op < 4
  · have e : cmpS op a b = false := by unfold cmpS; rw [decide_eq_false (by omega)]; rfl
    rw [e]
    clear e
    go_enter Tryz.func189, Tryz.ntmps189
    go_wp2_with fail
    go_ret
    exact ⟨rfl, rfl⟩
  by_cases h9 : op > 9
  · have e : cmpS op a b = false := by unfold cmpS; rw [decide_eq_false (by omega)]; rfl
    rw [e]
    clear e
    go_enter Tryz.func189, Tryz.ntmps189
    go_wp2_with fail
    go_ret
    exact ⟨rfl, rfl⟩
  have e : cmpS op a b = (alike a b && (!(a == 4) || (op == 4 || op == 5))) := by unfold cmpS; rw [decide_eq_true (by omega)]; rfl
  rw [e]
  clear e
  unfold alike
  by_cases h5 : a = 5
  · subst h5
    by_cases hb1 : b = 1
    · subst hb1
      go_enter Tryz.func189, Tryz.ntmps189
      go_wp2_with fail
      go_ret
      exact ⟨rfl, rfl⟩
    · have hb1' := beqF hb1
      by_cases hb5 : b = 5
      · subst hb5
        go_enter Tryz.func189, Tryz.ntmps189
        go_wp2_with fail
        go_ret
        exact ⟨rfl, rfl⟩
      · have hb5' := beqF (fun h => hb5 h.symm : ¬ (5 : Int) = b)
        rw [if_neg (fun h => hb5 h.symm), hb1']
        go_enter Tryz.func189, Tryz.ntmps189
        go_wp2_with fail
        go_ret
        exact ⟨rfl, rfl⟩
  have h5' := beqF h5
  by_cases h1 : a = 1
  · subst h1
    by_cases hb5 : b = 5
    · subst hb5
      go_enter Tryz.func189, Tryz.ntmps189
      go_wp2_with fail
      go_ret
      exact ⟨rfl, rfl⟩
    · have hb5' := beqF hb5
      by_cases hb1 : b = 1
      · subst hb1
        go_enter Tryz.func189, Tryz.ntmps189
        go_wp2_with fail
        go_ret
        exact ⟨rfl, rfl⟩
      · have hb1' := beqF (fun h => hb1 h.symm : ¬ (1 : Int) = b)
        rw [if_neg (fun h => hb1 h.symm), hb5']
        go_enter Tryz.func189, Tryz.ntmps189
        go_wp2_with fail
        go_ret
        exact ⟨rfl, rfl⟩
  have h1' := beqF h1
  by_cases hab : a = b
  · subst hab
    rw [if_pos rfl]
    by_cases h0 : a = 0
    · subst h0
      go_enter Tryz.func189, Tryz.ntmps189
      go_wp2_with fail
      go_ret
      exact ⟨rfl, rfl⟩
    · have h0' := beqF h0
      have h0'' : (a != 0) = true := by simpa using h0
      rw [h0']
      by_cases h4a : a = 4
      · subst h4a
        by_cases ho4 : op = 4
        · subst ho4
          go_enter Tryz.func189, Tryz.ntmps189
          go_wp2_with fail
          go_ret
          exact ⟨rfl, rfl⟩
        · have ho4' := beqF ho4
          rw [ho4']
          go_enter Tryz.func189, Tryz.ntmps189
          go_wp2_with fail
          go_ret
          exact ⟨rfl, rfl⟩
      · have h4' := beqF h4a
        have h4'' : (a != 4) = true := by simpa using h4a
        rw [h4']
        go_enter Tryz.func189, Tryz.ntmps189
        go_wp2_with fail
        go_ret
        exact ⟨rfl, rfl⟩
  · have hab' := beqF hab
    rw [if_neg hab, h5', h1']
    go_enter Tryz.func189, Tryz.ntmps189
    go_wp2_with fail
    go_ret
    exact ⟨rfl, rfl⟩

/-- the type of a node without parts (the document's) -/
def leafS (x : Nd) : Int := if x.op = 16 then (fldS x.field).2 else if x.op = 17 then 1 else if x.op = 18 then 2 else if x.op = 19 then tif (dayB x.num) 3 else if x.op = 20 then tif (x.num == 0 || x.num == 1) 4 else 0
theorem leaf_any (x : Nd) (w : World) : Calls Tryz.prog 188 #[x.val] w fun e w' => e = .returned (.int .i64 (leafS x)) ∧ Below w.heap.size w w' := by
  obtain ⟨o, l, r, f, m, s⟩ := x
  unfold leafS Nd.val
  simp only
  have HB : Hid (∀ ob, Below w.heap.size w (w.alloc ob)) := fun ob => Below.a1 w ob
  by_cases h16 : o = 16
  · subst h16
    rw [if_pos rfl]
    have d := hide (fun X => rfield_any X f)
    obtain ⟨nm, hnm⟩ : ∃ v, v = (fldS f).1 := ⟨_, rfl⟩
    obtain ⟨ty, hty⟩ : ∃ v, v = (fldS f).2 := ⟨_, rfl⟩
    rw [← hnm, ← hty] at d
    rw [← hty]
    clear hnm hty
    go_enter Tryz.func188, Tryz.ntmps188
    go_wp2_with fail
    refine (unhide d _).mono ?_
    rintro e w1 ⟨rfl, hw⟩
    have HW := hide ((unhide HB _).trans (hw.mono (by simp)))
    clear hw
    go_wp2_with fail
    go_ret
    exact ⟨rfl, unhide HW⟩
  have h16' := beqF h16
  rw [if_neg h16]
  by_cases h17 : o = 17
  · subst h17
    go_enter Tryz.func188, Tryz.ntmps188
    go_wp2_with fail
    go_ret
    exact ⟨rfl, unhide HB _⟩
  have h17' := beqF h17
  rw [if_neg h17]
  by_cases h18 : o = 18
  · subst h18
    go_enter Tryz.func188, Tryz.ntmps188
    go_wp2_with fail
    go_ret
    exact ⟨rfl, unhide HB _⟩
  have h18' := beqF h18
  rw [if_neg h18]
  by_cases h19 : o = 19
  · subst h19
    rw [if_pos rfl]
    by_cases m1 : m < 1
    · have e : dayB m = false := by unfold dayB; rw [decide_eq_false (show ¬ 1 ≤ m by omega)]; rfl
      rw [e]
      clear e
      go_enter Tryz.func188, Tryz.ntmps188
      go_wp2_with fail
      go_ret
      exact ⟨rfl, unhide HB _⟩
    by_cases m2 : m > 3652059
    · have e : dayB m = false := by unfold dayB; rw [decide_eq_false (show ¬ m ≤ 3652059 by omega), Bool.and_false]
      rw [e]
      clear e
      go_enter Tryz.func188, Tryz.ntmps188
      go_wp2_with fail
      go_ret
      exact ⟨rfl, unhide HB _⟩
    have e : dayB m = true := by unfold dayB; rw [decide_eq_true (show 1 ≤ m by omega), decide_eq_true (show m ≤ 3652059 by omega)]; rfl
    have d := hide (fun X => rIs_any m X)
    rw [e] at d ⊢
    clear e
    go_enter Tryz.func188, Tryz.ntmps188
    go_wp2_with fail
    refine (unhide d _).mono ?_
    rintro e w1 ⟨rfl, hw⟩
    have HW : Hid (Below w.heap.size w w1) := by rw [hw]; exact unhide HB _
    clear hw
    go_wp2_with fail
    go_ret
    exact ⟨rfl, unhide HW⟩
  have h19' := beqF h19
  rw [if_neg h19]
  by_cases h20 : o = 20
  · subst h20
    rw [if_pos rfl]
    by_cases m0 : m = 0
    · subst m0
      go_enter Tryz.func188, Tryz.ntmps188
      go_wp2_with fail
      go_ret
      exact ⟨rfl, unhide HB _⟩
    have m0' := beqF m0
    by_cases m1 : m = 1
    · subst m1
      go_enter Tryz.func188, Tryz.ntmps188
      go_wp2_with fail
      go_ret
      exact ⟨rfl, unhide HB _⟩
    have m1' := beqF m1
    rw [m0', m1']
    go_enter Tryz.func188, Tryz.ntmps188
    go_wp2_with fail
    go_ret
    exact ⟨rfl, unhide HB _⟩
  have h20' := beqF h20
  rw [if_neg h20]
  go_enter Tryz.func188, Tryz.ntmps188
  go_wp2_with fail
  go_ret
  exact ⟨rfl, unhide HB _⟩
end Go.Proofs.YtfpbljfebjochaaGreatDoor
