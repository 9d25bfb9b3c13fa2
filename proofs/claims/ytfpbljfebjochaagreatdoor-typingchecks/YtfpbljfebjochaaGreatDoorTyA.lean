/- typing: small ones: isField 24, isTyped 47, typeIf 70, must 48, singleType 68, areAlike 75. -/
import Derived.Test.YtfpbljfebjochaaGreatDoorProg
import Derived.Handy
import Derived.Deep.RegionHeld3
import Derived.WalkKit
namespace Go.Proofs.YtfpbljfebjochaaGreatDoor
open Go Go.ChangeShapes Go.WideShapes Go.ChangeAt Go.RowKit
set_option linter.unusedVariables false
/-- a fact that the walk does not look at -/
def Hid (P : Prop) : Prop := P
theorem hide {P : Prop} (h : P) : Hid P := h
theorem unhide {P : Prop} (h : Hid P) : P := h
theorem beqF {a b : Int} (h : ¬ a = b) : (a == b) = false := by rw [beq_eq_false_iff_ne]; exact h
theorem beqT {a b : Int} (h : a = b) : (a == b) = true := by rw [beq_iff_eq]; exact h
/-- is it a field's number? -/
def isF (f : Int) : Bool := decide (1 ≤ f) && decide (f ≤ 14)
theorem isField_any (f : Int) (w : World) : Calls Tryz.prog 140 #[.int .i64 f] w fun e w' => e = .returned (.bool (isF f)) ∧ w' = w := by
  by_cases h1 : f ≥ 1
  · by_cases h2 : f ≤ 14
    · have e : isF f = true := by unfold isF; rw [decide_eq_true (p := 1 ≤ f) h1, decide_eq_true h2]; rfl
      rw [e]
      go_enter Tryz.func140, Tryz.ntmps140
      go_wp2_with fail
      go_ret
      exact ⟨rfl, rfl⟩
    · have e : isF f = false := by unfold isF; rw [decide_eq_false h2, Bool.and_false]
      rw [e]
      go_enter Tryz.func140, Tryz.ntmps140
      go_wp2_with fail
      go_ret
      exact ⟨rfl, rfl⟩
  · have e : isF f = false := by unfold isF; rw [decide_eq_false (p := 1 ≤ f) h1, Bool.false_and]
    rw [e]
    go_enter Tryz.func140, Tryz.ntmps140
    go_wp2_with fail
    go_ret
    exact ⟨rfl, rfl⟩
theorem isTyped_any (t : Int) (w : World) : Calls Tryz.prog 137 #[.int .i64 t] w fun e w' => e = .returned (.bool (!(t == 0))) ∧ w' = w := by
  go_enter Tryz.func137, Tryz.ntmps137
  go_wp2_with fail
  go_ret
  exact ⟨rfl, rfl⟩
def tif (b : Bool) (t : Int) : Int := if b then t else 0
theorem typeIf_any (b : Bool) (t : Int) (w : World) : Calls Tryz.prog 193 #[.bool b, .int .i64 t] w fun e w' => e = .returned (.int .i64 (tif b t)) ∧ w' = w := by
  cases b
  · go_enter Tryz.func193, Tryz.ntmps193
    go_wp2_with fail
    go_ret
    exact ⟨rfl, rfl⟩
  · go_enter Tryz.func193, Tryz.ntmps193
    go_wp2_with fail
    go_ret
    exact ⟨rfl, rfl⟩
/-- the fault of what is not so -/
def flt (b : Bool) : Value := if b then .nilIface else .iface 55 (.int .i64 140)
theorem must_any (b : Bool) (w : World) : Calls Tryz.prog 138 #[.bool b] w fun e w' => e = .returned (flt b) ∧ w' = w := by
  cases b
  · go_enter Tryz.func138, Tryz.ntmps138
    go_wp2_with fail
    go_ret
    exact ⟨rfl, rfl⟩
  · go_enter Tryz.func138, Tryz.ntmps138
    go_wp2_with fail
    go_ret
    exact ⟨rfl, rfl⟩
/-- not and the sign - -/
def sgl (op t : Int) : Int := if op = 3 then tif (t == 4) 4 else tif (t == 1 || t == 5) t
theorem single_any (op t : Int) (w : World) : Calls Tryz.prog 191 #[.int .i64 op, .int .i64 t] w fun e w' => e = .returned (.int .i64 (sgl op t)) ∧ w' = w := by
  unfold sgl
  have d := hide typeIf_any
  by_cases h : op = 3
  · subst h
    go_enter Tryz.func191, Tryz.ntmps191
    go_wp2_with fail
    refine (unhide d _ _ _).mono ?_
    rintro e w1 ⟨rfl, hw⟩
    rw [hw]; clear hw w1
    go_wp2_with fail
    go_ret
    exact ⟨rfl, rfl⟩
  · have h' := beqF h
    rw [if_neg h]
    by_cases h1 : t = 1
    · subst h1
      go_enter Tryz.func191, Tryz.ntmps191
      go_wp2_with fail
      refine (unhide d true _ _).mono ?_
      rintro e w1 ⟨rfl, hw⟩
      rw [hw]; clear hw w1
      go_wp2_with fail
      go_ret
      exact ⟨rfl, rfl⟩
    · have h1' := beqF h1
      have e1 : (t == 1 || t == 5) = (t == 5) := by rw [h1']; rfl
      rw [e1]
      go_enter Tryz.func191, Tryz.ntmps191
      go_wp2_with fail
      refine (unhide d _ _ _).mono ?_
      rintro e w1 ⟨rfl, hw⟩
      rw [hw]; clear hw w1
      go_wp2_with fail
      go_ret
      exact ⟨rfl, rfl⟩
/-- may two types be held against each other? -/
def alike (a b : Int) : Bool := if a = b then !(a == 0) else (a == 5 && b == 1) || (a == 1 && b == 5)
theorem alike_any (a b : Int) (w : World) : Calls Tryz.prog 216 #[.int .i64 a, .int .i64 b] w fun e w' => e = .returned (.bool (alike a b)) ∧ w' = w := by
  unfold alike
  have d := hide isTyped_any
  by_cases h : a = b
  · subst h
    rw [if_pos rfl]
    go_enter Tryz.func216, Tryz.ntmps216
    go_wp2_with fail
    refine (unhide d _ _).mono ?_
    rintro e w1 ⟨rfl, hw⟩
    rw [hw]; clear hw w1
    go_wp2_with fail
    go_ret
    exact ⟨rfl, rfl⟩
  · have h' := beqF h
    rw [if_neg h]
    by_cases h5 : a = 5
    · subst h5
      by_cases h1 : b = 1
      · subst h1
        go_enter Tryz.func216, Tryz.ntmps216
        go_wp2_with fail
        go_ret
        exact ⟨rfl, rfl⟩
      · have h1' := beqF h1
        rw [h1']
        go_enter Tryz.func216, Tryz.ntmps216
        go_wp2_with fail
        go_ret
        exact ⟨rfl, rfl⟩
    · have h5' := beqF h5
      by_cases h1 : a = 1
      · subst h1
        go_enter Tryz.func216, Tryz.ntmps216
        go_wp2_with fail
        go_ret
        exact ⟨by simp, rfl⟩
      · have h1' := beqF h1
        rw [h5', h1']
        go_enter Tryz.func216, Tryz.ntmps216
        go_wp2_with fail
        go_ret
        exact ⟨rfl, rfl⟩
end Go.Proofs.YtfpbljfebjochaaGreatDoor
