import Derived.Test.YtbenciieenbmeaaGreatDoorProg
import Derived.Handy
import Derived.Deep.RegionHeld3
import Derived.WalkKit
import Derived.Lib.LaidTab
import Derived.Below
import Derived.BigQuiet
import Derived.BigCall
import Derived.Deep.QuietTactic
import Derived.WalkSmall
import Derived.Deep.MidRow
import Derived.RangeFuncOwn
import Derived.Laws.AppendOwnNone
import Derived.Deep.AppendLies
import Derived.Laws.AppendOwn
import Derived.Laws.BitsAll
import Derived.Laws.MakeOwn
import Derived.Laws.OwnMore
import Derived.Lib.Bytes
import Derived.Lib.LastIndexByte
import Derived.Lib.SplitLaws
import Derived.Maps.AppendAt
import Derived.OpenShut
import Derived.ProofKit
import Derived.Shelf.Abstract
import Derived.WalkLawsBesides
/- typing: small ones: isField 24, isTyped 47, typeIf 70, must 48, singleType 68, areAlike 75. -/
namespace Go.Proofs.YtbenciieenbmeaaGreatDoor
open Go Go.ChangeShapes Go.WideShapes Go.ChangeAt Go.RowKit
set_option linter.unusedVariables false
/-- a fact that the walk does not look at -/
def Hid (P : Prop) : Prop := P
theorem hide {P : Prop} (h : P) : Hid P := h
theorem unhide {P : Prop} (h : Hid P) : P := h
theorem beqF {a b : Int} (h : ¬ a = b) : (a == b) = false := by rw [beq_eq_false_iff_ne]; exact h
theorem beqT {a b : Int} (h : a = b) : (a == b) = true := by rw [beq_iff_eq]; exact h
/-- is it a field's number? -/
def isF (f : Int) : Bool := decide (1 ≤ f) && decide (f ≤ 14)
theorem isField_any (f : Int) (w : World) : Calls Tryz.prog 69 #[.int .i64 f] w fun e w' => e = .returned (.bool (isF f)) ∧ w' = w := by
  by_cases h1 : f ≥ 1
  · by_cases h2 : f ≤ 14
    · have e : isF f = true := by unfold isF; rw [decide_eq_true (p := 1 ≤ f) h1, decide_eq_true h2]; rfl
      rw [e]
      go_enter Tryz.func69, Tryz.ntmps69
      go_wp2_with fail
      go_ret
      exact ⟨rfl, rfl⟩
    · have e : isF f = false := by unfold isF; rw [decide_eq_false h2, Bool.and_false]
      rw [e]
      go_enter Tryz.func69, Tryz.ntmps69
      go_wp2_with fail
      go_ret
      exact ⟨rfl, rfl⟩
  · have e : isF f = false := by unfold isF; rw [decide_eq_false (p := 1 ≤ f) h1, Bool.false_and]
    rw [e]
    go_enter Tryz.func69, Tryz.ntmps69
    go_wp2_with fail
    go_ret
    exact ⟨rfl, rfl⟩
theorem isTyped_any (t : Int) (w : World) : Calls Tryz.prog 66 #[.int .i64 t] w fun e w' => e = .returned (.bool (!(t == 0))) ∧ w' = w := by
  go_enter Tryz.func66, Tryz.ntmps66
  go_wp2_with fail
  go_ret
  exact ⟨rfl, rfl⟩
def tif (b : Bool) (t : Int) : Int := if b then t else 0
theorem typeIf_any (b : Bool) (t : Int) (w : World) : Calls Tryz.prog 102 #[.bool b, .int .i64 t] w fun e w' => e = .returned (.int .i64 (tif b t)) ∧ w' = w := by
  cases b
  · go_enter Tryz.func102, Tryz.ntmps102
    go_wp2_with fail
    go_ret
    exact ⟨rfl, rfl⟩
  · go_enter Tryz.func102, Tryz.ntmps102
    go_wp2_with fail
    go_ret
    exact ⟨rfl, rfl⟩
/-- the fault of what is not so -/
def flt (b : Bool) : Value := if b then .nilIface else .iface 35 (.int .i64 140)
theorem must_any (b : Bool) (w : World) : Calls Tryz.prog 67 #[.bool b] w fun e w' => e = .returned (flt b) ∧ w' = w := by
  cases b
  · go_enter Tryz.func67, Tryz.ntmps67
    go_wp2_with fail
    go_ret
    exact ⟨rfl, rfl⟩
  · go_enter Tryz.func67, Tryz.ntmps67
    go_wp2_with fail
    go_ret
    exact ⟨rfl, rfl⟩
/-- not and the sign - -/
def sgl (op t : Int) : Int := if op = 3 then tif (t == 4) 4 else tif (t == 1 || t == 5) t
theorem single_any (op t : Int) (w : World) : Calls Tryz.prog 100 #[.int .i64 op, .int .i64 t] w fun e w' => e = .returned (.int .i64 (sgl op t)) ∧ w' = w := by
  unfold sgl
  have d := hide typeIf_any
  by_cases h : op = 3
  · subst h
    go_enter Tryz.func100, Tryz.ntmps100
    go_wp2_with fail
    refine (unhide d _ _ _).mono ?_
    rintro e w1 ⟨rfl, hw⟩
    rw [hw]; clear hw w1
    go_wp2_with fail
    go_ret
    exact ⟨rfl, rfl⟩
  · have h' := beqF h
    rw [if_neg h]
    by_cases h1 : t = 1
    · subst h1
      go_enter Tryz.func100, Tryz.ntmps100
      go_wp2_with fail
      refine (unhide d true _ _).mono ?_
      rintro e w1 ⟨rfl, hw⟩
      rw [hw]; clear hw w1
      go_wp2_with fail
      go_ret
      exact ⟨rfl, rfl⟩
    · have h1' := beqF h1
      have e1 : (t == 1 || t == 5) = (t == 5) := by rw [h1']; rfl
      rw [e1]
      go_enter Tryz.func100, Tryz.ntmps100
      go_wp2_with fail
      refine (unhide d _ _ _).mono ?_
      rintro e w1 ⟨rfl, hw⟩
      rw [hw]; clear hw w1
      go_wp2_with fail
      go_ret
      exact ⟨rfl, rfl⟩
/-- may two types be held against each other? -/
def alike (a b : Int) : Bool := if a = b then !(a == 0) else (a == 5 && b == 1) || (a == 1 && b == 5)
theorem alike_any (a b : Int) (w : World) : Calls Tryz.prog 118 #[.int .i64 a, .int .i64 b] w fun e w' => e = .returned (.bool (alike a b)) ∧ w' = w := by
  unfold alike
  have d := hide isTyped_any
  by_cases h : a = b
  · subst h
    rw [if_pos rfl]
    go_enter Tryz.func118, Tryz.ntmps118
    go_wp2_with fail
    refine (unhide d _ _).mono ?_
    rintro e w1 ⟨rfl, hw⟩
    rw [hw]; clear hw w1
    go_wp2_with fail
    go_ret
    exact ⟨rfl, rfl⟩
  · have h' := beqF h
    rw [if_neg h]
    by_cases h5 : a = 5
    · subst h5
      by_cases h1 : b = 1
      · subst h1
        go_enter Tryz.func118, Tryz.ntmps118
        go_wp2_with fail
        go_ret
        exact ⟨rfl, rfl⟩
      · have h1' := beqF h1
        rw [h1']
        go_enter Tryz.func118, Tryz.ntmps118
        go_wp2_with fail
        go_ret
        exact ⟨rfl, rfl⟩
    · have h5' := beqF h5
      by_cases h1 : a = 1
      · subst h1
        go_enter Tryz.func118, Tryz.ntmps118
        go_wp2_with fail
        go_ret
        exact ⟨by simp, rfl⟩
      · have h1' := beqF h1
        rw [h5', h1']
        go_enter Tryz.func118, Tryz.ntmps118
        go_wp2_with fail
        go_ret
        exact ⟨rfl, rfl⟩
end Go.Proofs.YtbenciieenbmeaaGreatDoor
/- typing: the tables; Field 9. -/
namespace Go.Proofs.YtbenciieenbmeaaGreatDoor
open Go Go.ChangeShapes Go.WideShapes Go.ChangeAt Go.RowKit
set_option linter.unusedVariables false
/-- the fields: names and types -/
def fldL : List (ByteArray × Int) := [(⟨#[]⟩, 0), (⟨#[115, 101, 113]⟩, 1), (⟨#[108, 105, 110, 101]⟩, 1), (⟨#[100, 97, 121]⟩, 3), (⟨#[107, 105, 110, 100]⟩, 1), (⟨#[107, 101, 121]⟩, 2), (⟨#[97, 99, 99, 111, 117, 110, 116]⟩, 2), (⟨#[97, 109, 111, 117, 110, 116]⟩, 5), (⟨#[100, 101, 98, 105, 116]⟩, 5), (⟨#[99, 114, 101, 100, 105, 116]⟩, 5), (⟨#[116, 97, 103]⟩, 2), (⟨#[109, 101, 109, 111]⟩, 2), (⟨#[109, 111, 110, 116, 104]⟩, 1), (⟨#[121, 101, 97, 114]⟩, 1), (⟨#[114, 111, 111, 116]⟩, 2)]
def fldC : Array Value := #[.string ⟨#[]⟩, .int .i64 0, .string ⟨#[115, 101, 113]⟩, .int .i64 1, .string ⟨#[108, 105, 110, 101]⟩, .int .i64 1, .string ⟨#[100, 97, 121]⟩, .int .i64 3, .string ⟨#[107, 105, 110, 100]⟩, .int .i64 1, .string ⟨#[107, 101, 121]⟩, .int .i64 2, .string ⟨#[97, 99, 99, 111, 117, 110, 116]⟩, .int .i64 2, .string ⟨#[97, 109, 111, 117, 110, 116]⟩, .int .i64 5, .string ⟨#[100, 101, 98, 105, 116]⟩, .int .i64 5, .string ⟨#[99, 114, 101, 100, 105, 116]⟩, .int .i64 5, .string ⟨#[116, 97, 103]⟩, .int .i64 2, .string ⟨#[109, 101, 109, 111]⟩, .int .i64 2, .string ⟨#[109, 111, 110, 116, 104]⟩, .int .i64 1, .string ⟨#[121, 101, 97, 114]⟩, .int .i64 1, .string ⟨#[114, 111, 111, 116]⟩, .int .i64 2]
def recL : List (Int × Int × Int × Int) := [(12, 1, 1, 1), (12, 5, 5, 5), (12, 3, 1, 3), (12, 1, 3, 3), (13, 1, 1, 1), (13, 5, 5, 5), (13, 3, 1, 3), (13, 3, 3, 1), (14, 1, 1, 1), (14, 5, 1, 5), (14, 1, 5, 5)]
def recC : Array Value := #[.int .i64 12, .int .i64 1, .int .i64 1, .int .i64 1, .int .i64 12, .int .i64 5, .int .i64 5, .int .i64 5, .int .i64 12, .int .i64 3, .int .i64 1, .int .i64 3, .int .i64 12, .int .i64 1, .int .i64 3, .int .i64 3, .int .i64 13, .int .i64 1, .int .i64 1, .int .i64 1, .int .i64 13, .int .i64 5, .int .i64 5, .int .i64 5, .int .i64 13, .int .i64 3, .int .i64 1, .int .i64 3, .int .i64 13, .int .i64 3, .int .i64 3, .int .i64 1, .int .i64 14, .int .i64 1, .int .i64 1, .int .i64 1, .int .i64 14, .int .i64 5, .int .i64 1, .int .i64 5, .int .i64 14, .int .i64 1, .int .i64 5, .int .i64 5]
def monL : List Int := [31, 28, 31, 30, 31, 30, 31, 31, 30, 31, 30, 31]
/-- the table of fields lies in its variable -/
def Flds (W : World) : Prop := W.var? Tryz.prog "daybook/typing.fields" = some fldC
def Recs (W : World) : Prop := W.var? Tryz.prog "daybook/typing.reckonings" = some recC
def Mon (W : World) : Prop := Lib.TabIs Tryz.prog W "daybook/day.monthDays" .i64 monL
theorem fld_no : Tryz.prog.globalNamed "daybook/typing.fields" = some 0 := by kernel_rfl
theorem rec_no : Tryz.prog.globalNamed "daybook/typing.reckonings" = some 1 := by kernel_rfl
theorem mon_no : Tryz.prog.globalNamed "daybook/day.monthDays" = some 2 := by kernel_rfl
theorem var_lt {w : World} {nm : String} {g : Nat} {cs : Array Value} (hg : Tryz.prog.globalNamed nm = some g) (h : w.var? Tryz.prog nm = some cs) : g < w.heap.size := by
  rcases Nat.lt_or_ge g w.heap.size with h' | h'
  · exact h'
  · unfold World.var? at h
    rw [hg] at h
    simp only [Option.bind_some] at h
    rw [Array.getElem?_eq_none h'] at h; cases h
theorem var_keep {w w' : World} {nm : String} {g : Nat} {cs : Array Value} (hg : Tryz.prog.globalNamed nm = some g) (h : w.var? Tryz.prog nm = some cs) (hb : w'.heap[g]? = w.heap[g]?) : w'.var? Tryz.prog nm = some cs := by
  unfold World.var? at h ⊢
  rw [hg] at h ⊢
  simp only [Option.bind_some] at h ⊢
  rw [hb]
  exact h
theorem Flds.below {w w' : World} (h : Flds w) (hb : Below w.heap.size w w') : Flds w' := var_keep fld_no h (hb.block 0 (var_lt fld_no h))
theorem Recs.below {w w' : World} (h : Recs w) (hb : Below w.heap.size w w') : Recs w' := var_keep rec_no h (hb.block 1 (var_lt rec_no h))
theorem Mon.below {w w' : World} (h : Mon w) (hb : Below w.heap.size w w') : Mon w' := var_keep mon_no h (hb.block 2 (var_lt mon_no h))
theorem Flds.cell {w : World} (h : Flds w) (i : Nat) : w.cell? ⟨0, i, none⟩ = fldC[i]? := World.var?_cell fld_no h i
theorem Recs.cell {w : World} (h : Recs w) (i : Nat) : w.cell? ⟨1, i, none⟩ = recC[i]? := World.var?_cell rec_no h i
/-- a field's name and type -/
def fldS (f : Int) : ByteArray × Int := if isF f then fldL.getD f.toNat (⟨#[]⟩, 0) else (⟨#[]⟩, 0)
def fldT (f : Int) : Int := (fldS f).2
theorem fldC_at (k : Nat) (hk : k < 15) : fldC[k * 2 + 0]? = some (.string (fldL.getD k (⟨#[]⟩, 0)).1) ∧ fldC[k * 2 + 1]? = some (.int .i64 (fldL.getD k (⟨#[]⟩, 0)).2) := by
  match k, hk with
  | 0, _ => exact ⟨rfl, rfl⟩
  | 1, _ => exact ⟨rfl, rfl⟩
  | 2, _ => exact ⟨rfl, rfl⟩
  | 3, _ => exact ⟨rfl, rfl⟩
  | 4, _ => exact ⟨rfl, rfl⟩
  | 5, _ => exact ⟨rfl, rfl⟩
  | 6, _ => exact ⟨rfl, rfl⟩
  | 7, _ => exact ⟨rfl, rfl⟩
  | 8, _ => exact ⟨rfl, rfl⟩
  | 9, _ => exact ⟨rfl, rfl⟩
  | 10, _ => exact ⟨rfl, rfl⟩
  | 11, _ => exact ⟨rfl, rfl⟩
  | 12, _ => exact ⟨rfl, rfl⟩
  | 13, _ => exact ⟨rfl, rfl⟩
  | 14, _ => exact ⟨rfl, rfl⟩
theorem field_any {w : World} (hT : Flds w) (f : Int) : Calls Tryz.prog 75 #[.int .i64 f] w fun e w' => e = .returned (.tuple #[.string (fldS f).1, .int .i64 (fldS f).2]) ∧ ∃ m, w' = w.drewN m := by
  have d := hide (isField_any f)
  by_cases h : isF f = true
  · have h' := h
    rw [isF, Bool.and_eq_true, decide_eq_true_iff, decide_eq_true_iff] at h'
    obtain ⟨k, rfl⟩ : ∃ k : Nat, f = k := ⟨f.toNat, by omega⟩
    have hk : k < 15 := by omega
    have e : fldS k = fldL.getD k (⟨#[]⟩, 0) := by unfold fldS; rw [if_pos h]; rfl
    rw [e]
    obtain ⟨c0, c1⟩ := fldC_at k hk
    have l0 := (hT.cell (k * 2 + 0)).trans c0
    have l1 := (hT.cell (k * 2 + 1)).trans c1
    obtain ⟨nm, hnm⟩ : ∃ nm, nm = (fldL.getD k (⟨#[]⟩, 0)).1 := ⟨_, rfl⟩
    obtain ⟨ty, hty⟩ : ∃ ty, ty = (fldL.getD k (⟨#[]⟩, 0)).2 := ⟨_, rfl⟩
    rw [← hnm] at l0 ⊢
    rw [← hty] at l1 ⊢
    simp only [Nat.add_zero] at l0
    have h1 : (k : Int) < 15 := by omega
    have h2 : ¬ (k : Int) < 0 := by omega
    rw [h] at d
    clear hnm hty c0 c1 h e h'
    go_enter Tryz.func75, Tryz.ntmps75
    go_wp2_with fail
    refine (unhide d _).mono ?_
    rintro e w1 ⟨rfl, hw⟩
    rw [hw]; clear hw w1
    go_wp2_with fail
    go_quiet (fail)
    go_wp2_with fail
    go_ret2
    exact ⟨rfl, _, rfl⟩
  · have h' : isF f = false := by simpa using h
    have e : fldS f = (⟨#[]⟩, 0) := by unfold fldS; rw [if_neg h]
    rw [e]
    rw [h'] at d
    go_enter Tryz.func75, Tryz.ntmps75
    go_wp2_with fail
    refine (unhide d _).mono ?_
    rintro e w1 ⟨rfl, hw⟩
    rw [hw]; clear hw w1
    go_wp2_with fail
    go_ret2
    exact ⟨rfl, 0, rfl⟩
end Go.Proofs.YtbenciieenbmeaaGreatDoor
/- typing: reckonedType 76, pairType 69. -/
namespace Go.Proofs.YtbenciieenbmeaaGreatDoor
open Go Go.ChangeShapes Go.WideShapes Go.ChangeAt Go.RowKit
set_option linter.unusedVariables false
def rc (k : Nat) : Int × Int × Int × Int := recL.getD k (0, 0, 0, 0)
theorem ix145_0 (W : World) : (Instr.index 241 (.agg recC) (.int .i64 0)).run Tryz.prog W = .ok (.agg #[.int .i64 (rc 0).1, .int .i64 (rc 0).2.1, .int .i64 (rc 0).2.2.1, .int .i64 (rc 0).2.2.2]) W := by kernel_rfl
theorem ix145_1 (W : World) : (Instr.index 241 (.agg recC) (.int .i64 1)).run Tryz.prog W = .ok (.agg #[.int .i64 (rc 1).1, .int .i64 (rc 1).2.1, .int .i64 (rc 1).2.2.1, .int .i64 (rc 1).2.2.2]) W := by kernel_rfl
theorem ix145_2 (W : World) : (Instr.index 241 (.agg recC) (.int .i64 2)).run Tryz.prog W = .ok (.agg #[.int .i64 (rc 2).1, .int .i64 (rc 2).2.1, .int .i64 (rc 2).2.2.1, .int .i64 (rc 2).2.2.2]) W := by kernel_rfl
theorem ix145_3 (W : World) : (Instr.index 241 (.agg recC) (.int .i64 3)).run Tryz.prog W = .ok (.agg #[.int .i64 (rc 3).1, .int .i64 (rc 3).2.1, .int .i64 (rc 3).2.2.1, .int .i64 (rc 3).2.2.2]) W := by kernel_rfl
theorem ix145_4 (W : World) : (Instr.index 241 (.agg recC) (.int .i64 4)).run Tryz.prog W = .ok (.agg #[.int .i64 (rc 4).1, .int .i64 (rc 4).2.1, .int .i64 (rc 4).2.2.1, .int .i64 (rc 4).2.2.2]) W := by kernel_rfl
theorem ix145_5 (W : World) : (Instr.index 241 (.agg recC) (.int .i64 5)).run Tryz.prog W = .ok (.agg #[.int .i64 (rc 5).1, .int .i64 (rc 5).2.1, .int .i64 (rc 5).2.2.1, .int .i64 (rc 5).2.2.2]) W := by kernel_rfl
theorem ix145_6 (W : World) : (Instr.index 241 (.agg recC) (.int .i64 6)).run Tryz.prog W = .ok (.agg #[.int .i64 (rc 6).1, .int .i64 (rc 6).2.1, .int .i64 (rc 6).2.2.1, .int .i64 (rc 6).2.2.2]) W := by kernel_rfl
theorem ix145_7 (W : World) : (Instr.index 241 (.agg recC) (.int .i64 7)).run Tryz.prog W = .ok (.agg #[.int .i64 (rc 7).1, .int .i64 (rc 7).2.1, .int .i64 (rc 7).2.2.1, .int .i64 (rc 7).2.2.2]) W := by kernel_rfl
theorem ix145_8 (W : World) : (Instr.index 241 (.agg recC) (.int .i64 8)).run Tryz.prog W = .ok (.agg #[.int .i64 (rc 8).1, .int .i64 (rc 8).2.1, .int .i64 (rc 8).2.2.1, .int .i64 (rc 8).2.2.2]) W := by kernel_rfl
theorem ix145_9 (W : World) : (Instr.index 241 (.agg recC) (.int .i64 9)).run Tryz.prog W = .ok (.agg #[.int .i64 (rc 9).1, .int .i64 (rc 9).2.1, .int .i64 (rc 9).2.2.1, .int .i64 (rc 9).2.2.2]) W := by kernel_rfl
theorem ix145_10 (W : World) : (Instr.index 241 (.agg recC) (.int .i64 10)).run Tryz.prog W = .ok (.agg #[.int .i64 (rc 10).1, .int .i64 (rc 10).2.1, .int .i64 (rc 10).2.2.1, .int .i64 (rc 10).2.2.2]) W := by kernel_rfl
theorem ix145 (k : Nat) (hk : k < 11) (W : World) : (Instr.index 241 (.agg recC) (.int .i64 k)).run Tryz.prog W = .ok (.agg #[.int .i64 (rc k).1, .int .i64 (rc k).2.1, .int .i64 (rc k).2.2.1, .int .i64 (rc k).2.2.2]) W := by
  match k, hk with
  | 0, _ => exact ix145_0 W
  | 1, _ => exact ix145_1 W
  | 2, _ => exact ix145_2 W
  | 3, _ => exact ix145_3 W
  | 4, _ => exact ix145_4 W
  | 5, _ => exact ix145_5 W
  | 6, _ => exact ix145_6 W
  | 7, _ => exact ix145_7 W
  | 8, _ => exact ix145_8 W
  | 9, _ => exact ix145_9 W
  | 10, _ => exact ix145_10 W
def ld145 (x : Value) : Sem Value := Instr.loadAt 241 x
theorem ld145_is (x : Value) : Instr.loadAt 241 x = ld145 x := rfl
theorem size145 : (Tryz.prog.info? 241).map (·.size) = some 44 := by kernel_rfl
theorem run_ld145 {W : World} (h : Recs W) : (ld145 (.pointer (some ⟨1, 0, none⟩))).run Tryz.prog W = .ok (.agg recC) W :=
  run_loadAt_mid (P := Tryz.prog) W 1 0 241 recC.toList _ (fun j u hu => by rw [Nat.zero_add, h.cell]; simpa using hu) Tryz.underlying241 rfl size145
/-- does the row k fit? -/
def rHit (k : Nat) (op a b : Int) : Prop := (rc k).1 = op ∧ (rc k).2.1 = a ∧ (rc k).2.2.1 = b
def rB (k : Nat) (op a b : Int) : Bool := (rc k).1 == op && ((rc k).2.1 == a && (rc k).2.2.1 == b)
theorem rB_iff (k : Nat) (op a b : Int) : rB k op a b = true ↔ rHit k op a b := by unfold rB rHit; simp
/-- what +, - and * make of their parts' types -/
def recS (op a b : Int) : Int := match (List.range 11).find? (fun k => rB k op a b) with | some k => (rc k).2.2.2 | none => 0
theorem rec_hit {op a b : Int} {k : Nat} (hk : k < 11) (h : rHit k op a b) (hb : ∀ j, j < k → ¬ rHit j op a b) : recS op a b = (rc k).2.2.2 := by
  have : (List.range 11).find? (fun k => rB k op a b) = some k := by
    rw [List.find?_range_eq_some]
    exact ⟨(rB_iff _ _ _ _).2 h, by simpa using hk, fun j hj => by have := hb j hj; rw [← rB_iff] at this; simpa using this⟩
  unfold recS
  rw [this]
theorem rec_none {op a b : Int} (hb : ∀ j, j < 11 → ¬ rHit j op a b) : recS op a b = 0 := by
  have : (List.range 11).find? (fun k => rB k op a b) = none := by
    rw [List.find?_eq_none]
    intro j hj
    have := hb j (by simpa using hj)
    rw [← rB_iff] at this
    exact this
  unfold recS
  rw [this]
attribute [local go_sem ↓] ld145_is
set_option maxRecDepth 100000 in
set_option maxHeartbeats 4000000 in
theorem reckoned_any {w : World} (hT : Recs w) (op a b : Int) : Calls Tryz.prog 119 #[.int .i64 op, .int .i64 a, .int .i64 b] w fun e w' => e = .returned (.int .i64 (recS op a b)) ∧ Below w.heap.size w w' := by
  have hld := run_ld145 hT
  clear hT
  go_enter Tryz.func119, Tryz.ntmps119
  go_wp2_with fail
  go_loopw [10] (fun v wr => ∃ (k : Nat), v = .int .i64 k ∧ k ≤ 11 ∧ Hid (Below w.heap.size w wr ∧ ∀ j, j < k → ¬ rHit j op a b)) (fun v _ => 11 - (intOf v).toNat)
  case atStart => exact ⟨0, rfl, by omega, Below.refl _ _, fun j h => by omega⟩
  case round =>
    obtain ⟨k, rfl, hk, hrel⟩ := hrel
    by_cases hlt : k < 11
    · have hix := ix145 k hlt
      have hlt' : (k : Int) < 11 := by omega
      have hh : Hid (rHit k op a b ↔ (rc k).1 = op ∧ (rc k).2.1 = a ∧ (rc k).2.2.1 = b) := Iff.rfl
      have hf : Hid (rHit k op a b → recS op a b = (rc k).2.2.2) := fun h => rec_hit hlt h (unhide hrel).2
      have hn : Hid (¬ rHit k op a b → ∀ j, j < k + 1 → ¬ rHit j op a b) := fun h j hj => by
        by_cases e : j = k
        · subst e; exact h
        · exact (unhide hrel).2 j (by omega)
      obtain ⟨o', ho⟩ : ∃ o', o' = (rc k).1 := ⟨_, rfl⟩
      obtain ⟨a', ha⟩ : ∃ a', a' = (rc k).2.1 := ⟨_, rfl⟩
      obtain ⟨b', hb⟩ : ∃ b', b' = (rc k).2.2.1 := ⟨_, rfl⟩
      obtain ⟨g', hg⟩ : ∃ g', g' = (rc k).2.2.2 := ⟨_, rfl⟩
      rw [← ho, ← ha, ← hb, ← hg] at hix
      rw [← ho, ← ha, ← hb] at hh
      rw [← hg] at hf
      clear ho ha hb hg
      by_cases e1 : o' = op
      · by_cases e2 : a' = a
        · by_cases e3 : b' = b
          · have hfin := hide (unhide hf ((unhide hh).2 ⟨e1, e2, e3⟩))
            clear hf hn hh
            subst e1 e2 e3
            go_wp2_with fail
            go_ret
            exact ⟨by rw [unhide hfin]; rfl, (unhide hrel).1.alloc (unhide hrel).1.size _⟩
          · have hnn := hide (unhide hn (fun h => e3 ((unhide hh).1 h).2.2))
            have e3' := beqF e3
            clear hf hn hh
            subst e1 e2
            go_wp2_with fail
            exact ⟨⟨k + 1, by go_num, by omega, (unhide hrel).1.alloc (unhide hrel).1.size _, unhide hnn⟩, by simp [intOf]; omega⟩
        · have hnn := hide (unhide hn (fun h => e2 ((unhide hh).1 h).2.1))
          have e2' := beqF e2
          clear hf hn hh
          subst e1
          go_wp2_with fail
          exact ⟨⟨k + 1, by go_num, by omega, (unhide hrel).1.alloc (unhide hrel).1.size _, unhide hnn⟩, by simp [intOf]; omega⟩
      · have hnn := hide (unhide hn (fun h => e1 ((unhide hh).1 h).1))
        have e1' := beqF e1
        clear hf hn hh
        go_wp2_with fail
        exact ⟨⟨k + 1, by go_num, by omega, (unhide hrel).1.alloc (unhide hrel).1.size _, unhide hnn⟩, by simp [intOf]; omega⟩
    · have hkn : k = 11 := by omega
      subst hkn
      have hfin := hide (rec_none (unhide hrel).2)
      go_wp2_with fail
      go_ret
      exact ⟨by rw [unhide hfin]; rfl, (unhide hrel).1⟩
/-- what an operation makes of its parts' types -/
def prS (op a b : Int) : Int := if op = 1 ∨ op = 2 then tif (a == 4 && b == 4) 4 else if op = 4 ∨ op = 5 then tif (alike a b) 4 else if op = 6 ∨ op = 7 ∨ op = 8 ∨ op = 9 then tif (alike a b && !(a == 4)) 4 else if op = 10 ∨ op = 11 then tif (a == 2 && b == 2) 4 else recS op a b
theorem pair_both1 (a b : Int) (w : World) : Calls Tryz.prog 101 #[.int .i64 1, .int .i64 a, .int .i64 b] w fun e w' => e = .returned (.int .i64 (tif (a == 4 && b == 4) 4)) ∧ w' = w := by
  have d := hide typeIf_any
  by_cases h : a = 4
  · subst h
    go_enter Tryz.func101, Tryz.ntmps101
    go_wp2_with fail
    refine (unhide d _ _ _).mono ?_
    rintro e w1 ⟨rfl, hw⟩
    rw [hw]; clear hw w1
    go_wp2_with fail
    go_ret
    exact ⟨by simp, rfl⟩
  · have h' := beqF h
    rw [h']
    go_enter Tryz.func101, Tryz.ntmps101
    go_wp2_with fail
    refine (unhide d false _ _).mono ?_
    rintro e w1 ⟨rfl, hw⟩
    rw [hw]; clear hw w1
    go_wp2_with fail
    go_ret
    exact ⟨rfl, rfl⟩
theorem pair_both2 (a b : Int) (w : World) : Calls Tryz.prog 101 #[.int .i64 2, .int .i64 a, .int .i64 b] w fun e w' => e = .returned (.int .i64 (tif (a == 4 && b == 4) 4)) ∧ w' = w := by
  have d := hide typeIf_any
  by_cases h : a = 4
  · subst h
    go_enter Tryz.func101, Tryz.ntmps101
    go_wp2_with fail
    refine (unhide d _ _ _).mono ?_
    rintro e w1 ⟨rfl, hw⟩
    rw [hw]; clear hw w1
    go_wp2_with fail
    go_ret
    exact ⟨by simp, rfl⟩
  · have h' := beqF h
    rw [h']
    go_enter Tryz.func101, Tryz.ntmps101
    go_wp2_with fail
    refine (unhide d false _ _).mono ?_
    rintro e w1 ⟨rfl, hw⟩
    rw [hw]; clear hw w1
    go_wp2_with fail
    go_ret
    exact ⟨rfl, rfl⟩
theorem pair_eq4 (a b : Int) (w : World) : Calls Tryz.prog 101 #[.int .i64 4, .int .i64 a, .int .i64 b] w fun e w' => e = .returned (.int .i64 (tif (alike a b) 4)) ∧ w' = w := by
  have d := hide typeIf_any
  have d2 := hide (alike_any a b)
  obtain ⟨q, hq⟩ : ∃ q, q = alike a b := ⟨_, rfl⟩
  rw [← hq] at d2 ⊢
  clear hq
  go_enter Tryz.func101, Tryz.ntmps101
  go_wp2_with fail
  refine (unhide d2 _).mono ?_
  rintro e w1 ⟨rfl, hw⟩
  rw [hw]; clear hw w1
  go_wp2_with fail
  refine (unhide d _ _ _).mono ?_
  rintro e w1 ⟨rfl, hw⟩
  rw [hw]; clear hw w1
  go_wp2_with fail
  go_ret
  exact ⟨rfl, rfl⟩
theorem pair_eq5 (a b : Int) (w : World) : Calls Tryz.prog 101 #[.int .i64 5, .int .i64 a, .int .i64 b] w fun e w' => e = .returned (.int .i64 (tif (alike a b) 4)) ∧ w' = w := by
  have d := hide typeIf_any
  have d2 := hide (alike_any a b)
  obtain ⟨q, hq⟩ : ∃ q, q = alike a b := ⟨_, rfl⟩
  rw [← hq] at d2 ⊢
  clear hq
  go_enter Tryz.func101, Tryz.ntmps101
  go_wp2_with fail
  refine (unhide d2 _).mono ?_
  rintro e w1 ⟨rfl, hw⟩
  rw [hw]; clear hw w1
  go_wp2_with fail
  refine (unhide d _ _ _).mono ?_
  rintro e w1 ⟨rfl, hw⟩
  rw [hw]; clear hw w1
  go_wp2_with fail
  go_ret
  exact ⟨rfl, rfl⟩
theorem pair_lt6 (a b : Int) (w : World) : Calls Tryz.prog 101 #[.int .i64 6, .int .i64 a, .int .i64 b] w fun e w' => e = .returned (.int .i64 (tif (alike a b && !(a == 4)) 4)) ∧ w' = w := by
  have d := hide typeIf_any
  have d2 := hide (alike_any a b)
  obtain ⟨q, hq⟩ : ∃ q, q = alike a b := ⟨_, rfl⟩
  rw [← hq] at d2 ⊢
  clear hq
  cases q
  · go_enter Tryz.func101, Tryz.ntmps101
    go_wp2_with fail
    refine (unhide d2 _).mono ?_
    rintro e w1 ⟨rfl, hw⟩
    rw [hw]; clear hw w1
    go_wp2_with fail
    refine (unhide d false _ _).mono ?_
    rintro e w1 ⟨rfl, hw⟩
    rw [hw]; clear hw w1
    go_wp2_with fail
    go_ret
    exact ⟨rfl, rfl⟩
  · go_enter Tryz.func101, Tryz.ntmps101
    go_wp2_with fail
    refine (unhide d2 _).mono ?_
    rintro e w1 ⟨rfl, hw⟩
    rw [hw]; clear hw w1
    go_wp2_with fail
    refine (unhide d _ _ _).mono ?_
    rintro e w1 ⟨rfl, hw⟩
    rw [hw]; clear hw w1
    go_wp2_with fail
    go_ret
    exact ⟨rfl, rfl⟩
theorem pair_lt7 (a b : Int) (w : World) : Calls Tryz.prog 101 #[.int .i64 7, .int .i64 a, .int .i64 b] w fun e w' => e = .returned (.int .i64 (tif (alike a b && !(a == 4)) 4)) ∧ w' = w := by
  have d := hide typeIf_any
  have d2 := hide (alike_any a b)
  obtain ⟨q, hq⟩ : ∃ q, q = alike a b := ⟨_, rfl⟩
  rw [← hq] at d2 ⊢
  clear hq
  cases q
  · go_enter Tryz.func101, Tryz.ntmps101
    go_wp2_with fail
    refine (unhide d2 _).mono ?_
    rintro e w1 ⟨rfl, hw⟩
    rw [hw]; clear hw w1
    go_wp2_with fail
    refine (unhide d false _ _).mono ?_
    rintro e w1 ⟨rfl, hw⟩
    rw [hw]; clear hw w1
    go_wp2_with fail
    go_ret
    exact ⟨rfl, rfl⟩
  · go_enter Tryz.func101, Tryz.ntmps101
    go_wp2_with fail
    refine (unhide d2 _).mono ?_
    rintro e w1 ⟨rfl, hw⟩
    rw [hw]; clear hw w1
    go_wp2_with fail
    refine (unhide d _ _ _).mono ?_
    rintro e w1 ⟨rfl, hw⟩
    rw [hw]; clear hw w1
    go_wp2_with fail
    go_ret
    exact ⟨rfl, rfl⟩
theorem pair_lt8 (a b : Int) (w : World) : Calls Tryz.prog 101 #[.int .i64 8, .int .i64 a, .int .i64 b] w fun e w' => e = .returned (.int .i64 (tif (alike a b && !(a == 4)) 4)) ∧ w' = w := by
  have d := hide typeIf_any
  have d2 := hide (alike_any a b)
  obtain ⟨q, hq⟩ : ∃ q, q = alike a b := ⟨_, rfl⟩
  rw [← hq] at d2 ⊢
  clear hq
  cases q
  · go_enter Tryz.func101, Tryz.ntmps101
    go_wp2_with fail
    refine (unhide d2 _).mono ?_
    rintro e w1 ⟨rfl, hw⟩
    rw [hw]; clear hw w1
    go_wp2_with fail
    refine (unhide d false _ _).mono ?_
    rintro e w1 ⟨rfl, hw⟩
    rw [hw]; clear hw w1
    go_wp2_with fail
    go_ret
    exact ⟨rfl, rfl⟩
  · go_enter Tryz.func101, Tryz.ntmps101
    go_wp2_with fail
    refine (unhide d2 _).mono ?_
    rintro e w1 ⟨rfl, hw⟩
    rw [hw]; clear hw w1
    go_wp2_with fail
    refine (unhide d _ _ _).mono ?_
    rintro e w1 ⟨rfl, hw⟩
    rw [hw]; clear hw w1
    go_wp2_with fail
    go_ret
    exact ⟨rfl, rfl⟩
theorem pair_lt9 (a b : Int) (w : World) : Calls Tryz.prog 101 #[.int .i64 9, .int .i64 a, .int .i64 b] w fun e w' => e = .returned (.int .i64 (tif (alike a b && !(a == 4)) 4)) ∧ w' = w := by
  have d := hide typeIf_any
  have d2 := hide (alike_any a b)
  obtain ⟨q, hq⟩ : ∃ q, q = alike a b := ⟨_, rfl⟩
  rw [← hq] at d2 ⊢
  clear hq
  cases q
  · go_enter Tryz.func101, Tryz.ntmps101
    go_wp2_with fail
    refine (unhide d2 _).mono ?_
    rintro e w1 ⟨rfl, hw⟩
    rw [hw]; clear hw w1
    go_wp2_with fail
    refine (unhide d false _ _).mono ?_
    rintro e w1 ⟨rfl, hw⟩
    rw [hw]; clear hw w1
    go_wp2_with fail
    go_ret
    exact ⟨rfl, rfl⟩
  · go_enter Tryz.func101, Tryz.ntmps101
    go_wp2_with fail
    refine (unhide d2 _).mono ?_
    rintro e w1 ⟨rfl, hw⟩
    rw [hw]; clear hw w1
    go_wp2_with fail
    refine (unhide d _ _ _).mono ?_
    rintro e w1 ⟨rfl, hw⟩
    rw [hw]; clear hw w1
    go_wp2_with fail
    go_ret
    exact ⟨rfl, rfl⟩
theorem pair_both10 (a b : Int) (w : World) : Calls Tryz.prog 101 #[.int .i64 10, .int .i64 a, .int .i64 b] w fun e w' => e = .returned (.int .i64 (tif (a == 2 && b == 2) 4)) ∧ w' = w := by
  have d := hide typeIf_any
  by_cases h : a = 2
  · subst h
    go_enter Tryz.func101, Tryz.ntmps101
    go_wp2_with fail
    refine (unhide d _ _ _).mono ?_
    rintro e w1 ⟨rfl, hw⟩
    rw [hw]; clear hw w1
    go_wp2_with fail
    go_ret
    exact ⟨by simp, rfl⟩
  · have h' := beqF h
    rw [h']
    go_enter Tryz.func101, Tryz.ntmps101
    go_wp2_with fail
    refine (unhide d false _ _).mono ?_
    rintro e w1 ⟨rfl, hw⟩
    rw [hw]; clear hw w1
    go_wp2_with fail
    go_ret
    exact ⟨rfl, rfl⟩
theorem pair_both11 (a b : Int) (w : World) : Calls Tryz.prog 101 #[.int .i64 11, .int .i64 a, .int .i64 b] w fun e w' => e = .returned (.int .i64 (tif (a == 2 && b == 2) 4)) ∧ w' = w := by
  have d := hide typeIf_any
  by_cases h : a = 2
  · subst h
    go_enter Tryz.func101, Tryz.ntmps101
    go_wp2_with fail
    refine (unhide d _ _ _).mono ?_
    rintro e w1 ⟨rfl, hw⟩
    rw [hw]; clear hw w1
    go_wp2_with fail
    go_ret
    exact ⟨by simp, rfl⟩
  · have h' := beqF h
    rw [h']
    go_enter Tryz.func101, Tryz.ntmps101
    go_wp2_with fail
    refine (unhide d false _ _).mono ?_
    rintro e w1 ⟨rfl, hw⟩
    rw [hw]; clear hw w1
    go_wp2_with fail
    go_ret
    exact ⟨rfl, rfl⟩
theorem pair_rec {w : World} (hT : Recs w) (op a b : Int) (h1 : ¬ op = 1) (h2 : ¬ op = 2) (h4 : ¬ op = 4) (h5 : ¬ op = 5) (h6 : ¬ op = 6) (h7 : ¬ op = 7) (h8 : ¬ op = 8) (h9 : ¬ op = 9) (h10 : ¬ op = 10) (h11 : ¬ op = 11) : Calls Tryz.prog 101 #[.int .i64 op, .int .i64 a, .int .i64 b] w fun e w' => e = .returned (.int .i64 (recS op a b)) ∧ Below w.heap.size w w' := by
  have d := hide (reckoned_any hT op a b)
  obtain ⟨q, hq⟩ : ∃ q, q = recS op a b := ⟨_, rfl⟩
  rw [← hq] at d ⊢
  clear hq hT
  have k1 := beqF h1
  have k2 := beqF h2
  have k4 := beqF h4
  have k5 := beqF h5
  have k6 := beqF h6
  have k7 := beqF h7
  have k8 := beqF h8
  have k9 := beqF h9
  have k10 := beqF h10
  have k11 := beqF h11
  go_enter Tryz.func101, Tryz.ntmps101
  go_wp2_with fail
  refine (unhide d).mono ?_
  rintro e w1 ⟨rfl, hw⟩
  have hw := hide hw
  go_wp2_with fail
  go_ret
  exact ⟨rfl, unhide hw⟩
theorem pair_any {w : World} (hT : Recs w) (op a b : Int) : Calls Tryz.prog 101 #[.int .i64 op, .int .i64 a, .int .i64 b] w fun e w' => e = .returned (.int .i64 (prS op a b)) ∧ Below w.heap.size w w' := by
  have bel : ∀ (e0 : Value) (e : Ending) (w' : World), (e = .returned e0 ∧ w' = w) → e = .returned e0 ∧ Below w.heap.size w w' := fun e0 e w' h => ⟨h.1, by rw [h.2]; exact Below.refl _ _⟩
  by_cases h1 : op = 1
  · subst h1; exact (pair_both1 a b w).mono (fun e w' h => bel _ e w' h)
  by_cases h2 : op = 2
  · subst h2; exact (pair_both2 a b w).mono (fun e w' h => bel _ e w' h)
  by_cases h4 : op = 4
  · subst h4; exact (pair_eq4 a b w).mono (fun e w' h => bel _ e w' h)
  by_cases h5 : op = 5
  · subst h5; exact (pair_eq5 a b w).mono (fun e w' h => bel _ e w' h)
  by_cases h6 : op = 6
  · subst h6; exact (pair_lt6 a b w).mono (fun e w' h => bel _ e w' h)
  by_cases h7 : op = 7
  · subst h7; exact (pair_lt7 a b w).mono (fun e w' h => bel _ e w' h)
  by_cases h8 : op = 8
  · subst h8; exact (pair_lt8 a b w).mono (fun e w' h => bel _ e w' h)
  by_cases h9 : op = 9
  · subst h9; exact (pair_lt9 a b w).mono (fun e w' h => bel _ e w' h)
  by_cases h10 : op = 10
  · subst h10; exact (pair_both10 a b w).mono (fun e w' h => bel _ e w' h)
  by_cases h11 : op = 11
  · subst h11; exact (pair_both11 a b w).mono (fun e w' h => bel _ e w' h)
  have e : prS op a b = recS op a b := by unfold prS; rw [if_neg (by omega), if_neg (by omega), if_neg (by omega), if_neg (by omega)]
  rw [e]
  exact pair_rec hT op a b h1 h2 h4 h5 h6 h7 h8 h9 h10 h11
end Go.Proofs.YtbenciieenbmeaaGreatDoor
/- rows of any kind of element: lists of them that lie somewhere, and lists that a call owns. -/
namespace Go.Proofs.YtbenciieenbmeaaGreatDoor
open Go Go.Shelf Go.ChangeShapes Go.WideShapes Go.ChangeAt Go.RowKit Go.Maps
set_option linter.unusedVariables false
/-- a kind of element: its cells, its size in cells and in bytes, the type of its slices and its own -/
structure Kd (α : Type) where
  enc : α → List Value
  s : Nat
  t : TypeId
  e : TypeId
  by' : Nat
structure KdOK {α : Type} (K : Kd α) : Prop where
  len : ∀ x, (K.enc x).length = K.s
  pos : 0 < K.s
  one : ∀ x, ∀ u ∈ K.enc x, u.oneCell' = true
  und : Tryz.prog.underlying K.t = some (.slice K.e)
  info : ∃ i z, Tryz.prog.info? K.e = some i ∧ i.zero = some z ∧ i.size = K.s ∧ i.bytes = K.by' ∧ z.cells.size = K.s
  small : K.by' ≤ 512
variable {α : Type} {K : Kd α}
def Kd.flat (K : Kd α) (L : List α) : List Value := L.flatMap K.enc
theorem flat_nil : K.flat [] = [] := rfl
theorem flat_append (L M : List α) : K.flat (L ++ M) = K.flat L ++ K.flat M := List.flatMap_append
theorem flat_sing (x : α) : K.flat [x] = K.enc x := by simp [Kd.flat]
theorem flat_len (h : KdOK K) (L : List α) : (K.flat L).length = L.length * K.s := by
  induction L with
  | nil => simp [Kd.flat]
  | cons r R ih =>
    have e : K.flat (r :: R) = K.enc r ++ K.flat R := by simp [Kd.flat]
    rw [e, List.length_append, ih, h.len, List.length_cons, Nat.add_mul, Nat.one_mul]
    omega
theorem flat_get (h : KdOK K) : ∀ (L : List α) (k : Nat) (hk : k < L.length) (j : Nat), j < K.s → (K.flat L)[k * K.s + j]? = (K.enc L[k])[j]?
  | [], k, hk, _, _ => by simp at hk
  | r :: R, 0, _, j, hj => by
    have e : K.flat (r :: R) = K.enc r ++ K.flat R := by simp [Kd.flat]
    rw [e, List.getElem?_append_left (by rw [h.len]; omega)]
    simp
  | r :: R, k + 1, hk, j, hj => by
    have e : K.flat (r :: R) = K.enc r ++ K.flat R := by simp [Kd.flat]
    have e2 : (k + 1) * K.s + j - (K.enc r).length = k * K.s + j := by rw [h.len, Nat.add_mul, Nat.one_mul]; omega
    rw [e, List.getElem?_append_right (by rw [h.len, Nat.add_mul, Nat.one_mul]; omega), e2, flat_get h R k (by simpa using hk) j hj]
    simp
theorem flat_one (h : KdOK K) (L : List α) : ∀ u ∈ K.flat L, u.oneCell' = true := fun u hu => by
  obtain ⟨r, hr, hx⟩ := List.mem_flatMap.1 hu
  exact h.one r u hx
/-- elements that lie somewhere -/
def Lies (K : Kd α) (W : World) (p : Option Addr) (L : List α) : Prop :=
  (p = none → L = []) ∧ ∀ k (hk : k < L.length), ∃ b off, p = some ⟨b, off, none⟩ ∧ b < W.heap.size ∧ W.rangeAt b (off + k * K.s) (K.enc L[k])
theorem Lies.nil (W : World) (p : Option Addr) : Lies K W p [] := ⟨fun _ => rfl, fun k hk => by simp at hk⟩
theorem Lies.drewN {W : World} {p : Option Addr} {L : List α} (h : Lies K W p L) (m : Nat) : Lies K (W.drewN m) p L :=
  ⟨h.1, fun k hk => by
    obtain ⟨b, off, e, hlt, hr⟩ := h.2 k hk
    exact ⟨b, off, e, by simpa using hlt, fun j u hu => by simpa using hr j u hu⟩⟩
theorem Lies.below {W W' : World} {p : Option Addr} {L : List α} (h : Lies K W p L) (hb : Below W.heap.size W W') : Lies K W' p L := by
  refine ⟨h.1, fun k hk => ?_⟩
  obtain ⟨b, off, e, hlt, hr⟩ := h.2 k hk
  exact ⟨b, off, e, Nat.lt_of_lt_of_le hlt hb.size, fun j u hu => (hb.cell (p := ⟨b, off + k * K.s + j, none⟩) hlt).trans (hr j u hu)⟩
theorem Lies.block {W W' : World} {b off : Nat} {L : List α} (h : Lies K W (some ⟨b, off, none⟩) L) (hs : W.heap.size ≤ W'.heap.size) (hb : W'.heap[b]? = W.heap[b]?) : Lies K W' (some ⟨b, off, none⟩) L := by
  refine ⟨h.1, fun k hk => ?_⟩
  obtain ⟨b', off', e, hlt, hr⟩ := h.2 k hk
  cases e
  exact ⟨b, off, rfl, Nat.lt_of_lt_of_le hlt hs, fun j u hu => (World.cell?_of_block (a := ⟨b, off + k * K.s + j, none⟩) hb).trans (hr j u hu)⟩
/-- a part of what lies there -/
theorem Lies.part {W : World} {b off : Nat} {L : List α} (h : Lies K W (some ⟨b, off, none⟩) L) (a m : Nat) : Lies K W (some ⟨b, off + a * K.s, none⟩) ((L.drop a).take m) := by
  refine ⟨(fun h => by cases h), fun k hk => ?_⟩
  rw [List.length_take, List.length_drop] at hk
  have hak : a + k < L.length := by omega
  obtain ⟨b', off', e, hlt, hr⟩ := h.2 (a + k) hak
  cases e
  refine ⟨b, off + a * K.s, rfl, hlt, ?_⟩
  rw [List.getElem_take, List.getElem_drop, Nat.add_assoc, ← Nat.add_mul]
  exact hr
theorem row_block {W : World} {B g e s n : Nat} {v : Value} {xs : List Value} (h : W.ownsRow B e s v n xs) (hg : v.ownBlock = some g) : B ≤ g ∧ g < W.heap.size ∧ ∃ o, W.heap[g]? = some o ∧ o.isCells = true := by
  rcases h.2 with ⟨e, h2⟩ | ⟨g', cap, cur, e, hB, hh, h3⟩
  · rw [e] at hg; cases hg
  · rw [e] at hg
    have e2 : g' = g := Option.some.inj hg
    subst e2
    exact ⟨hB, (Array.getElem?_eq_some_iff.1 hh).1, _, hh, rfl⟩
theorem row_keep {W W' : World} {B e s n : Nat} {v : Value} {xs : List Value} (h : W.ownsRow B e s v n xs) (hk : ∀ g, v.ownBlock = some g → W'.heap[g]? = W.heap[g]?) : W'.ownsRow B e s v n xs := by
  refine ⟨h.1, ?_⟩
  rcases h.2 with h2 | ⟨g, cap, cur, e, hB, hh, h3⟩
  · exact .inl h2
  · exact .inr ⟨g, cap, cur, e, hB, (hk g (by rw [e]; rfl)).trans hh, h3⟩
theorem row_le {W : World} {B B' e s n : Nat} {v : Value} {xs : List Value} (h : W.ownsRow B e s v n xs) (hb : B' ≤ B) : W.ownsRow B' e s v n xs := by
  refine ⟨h.1, ?_⟩
  rcases h.2 with h2 | ⟨g, cap, cur, e, hB, h3⟩
  · exact .inl h2
  · exact .inr ⟨g, cap, cur, e, Nat.le_trans hb hB, h3⟩
theorem row_slice {W : World} {B e s n : Nat} {v : Value} {xs : List Value} (h : W.ownsRow B e s v n xs) : ∃ p c, v = .slice p n c ∧ (p = none → n = 0 ∧ c = 0) ∧ (∀ a, p = some a → a.off = 0 ∧ a.spot = none ∧ B ≤ a.block ∧ n ≤ c) := by
  rcases h.2 with ⟨e, h2⟩ | ⟨g, cap, cur, e, hB, hh, hc, h3⟩
  · exact ⟨none, 0, by rw [e, h2], (fun _ => ⟨h2, rfl⟩), (fun a h => by cases h)⟩
  · exact ⟨_, _, e, (fun h => by cases h), (fun a h => by cases h; exact ⟨rfl, rfl, hB, by omega⟩)⟩
theorem own_lies (hK : KdOK K) {W : World} {B : Nat} {p : Option Addr} {c n : Nat} {L : List α} (hn : L.length = n) (h : W.ownsRow B K.e K.s (.slice p n c) n (K.flat L)) : Lies K W p L := by
  rcases h.2 with ⟨e, h2⟩ | ⟨g, cap, cur, e, hB, hh, hc, hm, hcs, ht⟩
  · have : L = [] := List.eq_nil_of_length_eq_zero (by omega)
    subst this
    exact Lies.nil _ _
  · cases e
    refine ⟨(fun h => by cases h), fun k hk => ⟨g, 0, rfl, (Array.getElem?_eq_some_iff.1 hh).1, fun j u hu => ?_⟩⟩
    have hj : j < K.s := by
      have := (List.getElem?_eq_some_iff.1 hu).1
      rwa [hK.len] at this
    have h3 := flat_get hK L k hk j hj
    rw [hu] at h3
    have hk2 : (cur.toList.take (n * K.s))[k * K.s + j]? = some u := by rw [ht]; exact h3
    have hlt : k * K.s + j < n * K.s := by
      have : (k + 1) * K.s ≤ n * K.s := Nat.mul_le_mul_right _ (by omega)
      rw [Nat.add_mul, Nat.one_mul] at this
      omega
    rw [List.getElem?_take_of_lt hlt] at hk2
    unfold World.cell?
    simp only [hh, Nat.zero_add]
    simpa using hk2
theorem news_of (hK : KdOK K) {W : World} {ad : Addr} {L : List α} (hu : Lies K W (some ad) L) : ∀ j u, (K.flat L)[j]? = some u → W.cell? (ad.add j) = some u := fun j u hj => by
  have hjl : j < L.length * K.s := by
    have := (List.getElem?_eq_some_iff.1 hj).1
    rwa [flat_len hK] at this
  have hk : j / K.s < L.length := Nat.div_lt_of_lt_mul (by rw [Nat.mul_comm]; exact hjl)
  obtain ⟨b, off, e, hlt, hr⟩ := hu.2 (j / K.s) hk
  have e' : ad = ⟨b, off, none⟩ := Option.some.inj e
  subst e'
  have e9 : j / K.s * K.s + j % K.s = j := Nat.div_add_mod' j K.s
  rw [Addr.add_mid]
  have h3 := flat_get hK L (j / K.s) hk (j % K.s) (Nat.mod_lt _ hK.pos)
  rw [e9, hj] at h3
  have h4 := hr (j % K.s) u h3.symm
  rw [Nat.add_assoc, e9] at h4
  exact h4
set_option maxRecDepth 100000 in
/-- an append of elements that lie somewhere, to a list that the call owns -/
theorem run_app (hK : KdOK K) {W : World} {B : Nat} {v : Value} {L M : List α} {n : Nat} (ty : TypeId) (h : W.ownsRow B K.e K.s v n (K.flat L)) (hB : B ≤ W.heap.size) (pu : Option Addr) (cu : Nat) (hcu : pu = none → cu = 0) (hu : Lies K W pu M) (hl : n + M.length ≤ 274877906944) :
    ∃ p' c' w', (Builtin.append_ #[K.t, K.t] ty #[v, .slice pu M.length cu]).run Tryz.prog W = .ok (.slice p' (n + M.length) c') w' ∧ w'.ownsRow B K.e K.s (.slice p' (n + M.length) c') (n + M.length) (K.flat (L ++ M)) ∧ Below B W w' ∧ (∀ k, k < W.heap.size → v.ownBlock ≠ some k → w'.heap[k]? = W.heap[k]?) ∧ ((Value.slice p' (n + M.length) c').ownBlock = v.ownBlock ∨ (Value.slice p' (n + M.length) c').ownBlock = some W.heap.size) := by
  obtain ⟨i, z, hi, hz, hsize, hby, hzs⟩ := hK.info
  cases pu with
  | none =>
    have hR := hu.1 rfl
    subst hR
    rw [hcu rfl]
    have hr := run_append_owned_none (P := Tryz.prog) (w := W) B K.t ty K.e i K.s hK.und hi v n (K.flat L) h
    obtain ⟨p, c, e, _⟩ := row_slice h
    subst e
    exact ⟨p, c, W, hr, by rw [List.append_nil]; exact h, Below.refl _ _, fun _ _ _ => rfl, .inl rfl⟩
  | some ad =>
    obtain ⟨v', w', hr, ho, hg, hnil, hat⟩ := run_append_own_at (P := Tryz.prog) W B K.t ty K.e i z K.s K.by' hK.und hi hz hsize hby hzs hK.pos v n (K.flat L) h ad M.length cu (K.flat M) (flat_len hK M) (news_of hK hu) (flat_one hK M) (by unfold maxLen; omega) (by
      have h1 := hK.small
      have : (n + M.length) * K.by' ≤ 274877906944 * 512 := Nat.mul_le_mul hl h1
      omega) hB
    rw [← flat_append] at ho
    obtain ⟨p, c, e, _⟩ := row_slice ho
    subst e
    refine ⟨p, c, w', hr, ho, ⟨hg.os, hg.tape, hg.output, hg.size, fun q hq => hg.block q (Nat.lt_of_lt_of_le hq hB) (fun e => ?_)⟩, fun k hk hne => hg.block k hk (fun e => hne e.symm), hat⟩
    have := (row_block h e.symm).1
    omega
/-- an append as an operation of a region, by its run -/
theorem wpList_append_run {P : Program} {w : World} {ops : Array Oper} {rest : List Oper} {o : Oper} {a : Act} {Q : Exit → Act → World → Prop} (hgd : o.guard = none) (s x : Operand) (t : TypeId)
    (ho : o.op = .call { callee := .builtin .append, args := #[s, x], argTypes := #[t, t] }) (v u v' : Value) (w' : World) (hs : a.eval s = v) (hx : a.eval x = u) (hr : (Builtin.append_ #[t, t] o.type #[v, u]).run P w = .ok v' w')
    (h : wpList P ops Q rest (a.put o.dst v') w') : wpList P ops Q (o :: rest) a w := by
  refine wpList_plain hgd fun K hK => ?_
  unfold Oper.wp execOp
  simp only [ho, resolve, invoke, builtin, Sem.run_bind, Sem.run_pure, Result.andThen_ok, List.map_toArray, List.map_cons, List.map_nil, hs, hx, hr]
  exact hK _ _ h
/-- a block of one element -/
theorem one_lies (W : World) (x : α) (t : TypeId) (vs : Array Value) (hv : vs.toList = K.enc x) : Lies K (W.alloc (.cells vs t)) (some ⟨W.heap.size, 0, none⟩) [x] := by
  refine ⟨(fun h => by cases h), fun k hk => ?_⟩
  have e : k = 0 := by simp at hk; exact hk
  subst e
  refine ⟨W.heap.size, 0, rfl, by simp, fun j u hu => ?_⟩
  rw [World.cell?_alloc_mark, Nat.zero_mul, Nat.zero_add]
  rw [show ([x] : List α)[0] = x from rfl, ← hv] at hu
  simpa using hu
theorem kd_ok {K : Kd α} (len : ∀ x, (K.enc x).length = K.s) (pos : 0 < K.s) (one : ∀ x, ∀ u ∈ K.enc x, u.oneCell' = true) (und : Tryz.prog.underlying K.t = some (.slice K.e)) {z : Value} (info : (Tryz.prog.info? K.e).map (fun i => (i.zero, i.size, i.bytes)) = some (some z, K.s, K.by')) (hz : z.cells.size = K.s) (small : K.by' ≤ 512) : KdOK K := by
  obtain ⟨i, h1, h2, h3, h4⟩ := info_parts info
  exact ⟨len, pos, one, und, ⟨i, z, h1, h2, h3, h4, hz⟩, small⟩
end Go.Proofs.YtbenciieenbmeaaGreatDoor
