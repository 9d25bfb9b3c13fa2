/- typing: the tables; Field 9. -/
import Derived.Test.YtfpbljfebjochaaGreatDoorTyA
import Derived.Lib.LaidTab
import Derived.Below
import Derived.BigQuiet
import Derived.BigCall
import Derived.Deep.QuietTactic
import Derived.WalkSmall
import Derived.Deep.MidRow
namespace Go.Proofs.YtfpbljfebjochaaGreatDoor
open Go Go.ChangeShapes Go.WideShapes Go.ChangeAt Go.RowKit
set_option linter.unusedVariables false
/-- the fields: names and types -/
def fldL : List (ByteArray × Int) := [(⟨#[]⟩, 0), (⟨#[115, 101, 113]⟩, 1), (⟨#[108, 105, 110, 101]⟩, 1), (⟨#[100, 97, 121]⟩, 3), (⟨#[107, 105, 110, 100]⟩, 1), (⟨#[107, 101, 121]⟩, 2), (⟨#[97, 99, 99, 111, 117, 110, 116]⟩, 2), (⟨#[97, 109, 111, 117, 110, 116]⟩, 5), (⟨#[100, 101, 98, 105, 116]⟩, 5), (⟨#[99, 114, 101, 100, 105, 116]⟩, 5), (⟨#[116, 97, 103]⟩, 2), (⟨#[109, 101, 109, 111]⟩, 2), (⟨#[109, 111, 110, 116, 104]⟩, 1), (⟨#[121, 101, 97, 114]⟩, 1), (⟨#[114, 111, 111, 116]⟩, 2)]
def fldC : Array Value := #[.string ⟨#[]⟩, .int .i64 0, .string ⟨#[115, 101, 113]⟩, .int .i64 1, .string ⟨#[108, 105, 110, 101]⟩, .int .i64 1, .string ⟨#[100, 97, 121]⟩, .int .i64 3, .string ⟨#[107, 105, 110, 100]⟩, .int .i64 1, .string ⟨#[107, 101, 121]⟩, .int .i64 2, .string ⟨#[97, 99, 99, 111, 117, 110, 116]⟩, .int .i64 2, .string ⟨#[97, 109, 111, 117, 110, 116]⟩, .int .i64 5, .string ⟨#[100, 101, 98, 105, 116]⟩, .int .i64 5, .string ⟨#[99, 114, 101, 100, 105, 116]⟩, .int .i64 5, .string ⟨#[116, 97, 103]⟩, .int .i64 2, .string ⟨#[109, 101, 109, 111]⟩, .int .i64 2, .string ⟨#[109, 111, 110, 116, 104]⟩, .int .i64 1, .string ⟨#[121, 101, 97, 114]⟩, .int .i64 1, .string ⟨#[114, 111, 111, 116]⟩, .int .i64 2]
def recL : List (Int × Int × Int × Int) := [(12, 1, 1, 1), (12, 5, 5, 5), (12, 3, 1, 3), (12, 1, 3, 3), (13, 1, 1, 1), (13, 5, 5, 5), (13, 3, 1, 3), (13, 3, 3, 1), (14, 1, 1, 1), (14, 5, 1, 5), (14, 1, 5, 5)]
def recC : Array Value := #[.int .i64 12, .int .i64 1, .int .i64 1, .int .i64 1, .int .i64 12, .int .i64 5, .int .i64 5, .int .i64 5, .int .i64 12, .int .i64 3, .int .i64 1, .int .i64 3, .int .i64 12, .int .i64 1, .int .i64 3, .int .i64 3, .int .i64 13, .int .i64 1, .int .i64 1, .int .i64 1, .int .i64 13, .int .i64 5, .int .i64 5, .int .i64 5, .int .i64 13, .int .i64 3, .int .i64 1, .int .i64 3, .int .i64 13, .int .i64 3, .int .i64 3, .int .i64 1, .int .i64 14, .int .i64 1, .int .i64 1, .int .i64 1, .int .i64 14, .int .i64 5, .int .i64 1, .int .i64 5, .int .i64 14, .int .i64 1, .int .i64 5, .int .i64 5]
def monL : List Int := [31, 28, 31, 30, 31, 30, 31, 31, 30, 31, 30, 31]
/-- the table of fields lies in its variable -/
def Flds (W : World) : Prop := W.var? Tryz.prog "daybook/typing.fields" = some fldC
def Recs (W : World) : Prop := W.var? Tryz.prog "daybook/typing.reckonings" = some recC
def Mon (W : World) : Prop := Lib.TabIs Tryz.prog W "daybook/day.monthDays" .i64 monL
theorem fld_no : Tryz.prog.globalNamed "daybook/typing.fields" = some 0 := by kernel_rfl
theorem rec_no : Tryz.prog.globalNamed "daybook/typing.reckonings" = some 1 := by kernel_rfl
theorem mon_no : Tryz.prog.globalNamed "daybook/day.monthDays" = some 2 := by kernel_rfl
theorem var_lt {w : World} {nm : String} {g : Nat} {cs : Array Value} (hg : Tryz.prog.globalNamed nm = some g) (h : w.var? Tryz.prog nm = some cs) : g < w.heap.size := by
  rcases Nat.lt_or_ge g w.heap.size with h' | h'
  · exact h'
  · unfold World.var? at h
    rw [hg] at h
    simp only [Option.bind_some] at h
    rw [Array.getElem?_eq_none h'] at h; cases h
theorem var_keep {w w' : World} {nm : String} {g : Nat} {cs : Array Value} (hg : Tryz.prog.globalNamed nm = some g) (h : w.var? Tryz.prog nm = some cs) (hb : w'.heap[g]? = w.heap[g]?) : w'.var? Tryz.prog nm = some cs := by
  unfold World.var? at h ⊢
  rw [hg] at h ⊢
  simp only [Option.bind_some] at h ⊢
  rw [hb]
  exact h
theorem Flds.below {w w' : World} (h : Flds w) (hb : Below w.heap.size w w') : Flds w' := var_keep fld_no h (hb.block 0 (var_lt fld_no h))
theorem Recs.below {w w' : World} (h : Recs w) (hb : Below w.heap.size w w') : Recs w' := var_keep rec_no h (hb.block 1 (var_lt rec_no h))
theorem Mon.below {w w' : World} (h : Mon w) (hb : Below w.heap.size w w') : Mon w' := var_keep mon_no h (hb.block 2 (var_lt mon_no h))
theorem Flds.cell {w : World} (h : Flds w) (i : Nat) : w.cell? ⟨0, i, none⟩ = fldC[i]? := World.var?_cell fld_no h i
theorem Recs.cell {w : World} (h : Recs w) (i : Nat) : w.cell? ⟨1, i, none⟩ = recC[i]? := World.var?_cell rec_no h i
/-- a field's name and type -/
def fldS (f : Int) : ByteArray × Int := if isF f then fldL.getD f.toNat (⟨#[]⟩, 0) else (⟨#[]⟩, 0)
def fldT (f : Int) : Int := (fldS f).2
theorem fldC_at (k : Nat) (hk : k < 15) : fldC[k * 2 + 0]? = some (.string (fldL.getD k (⟨#[]⟩, 0)).1) ∧ fldC[k * 2 + 1]? = some (.int .i64 (fldL.getD k (⟨#[]⟩, 0)).2) := by
  match k, hk with
  | 0, _ => exact ⟨rfl, rfl⟩
  | 1, _ => exact ⟨rfl, rfl⟩
  | 2, _ => exact ⟨rfl, rfl⟩
  | 3, _ => exact ⟨rfl, rfl⟩
  | 4, _ => exact ⟨rfl, rfl⟩
  | 5, _ => exact ⟨rfl, rfl⟩
  | 6, _ => exact ⟨rfl, rfl⟩
  | 7, _ => exact ⟨rfl, rfl⟩
  | 8, _ => exact ⟨rfl, rfl⟩
  | 9, _ => exact ⟨rfl, rfl⟩
  | 10, _ => exact ⟨rfl, rfl⟩
  | 11, _ => exact ⟨rfl, rfl⟩
  | 12, _ => exact ⟨rfl, rfl⟩
  | 13, _ => exact ⟨rfl, rfl⟩
  | 14, _ => exact ⟨rfl, rfl⟩
theorem field_any {w : World} (hT : Flds w) (f : Int) : Calls Tryz.prog 146 #[.int .i64 f] w fun e w' => e = .returned (.tuple #[.string (fldS f).1, .int .i64 (fldS f).2]) ∧ ∃ m, w' = w.drewN m := by
  have d := hide (isField_any f)
  by_cases h : isF f = true
  · have h' := h
    rw [isF, Bool.and_eq_true, decide_eq_true_iff, decide_eq_true_iff] at h'
    obtain ⟨k, rfl⟩ : ∃ k : Nat, f = k := ⟨f.toNat, by omega⟩
    have hk : k < 15 := by omega
    have e : fldS k = fldL.getD k (⟨#[]⟩, 0) := by unfold fldS; rw [if_pos h]; rfl
    rw [e]
    obtain ⟨c0, c1⟩ := fldC_at k hk
    have l0 := (hT.cell (k * 2 + 0)).trans c0
    have l1 := (hT.cell (k * 2 + 1)).trans c1
    obtain ⟨nm, hnm⟩ : ∃ nm, nm = (fldL.getD k (⟨#[]⟩, 0)).1 := ⟨_, rfl⟩
    obtain ⟨ty, hty⟩ : ∃ ty, ty = (fldL.getD k (⟨#[]⟩, 0)).2 := ⟨_, rfl⟩
    rw [← hnm] at l0 ⊢
    rw [← hty] at l1 ⊢
    simp only [Nat.add_zero] at l0
    have h1 : (k : Int) < 15 := by omega
    have h2 : ¬ (k : Int) < 0 := by omega
    rw [h] at d
    clear hnm hty c0 c1 h e h'
    go_enter Tryz.func146, Tryz.ntmps146
    go_wp2_with fail
    refine (unhide d _).mono ?_
    rintro e w1 ⟨rfl, hw⟩
    rw [hw]; clear hw w1
    go_wp2_with fail
    go_quiet (fail)
    go_wp2_with fail
    go_ret2
    exact ⟨rfl, _, rfl⟩
  · have h' : isF f = false := by simpa using h
    have e : fldS f = (⟨#[]⟩, 0) := by unfold fldS; rw [if_neg h]
    rw [e]
    rw [h'] at d
    go_enter Tryz.func146, Tryz.ntmps146
    go_wp2_with fail
    refine (unhide d _).mono ?_
    rintro e w1 ⟨rfl, hw⟩
    rw [hw]; clear hw w1
    go_wp2_with fail
    go_ret2
    exact ⟨rfl, 0, rfl⟩
end Go.Proofs.YtfpbljfebjochaaGreatDoor
