/- typing: FieldOf 11, the document's Field 10, FieldOf 12, rows 25. -/
import Derived.Test.YtfpbljfebjochaaGreatDoorTyB
namespace Go.Proofs.YtfpbljfebjochaaGreatDoor
open Go Go.ChangeShapes Go.WideShapes Go.ChangeAt Go.RowKit
set_option linter.unusedVariables false
/-- a field's name -/
def nmA (k : Nat) : ByteArray := (fldL.getD k (⟨#[]⟩, 0)).1
def tyA (k : Nat) : Int := (fldL.getD k (⟨#[]⟩, 0)).2
theorem ix56_0 (W : World) : (Instr.index 266 (.agg fldC) (.int .i64 0)).run Tryz.prog W = .ok (.agg #[.string (nmA 0), .int .i64 (tyA 0)]) W := by kernel_rfl
theorem ix56_1 (W : World) : (Instr.index 266 (.agg fldC) (.int .i64 1)).run Tryz.prog W = .ok (.agg #[.string (nmA 1), .int .i64 (tyA 1)]) W := by kernel_rfl
theorem ix56_2 (W : World) : (Instr.index 266 (.agg fldC) (.int .i64 2)).run Tryz.prog W = .ok (.agg #[.string (nmA 2), .int .i64 (tyA 2)]) W := by kernel_rfl
theorem ix56_3 (W : World) : (Instr.index 266 (.agg fldC) (.int .i64 3)).run Tryz.prog W = .ok (.agg #[.string (nmA 3), .int .i64 (tyA 3)]) W := by kernel_rfl
theorem ix56_4 (W : World) : (Instr.index 266 (.agg fldC) (.int .i64 4)).run Tryz.prog W = .ok (.agg #[.string (nmA 4), .int .i64 (tyA 4)]) W := by kernel_rfl
theorem ix56_5 (W : World) : (Instr.index 266 (.agg fldC) (.int .i64 5)).run Tryz.prog W = .ok (.agg #[.string (nmA 5), .int .i64 (tyA 5)]) W := by kernel_rfl
theorem ix56_6 (W : World) : (Instr.index 266 (.agg fldC) (.int .i64 6)).run Tryz.prog W = .ok (.agg #[.string (nmA 6), .int .i64 (tyA 6)]) W := by kernel_rfl
theorem ix56_7 (W : World) : (Instr.index 266 (.agg fldC) (.int .i64 7)).run Tryz.prog W = .ok (.agg #[.string (nmA 7), .int .i64 (tyA 7)]) W := by kernel_rfl
theorem ix56_8 (W : World) : (Instr.index 266 (.agg fldC) (.int .i64 8)).run Tryz.prog W = .ok (.agg #[.string (nmA 8), .int .i64 (tyA 8)]) W := by kernel_rfl
theorem ix56_9 (W : World) : (Instr.index 266 (.agg fldC) (.int .i64 9)).run Tryz.prog W = .ok (.agg #[.string (nmA 9), .int .i64 (tyA 9)]) W := by kernel_rfl
theorem ix56_10 (W : World) : (Instr.index 266 (.agg fldC) (.int .i64 10)).run Tryz.prog W = .ok (.agg #[.string (nmA 10), .int .i64 (tyA 10)]) W := by kernel_rfl
theorem ix56_11 (W : World) : (Instr.index 266 (.agg fldC) (.int .i64 11)).run Tryz.prog W = .ok (.agg #[.string (nmA 11), .int .i64 (tyA 11)]) W := by kernel_rfl
theorem ix56_12 (W : World) : (Instr.index 266 (.agg fldC) (.int .i64 12)).run Tryz.prog W = .ok (.agg #[.string (nmA 12), .int .i64 (tyA 12)]) W := by kernel_rfl
theorem ix56_13 (W : World) : (Instr.index 266 (.agg fldC) (.int .i64 13)).run Tryz.prog W = .ok (.agg #[.string (nmA 13), .int .i64 (tyA 13)]) W := by kernel_rfl
theorem ix56_14 (W : World) : (Instr.index 266 (.agg fldC) (.int .i64 14)).run Tryz.prog W = .ok (.agg #[.string (nmA 14), .int .i64 (tyA 14)]) W := by kernel_rfl
theorem ix56 (k : Nat) (hk : k < 15) (W : World) : (Instr.index 266 (.agg fldC) (.int .i64 k)).run Tryz.prog W = .ok (.agg #[.string (nmA k), .int .i64 (tyA k)]) W := by
  match k, hk with
  | 0, _ => exact ix56_0 W
  | 1, _ => exact ix56_1 W
  | 2, _ => exact ix56_2 W
  | 3, _ => exact ix56_3 W
  | 4, _ => exact ix56_4 W
  | 5, _ => exact ix56_5 W
  | 6, _ => exact ix56_6 W
  | 7, _ => exact ix56_7 W
  | 8, _ => exact ix56_8 W
  | 9, _ => exact ix56_9 W
  | 10, _ => exact ix56_10 W
  | 11, _ => exact ix56_11 W
  | 12, _ => exact ix56_12 W
  | 13, _ => exact ix56_13 W
  | 14, _ => exact ix56_14 W
def ld56 (x : Value) : Sem Value := Instr.loadAt 266 x
theorem ld56_is (x : Value) : Instr.loadAt 266 x = ld56 x := rfl
theorem size56 : (Tryz.prog.info? 266).map (·.size) = some 30 := by kernel_rfl
theorem run_ld56 {W : World} (h : Flds W) : (ld56 (.pointer (some ⟨0, 0, none⟩))).run Tryz.prog W = .ok (.agg fldC) W :=
  run_loadAt_mid (P := Tryz.prog) W 0 0 266 fldC.toList _ (fun j u hu => by rw [Nat.zero_add, h.cell]; simpa using hu) Tryz.underlying266 rfl size56
/-- the number of the field of a name -/
def fofS (nm : ByteArray) : Nat × Bool := match (List.range 15).find? (fun k => decide (1 ≤ k) && decide (nmA k = nm)) with | some k => (k, true) | none => (0, false)
theorem fof_hit {nm : ByteArray} {k : Nat} (h1 : 1 ≤ k) (hk : k < 15) (h : nmA k = nm) (hb : ∀ j, 1 ≤ j → j < k → ¬ nmA j = nm) : fofS nm = (k, true) := by
  have : (List.range 15).find? (fun k => decide (1 ≤ k) && decide (nmA k = nm)) = some k := by
    rw [List.find?_range_eq_some]
    refine ⟨by simp [h1, h], by simpa using hk, fun j hj => ?_⟩
    by_cases h0 : 1 ≤ j
    · simp [h0, hb j h0 hj]
    · simp [h0]
  unfold fofS
  rw [this]
theorem fof_none {nm : ByteArray} (hb : ∀ j, 1 ≤ j → j < 15 → ¬ nmA j = nm) : fofS nm = (0, false) := by
  have : (List.range 15).find? (fun k => decide (1 ≤ k) && decide (nmA k = nm)) = none := by
    rw [List.find?_eq_none]
    intro j hj
    have hj' : j < 15 := by simpa using hj
    by_cases h0 : 1 ≤ j
    · simp [h0, hb j h0 hj']
    · simp [h0]
  unfold fofS
  rw [this]
end Go.Proofs.YtfpbljfebjochaaGreatDoor
