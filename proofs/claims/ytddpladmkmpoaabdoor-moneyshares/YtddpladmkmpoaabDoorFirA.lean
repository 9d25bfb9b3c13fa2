import Derived.Test.YtddpladmkmpoaabDoorSplA
import Derived.Test.YtddpladmkmpoaabDoorRatM
namespace Go.Proofs.YtddpladmkmpoaabDoor
open Go.ChangeShapes Go.WideShapes Go.ChangeAt Go.RowKit
set_option linter.unusedVariables false

theorem mul100 (w : World) : Calls Tryd.prog 33 #[.int .u64 100, .int .u64 1] w fun e w' => e = .returned (.tuple #[.int .u64 0, .int .u64 100]) ∧ w' = w :=
  mul64_any 100 1 0 100 (by decide) (by decide) (by decide) (by decide) w
theorem div100 (w : World) : Calls Tryd.prog 45 #[.int .u64 0, .int .u64 100, .int .u64 3] w fun e w' => e = .returned (.tuple #[.int .u64 33, .int .u64 1]) ∧ ∃ n, w' = w.drewN n :=
  div64_any 0 100 3 33 1 w (by decide) (by decide) (by decide) (by decide) (by decide)
theorem info77 : (Tryd.prog.info? 50).map (fun i => (i.zero, i.size, i.bytes)) = some (some (.agg #[.int .i64 0, .int .i64 0, .int .u64 0]), 3, 24) := by kernel_rfl
theorem mk3 (w : World) : (Instr.makeSlice 45 (.int .i64 3) (.int .i64 3)).run Tryd.prog w = .ok (.slice (some ⟨w.heap.size, 0, none⟩) 3 3) (w.alloc (.cells #[.int .i64 0, .int .i64 0, .int .u64 0, .int .i64 0, .int .i64 0, .int .u64 0, .int .i64 0, .int .i64 0, .int .u64 0] 50)) := by
  obtain ⟨i0, hi, hz0, hsz, hz2⟩ := info_parts info77
  have h := run_make (P := Tryd.prog) w 45 50 i0 (.agg #[.int .i64 0, .int .i64 0, .int .u64 0]) Tryd.underlying45 hi hz0 .i64 .i64 3 3 (by omega) (by omega) (by rw [hz2]; omega) (by omega)
  rw [hsz] at h
  have e : madeCells (Value.agg #[.int .i64 0, .int .i64 0, .int .u64 0]).cells (Int.toNat 3 * 3) = #[.int .i64 0, .int .i64 0, .int .u64 0, .int .i64 0, .int .i64 0, .int .u64 0, .int .i64 0, .int .i64 0, .int .u64 0] := by kernel_rfl
  rw [e] at h
  exact h
/-- the world behind it -/
def fin3 (w : World) (n1 n2 n3 : Nat) : World := ((((((((((((w.alloc (.cells #[.int .i64 0, .int .i64 0, .int .u64 0, .int .i64 0, .int .i64 0, .int .u64 0, .int .i64 0, .int .i64 0, .int .u64 0] 50)).drewN n1).setCell ⟨w.heap.size, 0, none⟩ (.int .i64 0)).setCell ⟨w.heap.size, 1, none⟩ (.int .i64 33)).setCell ⟨w.heap.size, 2, none⟩ (.int .u64 1)).drewN n2).setCell ⟨w.heap.size, 3, none⟩ (.int .i64 1)).setCell ⟨w.heap.size, 4, none⟩ (.int .i64 33)).setCell ⟨w.heap.size, 5, none⟩ (.int .u64 1)).drewN n3).setCell ⟨w.heap.size, 6, none⟩ (.int .i64 2)).setCell ⟨w.heap.size, 7, none⟩ (.int .i64 33)).setCell ⟨w.heap.size, 8, none⟩ (.int .u64 1)
set_option maxRecDepth 100000 in
set_option maxHeartbeats 4000000 in
theorem floor3 (R : Ending → World → Prop) (b : Nat) (w : World) (hb : b < w.heap.size) (h0 : w.cell? ⟨b, 0, none⟩ = some (.int .i64 1)) (h1 : w.cell? ⟨b, 1, none⟩ = some (.int .i64 1)) (h2 : w.cell? ⟨b, 2, none⟩ = some (.int .i64 1))
    (hR : Hid (∀ n1 n2 n3, R (.returned (.tuple #[.slice (some ⟨w.heap.size, 0, none⟩) 3 3, .int .u64 1])) (fin3 w n1 n2 n3))) :
    Calls Tryd.prog 24 #[.int .u64 100, .slice (some ⟨b, 0, none⟩) 3 3, .int .i64 3] w R := by
  have hmk := mk3
  go_enter Tryd.func24, Tryd.ntmps24
  go_wp2
  refine wp_loop_rounds 5 ?_
  rw [rounds_succ]
  go_wp2_with (first | (go_at_call 33; refine (mul100 _).mono ?_; rintro e w' ⟨rfl, hw⟩; subst hw) | (go_at_call 45; refine (div100 _).mono ?_; rintro e w' ⟨rfl, nn, hw⟩; subst hw))
  rw [rounds_succ]
  go_wp2_with (first | (go_at_call 33; refine (mul100 _).mono ?_; rintro e w' ⟨rfl, hw⟩; subst hw) | (go_at_call 45; refine (div100 _).mono ?_; rintro e w' ⟨rfl, nn, hw⟩; subst hw))
  rw [rounds_succ]
  go_wp2_with (first | (go_at_call 33; refine (mul100 _).mono ?_; rintro e w' ⟨rfl, hw⟩; subst hw) | (go_at_call 45; refine (div100 _).mono ?_; rintro e w' ⟨rfl, nn, hw⟩; subst hw))
  rw [rounds_succ]
  go_wp2_with (first | (go_at_call 33; refine (mul100 _).mono ?_; rintro e w' ⟨rfl, hw⟩; subst hw) | (go_at_call 45; refine (div100 _).mono ?_; rintro e w' ⟨rfl, nn, hw⟩; subst hw))
  exact unhide hR _ _ _
end Go.Proofs.YtddpladmkmpoaabDoor
