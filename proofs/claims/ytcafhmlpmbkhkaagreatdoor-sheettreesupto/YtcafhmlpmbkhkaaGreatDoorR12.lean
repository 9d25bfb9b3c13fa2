import Derived.Test.YtcafhmlpmbkhkaaGreatDoorR11
import Derived.DeepKeys
namespace Go.Proofs.YtcafhmlpmbkhkaaGreatDoor.Mw
open Go.ChangeShapes Go.WideShapes Go.ChangeAt Go.RowKit
set_option linter.unusedVariables false
theorem key44 : Tryz.prog.keyTypeAt 2 200 = true := by kernel_rfl
theorem lits44 (a0 a1 a2 a3 a4 a5 : Int) (h0 : (Lit.int .u64 a0).wf = true) (h1 : (Lit.int .u64 a1).wf = true) (h2 : (Lit.int .u64 a2).wf = true) (h3 : (Lit.int .u64 a3).wf = true) (h4 : (Lit.int .u64 a4).wf = true) (h5 : (Lit.int .u64 a5).wf = true) : Tryz.prog.keyLits 3 200 (Value.agg #[.int .u64 a0, .int .u64 a1, .int .u64 a2, .int .u64 a3, .int .u64 a4, .int .u64 a5]).cells.toList = some [.int .u64 a0, .int .u64 a1, .int .u64 a2, .int .u64 a3, .int .u64 a4, .int .u64 a5] := by
  have c44 : Tryz.prog.cellsOf 200 = 6 := by kernel_rfl
  have c40 : Tryz.prog.cellsOf 199 = 1 := by kernel_rfl
  simp [Program.keyLits, Value.cells, Tryz.underlying200, Tryz.underlying199, c44, c40, h0, h1, h2, h3, h4, h5, show List.range 6 = [0, 1, 2, 3, 4, 5] from rfl]
theorem wf_dig (z : Int) (h : 0 ≤ z ∧ z < 4294967296) : (Lit.int .u64 z).wf = true := by
  simp [Lit.wf, IntKind.min, IntKind.max, IntKind.signed, IntKind.bits]
  omega
theorem formed44 (a0 a1 a2 a3 a4 a5 : Int) : (Value.agg #[.int .u64 a0, .int .u64 a1, .int .u64 a2, .int .u64 a3, .int .u64 a4, .int .u64 a5]).formed Tryz.prog 200 = true := by kernel_rfl
theorem eq44 (a0 a1 a2 a3 a4 a5 b0 b1 b2 b3 b4 b5 : Int) (h0 : 0 ≤ a0 ∧ a0 < 4294967296) (h1 : 0 ≤ a1 ∧ a1 < 4294967296) (h2 : 0 ≤ a2 ∧ a2 < 4294967296) (h3 : 0 ≤ a3 ∧ a3 < 4294967296) (h4 : 0 ≤ a4 ∧ a4 < 4294967296) (h5 : 0 ≤ a5 ∧ a5 < 4294967296) (k0 : 0 ≤ b0 ∧ b0 < 4294967296) (k1 : 0 ≤ b1 ∧ b1 < 4294967296) (k2 : 0 ≤ b2 ∧ b2 < 4294967296) (k3 : 0 ≤ b3 ∧ b3 < 4294967296) (k4 : 0 ≤ b4 ∧ b4 < 4294967296) (k5 : 0 ≤ b5 ∧ b5 < 4294967296) (w : World) : ∃ r : Bool, (Op.equalIn 9999 200 (.agg #[.int .u64 a0, .int .u64 a1, .int .u64 a2, .int .u64 a3, .int .u64 a4, .int .u64 a5]) (.agg #[.int .u64 b0, .int .u64 b1, .int .u64 b2, .int .u64 b3, .int .u64 b4, .int .u64 b5])).run Tryz.prog w = .ok r w ∧ (r = true ↔ a0 = b0 ∧ a1 = b1 ∧ a2 = b2 ∧ a3 = b3 ∧ a4 = b4 ∧ a5 = b5) := by
  obtain ⟨r, e1, e2⟩ := run_equalIn_deep 9997 2 200 key44 w 3 3 _ _ _ _ (formed44 a0 a1 a2 a3 a4 a5) (formed44 b0 b1 b2 b3 b4 b5) (lits44 a0 a1 a2 a3 a4 a5 (wf_dig _ h0) (wf_dig _ h1) (wf_dig _ h2) (wf_dig _ h3) (wf_dig _ h4) (wf_dig _ h5)) (lits44 b0 b1 b2 b3 b4 b5 (wf_dig _ k0) (wf_dig _ k1) (wf_dig _ k2) (wf_dig _ k3) (wf_dig _ k4) (wf_dig _ k5))
  refine ⟨r, e1, e2.trans ?_⟩
  simp
theorem dg_all_zero (R : Nat) (hR : R < 4294967296 ^ 6) (h : dg R 0 = 0 ∧ dg R 1 = 0 ∧ dg R 2 = 0 ∧ dg R 3 = 0 ∧ dg R 4 = 0 ∧ dg R 5 = 0) : R = 0 := by
  have e := sm_dg6 R hR
  obtain ⟨h0, h1, h2, h3, h4, h5⟩ := h
  simp only [sm, h0, h1, h2, h3, h4, h5, Int.zero_mul, Int.add_zero] at e
  omega
theorem eq_zero (R : Nat) (hR : R < 4294967296 ^ 6) (h : R = 0) (w : World) : (Op.equalIn 9999 200 (.agg #[.int .u64 (dg R 0), .int .u64 (dg R 1), .int .u64 (dg R 2), .int .u64 (dg R 3), .int .u64 (dg R 4), .int .u64 (dg R 5)]) (.agg #[.int .u64 0, .int .u64 0, .int .u64 0, .int .u64 0, .int .u64 0, .int .u64 0])).run Tryz.prog w = .ok true w := by
  obtain ⟨r, h1, h2⟩ := eq44 (dg R 0) (dg R 1) (dg R 2) (dg R 3) (dg R 4) (dg R 5) 0 0 0 0 0 0 (digs_dg R 0) (digs_dg R 1) (digs_dg R 2) (digs_dg R 3) (digs_dg R 4) (digs_dg R 5) (by omega) (by omega) (by omega) (by omega) (by omega) (by omega) w
  rw [h1, h2.2 (by subst h; simp [dg_zero])]
theorem ne_zero (R : Nat) (hR : R < 4294967296 ^ 6) (h : R ≠ 0) (w : World) : (Op.equalIn 9999 200 (.agg #[.int .u64 (dg R 0), .int .u64 (dg R 1), .int .u64 (dg R 2), .int .u64 (dg R 3), .int .u64 (dg R 4), .int .u64 (dg R 5)]) (.agg #[.int .u64 0, .int .u64 0, .int .u64 0, .int .u64 0, .int .u64 0, .int .u64 0])).run Tryz.prog w = .ok false w := by
  obtain ⟨r, h1, h2⟩ := eq44 (dg R 0) (dg R 1) (dg R 2) (dg R 3) (dg R 4) (dg R 5) 0 0 0 0 0 0 (digs_dg R 0) (digs_dg R 1) (digs_dg R 2) (digs_dg R 3) (digs_dg R 4) (digs_dg R 5) (by omega) (by omega) (by omega) (by omega) (by omega) (by omega) w
  cases r with
  | false => exact h1
  | true => exact (h (dg_all_zero R hR (h2.1 rfl))).elim
theorem run_st46_past (w : World) (b : Nat) (a0 a1 a2 a3 a4 a5 : Int) (hb : b = w.heap.size) : (st46 (.pointer (some ⟨b, 0, none⟩)) (.agg #[.int .u64 a0, .int .u64 a1, .int .u64 a2, .int .u64 a3, .int .u64 a4, .int .u64 a5])).run Tryz.prog ((w.alloc (.cells #[.int .u64 0, .int .u64 0, .int .u64 0, .int .u64 0, .int .u64 0, .int .u64 0] 202)).alloc (.cells #[.int .u64 0, .int .u64 0, .int .u64 0, .int .u64 0, .int .u64 0, .int .u64 0] 202)) = .ok () ((w.alloc (.cells #[.int .u64 a0, .int .u64 a1, .int .u64 a2, .int .u64 a3, .int .u64 a4, .int .u64 a5] 202)).alloc (.cells #[.int .u64 0, .int .u64 0, .int .u64 0, .int .u64 0, .int .u64 0, .int .u64 0] 202)) := by
  subst hb
  unfold st46
  simp [go_sem]
theorem over_open (M D : Nat) (hM : M < 4294967296 ^ 6) (hD : 0 < D) (hD2 : D < 18446744073709551616) (w : World) :
    Calls Tryz.prog 241 #[wv M, wv D] w fun e w' => e = .returned (.tuple #[.agg #[.int .u64 (dg (M / D) 0), .int .u64 (dg (M / D) 1), .int .u64 (dg (M / D) 2), .int .u64 (dg (M / D) 3), .int .u64 (dg (M / D) 4), .int .u64 (dg (M / D) 5)], .agg #[.int .u64 (dg (M % D) 0), .int .u64 (dg (M % D) 1), .int .u64 (dg (M % D) 2), .int .u64 (dg (M % D) 3), .int .u64 (dg (M % D) 4), .int .u64 (dg (M % D) 5)]]) ∧ Below w.heap.size w w' := over_walk M D hM hD hD2 w
end Go.Proofs.YtcafhmlpmbkhkaaGreatDoor.Mw
