import Derived.Test.YtjipemnphpnmiabDoorFiA
import Derived.Test.YtjipemnphpnmiabDoorAdB
namespace Go.Proofs.YtjipemnphpnmiabDoor
open Go.ChangeShapes Go.WideShapes Go.ChangeAt Go.RowKit
set_option linter.unusedVariables false
theorem dadd_bad (n b : Int) (w : World) (h1 : 1 ≤ n) (h2 : n ≤ 3652059) (h : n + b < 1 ∨ 3652059 < n + b) : Calls Tryd.prog 13 #[.int .i64 n, .int .i64 b] w fun e w' => e = .returned (.tuple #[.int .i64 0, .int .i64 20]) ∧ w' = w := dadd_out n b w h1 h2 (by omega)
/-- Add, at any number of days -/
theorem dadd_is (n b : Int) (h1 : 1 ≤ n) (h2 : n ≤ 3652059) : ∃ a e : Int, (1 ≤ n + b ∧ n + b ≤ 3652059 ∧ a = n + b ∧ e = 0 ∨ (n + b < 1 ∨ 3652059 < n + b) ∧ a = 0 ∧ e = 20) ∧ ∀ w, Calls Tryd.prog 13 #[.int .i64 n, .int .i64 b] w fun r w' => r = .returned (.tuple #[.int .i64 a, .int .i64 e]) ∧ w' = w := by
  by_cases h : 1 ≤ n + b ∧ n + b ≤ 3652059
  · exact ⟨_, _, Or.inl ⟨h.1, h.2, rfl, rfl⟩, fun w => dadd_ok n b w h1 h2 h.1 h.2⟩
  · exact ⟨_, _, Or.inr ⟨by omega, rfl, rfl⟩, fun w => dadd_bad n b w h1 h2 (by omega)⟩
set_option maxHeartbeats 2000000 in
theorem walk_rows_go (n0 a0 b0 : Int) (n a b : Nat) (w : World) (hM : Mon w) (hP : Pow w)
    (A2 : Hid (∀ W, Calls Tryd.prog 9 #[.int .i64 n0] W fun e w' => e = .returned (.int .i64 (n : Int)) ∧ w' = W))
    (A3 : Hid (∀ W, Calls Tryd.prog 9 #[.int .i64 a0] W fun e w' => e = .returned (.int .i64 (a : Int)) ∧ w' = W))
    (A4 : Hid (∀ W, Calls Tryd.prog 9 #[.int .i64 b0] W fun e w' => e = .returned (.int .i64 (b : Int)) ∧ w' = W)) (n1 : 1 ≤ n) (n2 : n ≤ 3652059) (a1 : 1 ≤ a) (a2 : a ≤ 3652059) (b1 : 1 ≤ b) (b2 : b ≤ 3652059) :
    Calls Tryd.prog 4 #[.int .i64 n0, .int .i64 a0, .int .i64 b0] w fun e w' => e = .returned (.bool true) ∧ Below w.heap.size w w' := by
  have A1 := hide (first_ok w hM hP)
  clear hM hP
  obtain ⟨x, e1, hx, hX⟩ := dadd_is n ((a : Int) - (b : Int)) (by omega) (by omega)
  have A5 := hide hX
  clear hX
  rcases hx with ⟨q1, q2, rfl, rfl⟩ | ⟨q1, rfl, rfl⟩
  · obtain ⟨y, e2, hy, hY⟩ := dadd_is ((n : Int) + ((a : Int) - (b : Int))) ((b : Int) - (n : Int)) q1 q2
    obtain ⟨z, e3, hz, hZ⟩ := dadd_is n ((a : Int) - (b : Int) + ((b : Int) - (n : Int))) (by omega) (by omega)
    have h1 : z = y := by omega
    have h2 : e3 = e2 := by omega
    rw [h1, h2] at hZ
    have A6 := hide hY
    have A7 := hide hZ
    clear hy hY hz hZ h1 h2
    go_enter Tryd.func4, Tryd.ntmps4
    go_wp2_with fail
    refine (unhide A1).mono ?_
    rintro e w1 ⟨rfl, c1⟩
    have B1 := hide c1
    clear c1
    go_wp2_with fail
    refine (unhide A2 _).mono ?_
    rintro e w0 ⟨rfl, hw⟩
    rw [hw]
    clear hw w0
    go_wp2_with fail
    refine (unhide A3 _).mono ?_
    rintro e w0 ⟨rfl, hw⟩
    rw [hw]
    clear hw w0
    go_wp2_with fail
    refine (unhide A4 _).mono ?_
    rintro e w0 ⟨rfl, hw⟩
    rw [hw]
    clear hw w0
    go_wp2_with fail
    refine (unhide A4 _).mono ?_
    rintro e w0 ⟨rfl, hw⟩
    rw [hw]
    clear hw w0
    go_wp2_with fail
    refine (unhide A5 _).mono ?_
    rintro e w0 ⟨rfl, hw⟩
    rw [hw]
    clear hw w0
    go_wp2_with fail
    refine (unhide A6 _).mono ?_
    rintro e w0 ⟨rfl, hw⟩
    rw [hw]
    clear hw w0
    go_wp2_with fail
    refine (unhide A7 _).mono ?_
    rintro e w0 ⟨rfl, hw⟩
    rw [hw]
    clear hw w0
    go_wp2
    go_ret
    exact ⟨by simp, unhide B1⟩
  · rcases q1 with q1 | q1
    all_goals
      go_enter Tryd.func4, Tryd.ntmps4
      go_wp2_with fail
      refine (unhide A1).mono ?_
      rintro e w1 ⟨rfl, c1⟩
      have B1 := hide c1
      clear c1
      go_wp2_with fail
      refine (unhide A2 _).mono ?_
      rintro e w0 ⟨rfl, hw⟩
      rw [hw]
      clear hw w0
      go_wp2_with fail
      refine (unhide A3 _).mono ?_
      rintro e w0 ⟨rfl, hw⟩
      rw [hw]
      clear hw w0
      go_wp2_with fail
      refine (unhide A4 _).mono ?_
      rintro e w0 ⟨rfl, hw⟩
      rw [hw]
      clear hw w0
      go_wp2_with fail
      refine (unhide A4 _).mono ?_
      rintro e w0 ⟨rfl, hw⟩
      rw [hw]
      clear hw w0
      go_wp2_with fail
      refine (unhide A5 _).mono ?_
      rintro e w0 ⟨rfl, hw⟩
      rw [hw]
      clear hw w0
      go_wp2
      go_ret
      exact ⟨by simp; try omega, unhide B1⟩
theorem walk_rows (n0 a0 b0 : Int) (w : World) (hM : Mon w) (hP : Pow w) (b1 : -9223372036854775808 ≤ n0) (b2 : n0 ≤ 9223372036854775807) (b3 : -9223372036854775808 ≤ a0) (b4 : a0 ≤ 9223372036854775807) (b5 : -9223372036854775808 ≤ b0) (b6 : b0 ≤ 9223372036854775807) :
    Calls Tryd.prog 4 #[.int .i64 n0, .int .i64 a0, .int .i64 b0] w fun e w' => e = .returned (.bool true) ∧ Below w.heap.size w w' :=
  walk_rows_go n0 a0 b0 (wi n0) (wi a0) (wi b0) w hM hP (fun W => within_any n0 W b1 b2) (fun W => within_any a0 W b3 b4) (fun W => within_any b0 W b5 b6) (wi_lo _) (wi_hi _) (wi_lo _) (wi_hi _) (wi_lo _) (wi_hi _)
end Go.Proofs.YtjipemnphpnmiabDoor
