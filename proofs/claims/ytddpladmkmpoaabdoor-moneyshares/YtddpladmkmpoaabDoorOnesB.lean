import Derived.Test.YtddpladmkmpoaabDoorOnesA
namespace Go.Proofs.YtddpladmkmpoaabDoor
open Go.ChangeShapes Go.WideShapes Go.ChangeAt Go.RowKit
set_option linter.unusedVariables false

def opp (a b : Int) : Bool := decide (a < 0) != decide (b < 0)
theorem ret_b {a b : Bool} (h : a = b) : Ending.returned (.bool a) = .returned (.bool b) := by rw [h]
theorem ret_u {a b : Int} (h : a = b) : Ending.returned (.int .u64 a) = .returned (.int .u64 b) := by rw [h]

set_option maxHeartbeats 1000000 in
theorem opp_any (a b : Int) (w : World) : Calls Tryd.prog 31 #[.int .i64 a, .int .i64 b] w fun e w' => e = .returned (.bool (opp a b)) ∧ w' = w := by
  by_cases ha : a < 0 <;> by_cases hb : b < 0
  all_goals
    go_enter Tryd.func31, Tryd.ntmps31
    go_wp2
    go_ret
    exact ⟨ret_b (by simp [opp]; omega), rfl⟩
set_option maxHeartbeats 1000000 in
theorem size_any (a : Int) (w : World) (h : -9223372036854775807 ≤ a) (h' : a ≤ 9223372036854775807) : Calls Tryd.prog 25 #[.int .i64 a] w fun e w' => e = .returned (.int .u64 (a.natAbs : Int)) ∧ w' = w := by
  by_cases ha : a < 0
  · go_enter Tryd.func25, Tryd.ntmps25
    go_wp2
    go_ret
    exact ⟨ret_u (by omega), rfl⟩
  · go_enter Tryd.func25, Tryd.ntmps25
    go_wp2
    go_ret
    exact ⟨ret_u (by omega), rfl⟩
set_option maxHeartbeats 1000000 in
theorem signed_pos (n : Nat) (w : World) (h : n ≤ 9223372036854775807) : Calls Tryd.prog 32 #[.int .u64 n, .bool false] w fun e w' => e = .returned (.tuple #[.int .i64 n, .int .i64 0]) ∧ w' = w := by
  have hi : (n : Int) ≤ 9223372036854775807 := by omega
  go_enter Tryd.func32, Tryd.ntmps32
  go_wp2
  go_ret2
  exact ⟨rfl, rfl⟩
set_option maxHeartbeats 1000000 in
theorem signed_neg (n : Nat) (w : World) (h : n ≤ 9223372036854775807) : Calls Tryd.prog 32 #[.int .u64 n, .bool true] w fun e w' => e = .returned (.tuple #[.int .i64 (-(n : Int)), .int .i64 0]) ∧ w' = w := by
  have hi : (n : Int) ≤ 9223372036854775807 := by omega
  go_enter Tryd.func32, Tryd.ntmps32
  go_wp2
  go_ret2
  exact ⟨rfl, rfl⟩
theorem signed_fits (n : Nat) (s : Bool) (w : World) (h : n ≤ 9223372036854775807) : Calls Tryd.prog 32 #[.int .u64 n, .bool s] w fun e w' => e = .returned (.tuple #[.int .i64 (if s then -(n : Int) else n), .int .i64 0]) ∧ w' = w := by
  cases s
  · exact signed_pos n w h
  · exact signed_neg n w h
set_option maxHeartbeats 1000000 in
theorem signed_over (n : Nat) (s : Bool) (w : World) (h : 9223372036854775808 ≤ n) : Calls Tryd.prog 32 #[.int .u64 n, .bool s] w fun e w' => e = .returned (.tuple #[.int .i64 0, .int .i64 11]) ∧ w' = w := by
  have hi : (9223372036854775807 : Int) < (n : Int) := by omega
  clear h
  go_enter Tryd.func32, Tryd.ntmps32
  go_wp2
  go_ret2
  exact ⟨rfl, rfl⟩

theorem mul64_any (x y hi lo : Nat) (hx : x < 18446744073709551616) (hy : y < 18446744073709551616) (h1 : x * y / 18446744073709551616 = hi) (h2 : x * y % 18446744073709551616 = lo) (w : World) :
    Calls Tryd.prog 33 #[.int .u64 x, .int .u64 y] w fun e w' => e = .returned (.tuple #[.int .u64 hi, .int .u64 lo]) ∧ w' = w := by
  rw [← h1, ← h2]
  exact Tryd.bits_Mul64 x y hx hy w

set_option maxHeartbeats 1000000 in
set_option maxHeartbeats 1000000 in
theorem noMin {a : Int} (h : isMin a = false) : ¬ a = -9223372036854775808 := by intro e; rw [isMin_yes e] at h; cases h
theorem minCases (a b : Int) : (isMin a = true ∨ isMin b = true) ∨ (isMin a = false ∧ isMin b = false) := by
  cases isMin a <;> cases isMin b <;> simp
end Go.Proofs.YtddpladmkmpoaabDoor
