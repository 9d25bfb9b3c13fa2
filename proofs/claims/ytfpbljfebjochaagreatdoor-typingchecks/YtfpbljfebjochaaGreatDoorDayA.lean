import Derived.Test.YtfpbljfebjochaaGreatDoorCal
import Derived.Test.YtfpbljfebjochaaGreatDoorTyB
import Derived.WalkKit
import Derived.ProofKit
import Derived.OpenShut
import Derived.WalkLawsBesides
import Derived.BigCall
import Derived.Lib.LaidTab
import Derived.Below
namespace Go.Proofs.YtfpbljfebjochaaGreatDoor
open Go.ChangeShapes Go.WideShapes Go.ChangeAt Go.RowKit
set_option linter.unusedVariables false
theorem retB {p q : Bool} (h : p = q) : Ending.returned (.bool p) = .returned (.bool q) := by rw [h]
theorem retI {a b : Int} (h : a = b) : Ending.returned (.int .i64 a) = .returned (.int .i64 b) := by rw [h]
theorem retII {a b c d : Int} (h : a = b) (k : c = d) : Ending.returned (.tuple #[.int .i64 a, .int .i64 c]) = .returned (.tuple #[.int .i64 b, .int .i64 d]) := by rw [h, k]
/-- a leap year, of any whole number -/
def lp (y : Int) : Bool := y.tmod 4 == 0 && (y.tmod 100 != 0 || y.tmod 400 == 0)
theorem tmod_nat (y k : Nat) : ((y : Int).tmod (k : Int)) = ((y % k : Nat) : Int) := by
  rw [Int.tmod_eq_emod_of_nonneg (by omega)]
  omega
theorem lp_nat (y : Nat) : lp (y : Int) = leap y := by
  have h1 := tmod_nat y 4
  have h2 := tmod_nat y 100
  have h3 := tmod_nat y 400
  unfold lp leap
  rw [show ((4 : Nat) : Int) = 4 from rfl] at h1
  rw [show ((100 : Nat) : Int) = 100 from rfl] at h2
  rw [show ((400 : Nat) : Int) = 400 from rfl] at h3
  rw [h1, h2, h3]
  generalize y % 4 = a
  generalize y % 100 = b
  generalize y % 400 = c
  rw [Bool.eq_iff_iff]
  simp
set_option maxHeartbeats 1000000 in
theorem dleap (y : Int) (w : World) : Calls Tryz.prog 225 #[.int .i64 y] w fun e w' => e = .returned (.bool (lp y)) ∧ w' = w := by
  go_enter Tryz.func225, Tryz.ntmps225
  go_wp2
  all_goals
    go_ret
    exact ⟨retB (by simp [lp, *]), rfl⟩
theorem Mon.cell {w : World} (h : Mon w) (i : Nat) (hi : i < 12) : w.cell? ⟨2, i, none⟩ = some (.int .i64 (monL.getD i 0)) := Lib.TabIs.cell h mon_no i hi
set_option maxHeartbeats 2000000 in
theorem dof (y m : Nat) (w : World) (hM : Mon w) (h1 : 1 ≤ m) (h2 : m ≤ 12) : Calls Tryz.prog 223 #[.int .i64 y, .int .i64 m] w fun e w' => e = .returned (.int .i64 (dm y m)) ∧ w' = w := by
  have hm : m = 2 ∨ m = 1 ∨ m = 3 ∨ m = 4 ∨ m = 5 ∨ m = 6 ∨ m = 7 ∨ m = 8 ∨ m = 9 ∨ m = 10 ∨ m = 11 ∨ m = 12 := by omega
  clear h1 h2
  rcases hm with rfl | hm
  · have hc : w.cell? ⟨2, 1, none⟩ = some (.int .i64 28) := hM.cell 1 (by omega)
    have hl := dleap y w
    rw [lp_nat] at hl
    cases he : leap y
    · rw [he] at hl
      have hd : dm y 2 = 28 := by simp [dm, he]
      rw [hd]
      clear hd he hM
      go_enter Tryz.func223, Tryz.ntmps223
      go_wp2_with (go_at_call 225; refine hl.mono ?_; rintro e w' ⟨rfl, hw⟩; subst hw)
      go_ret
      exact ⟨rfl, rfl⟩
    · rw [he] at hl
      have hd : dm y 2 = 29 := by simp [dm, he]
      rw [hd]
      clear hd he hM
      go_enter Tryz.func223, Tryz.ntmps223
      go_wp2_with (go_at_call 225; refine hl.mono ?_; rintro e w' ⟨rfl, hw⟩; subst hw)
      go_ret
      exact ⟨rfl, rfl⟩
  · have hc1 : ∀ i : Nat, i < 12 → w.cell? ⟨2, i, none⟩ = some (.int .i64 (monL.getD i 0)) := fun i hi => hM.cell i hi
    clear hM
    have HC := hide hc1
    clear hc1
    rcases hm with rfl | rfl | rfl | rfl | rfl | rfl | rfl | rfl | rfl | rfl | rfl
    · have hc : w.cell? ⟨2, 0, none⟩ = some (.int .i64 31) := unhide HC 0 (by omega)
      go_enter Tryz.func223, Tryz.ntmps223
      go_wp2
      go_ret
      exact ⟨rfl, rfl⟩
    · have hc : w.cell? ⟨2, 2, none⟩ = some (.int .i64 31) := unhide HC 2 (by omega)
      go_enter Tryz.func223, Tryz.ntmps223
      go_wp2
      go_ret
      exact ⟨rfl, rfl⟩
    · have hc : w.cell? ⟨2, 3, none⟩ = some (.int .i64 30) := unhide HC 3 (by omega)
      go_enter Tryz.func223, Tryz.ntmps223
      go_wp2
      go_ret
      exact ⟨rfl, rfl⟩
    · have hc : w.cell? ⟨2, 4, none⟩ = some (.int .i64 31) := unhide HC 4 (by omega)
      go_enter Tryz.func223, Tryz.ntmps223
      go_wp2
      go_ret
      exact ⟨rfl, rfl⟩
    · have hc : w.cell? ⟨2, 5, none⟩ = some (.int .i64 30) := unhide HC 5 (by omega)
      go_enter Tryz.func223, Tryz.ntmps223
      go_wp2
      go_ret
      exact ⟨rfl, rfl⟩
    · have hc : w.cell? ⟨2, 6, none⟩ = some (.int .i64 31) := unhide HC 6 (by omega)
      go_enter Tryz.func223, Tryz.ntmps223
      go_wp2
      go_ret
      exact ⟨rfl, rfl⟩
    · have hc : w.cell? ⟨2, 7, none⟩ = some (.int .i64 31) := unhide HC 7 (by omega)
      go_enter Tryz.func223, Tryz.ntmps223
      go_wp2
      go_ret
      exact ⟨rfl, rfl⟩
    · have hc : w.cell? ⟨2, 8, none⟩ = some (.int .i64 30) := unhide HC 8 (by omega)
      go_enter Tryz.func223, Tryz.ntmps223
      go_wp2
      go_ret
      exact ⟨rfl, rfl⟩
    · have hc : w.cell? ⟨2, 9, none⟩ = some (.int .i64 31) := unhide HC 9 (by omega)
      go_enter Tryz.func223, Tryz.ntmps223
      go_wp2
      go_ret
      exact ⟨rfl, rfl⟩
    · have hc : w.cell? ⟨2, 10, none⟩ = some (.int .i64 30) := unhide HC 10 (by omega)
      go_enter Tryz.func223, Tryz.ntmps223
      go_wp2
      go_ret
      exact ⟨rfl, rfl⟩
    · have hc : w.cell? ⟨2, 11, none⟩ = some (.int .i64 31) := unhide HC 11 (by omega)
      go_enter Tryz.func223, Tryz.ntmps223
      go_wp2
      go_ret
      exact ⟨rfl, rfl⟩
set_option maxHeartbeats 1000000 in
theorem isday_yes (n : Int) (w : World) (h1 : 1 ≤ n) (h2 : n ≤ 3652059) : Calls Tryz.prog 220 #[.int .i64 n] w fun e w' => e = .returned (.bool true) ∧ w' = w := by
  go_enter Tryz.func220, Tryz.ntmps220
  go_wp2
  go_ret
  exact ⟨by simp, rfl⟩
set_option maxHeartbeats 1000000 in
theorem isday_no (n : Int) (w : World) (h : n < 1 ∨ 3652059 < n) : Calls Tryz.prog 220 #[.int .i64 n] w fun e w' => e = .returned (.bool false) ∧ w' = w := by
  rcases h with h | h
  all_goals
    go_enter Tryz.func220, Tryz.ntmps220
    go_wp2
    go_ret
    exact ⟨by simp; try omega, rfl⟩
end Go.Proofs.YtfpbljfebjochaaGreatDoor
