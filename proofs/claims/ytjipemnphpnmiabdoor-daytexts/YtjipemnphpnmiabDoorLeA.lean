import Derived.Test.YtjipemnphpnmiabDoorCal
import Derived.WalkKit
import Derived.ProofKit
import Derived.OpenShut
import Derived.WalkLawsBesides
import Derived.BigCall
import Derived.Lib.LaidTab
import Derived.Below
namespace Go.Proofs.YtjipemnphpnmiabDoor
open Go.ChangeShapes Go.WideShapes Go.ChangeAt Go.RowKit
set_option linter.unusedVariables false
theorem hide {p : Prop} (h : p) : Hid p := h
theorem unhide {p : Prop} (h : Hid p) : p := h
theorem retB {p q : Bool} (h : p = q) : Ending.returned (.bool p) = .returned (.bool q) := by rw [h]
theorem retI {a b : Int} (h : a = b) : Ending.returned (.int .i64 a) = .returned (.int .i64 b) := by rw [h]
theorem retII {a b c d : Int} (h : a = b) (k : c = d) : Ending.returned (.tuple #[.int .i64 a, .int .i64 c]) = .returned (.tuple #[.int .i64 b, .int .i64 d]) := by rw [h, k]
/-- a leap year, of any whole number -/
def lp (y : Int) : Bool := y.tmod 4 == 0 && (y.tmod 100 != 0 || y.tmod 400 == 0)
theorem tmod_nat (y k : Nat) : ((y : Int).tmod (k : Int)) = ((y % k : Nat) : Int) := by
  rw [Int.tmod_eq_emod_of_nonneg (by omega)]
  omega
theorem lp_nat (y : Nat) : lp (y : Int) = leap y := by
  have h1 := tmod_nat y 4
  have h2 := tmod_nat y 100
  have h3 := tmod_nat y 400
  unfold lp leap
  rw [show ((4 : Nat) : Int) = 4 from rfl] at h1
  rw [show ((100 : Nat) : Int) = 100 from rfl] at h2
  rw [show ((400 : Nat) : Int) = 400 from rfl] at h3
  rw [h1, h2, h3]
  generalize y % 4 = a
  generalize y % 100 = b
  generalize y % 400 = c
  rw [Bool.eq_iff_iff]
  simp
set_option maxHeartbeats 1000000 in
theorem dleap (y : Int) (w : World) : Calls Tryd.prog 17 #[.int .i64 y] w fun e w' => e = .returned (.bool (lp y)) ∧ w' = w := by
  go_enter Tryd.func17, Tryd.ntmps17
  go_wp2
  all_goals
    go_ret
    exact ⟨retB (by simp [lp, *]), rfl⟩
set_option maxHeartbeats 1000000 in
theorem rleap (y : Int) (w : World) : Calls Tryd.prog 40 #[.int .i64 y] w fun e w' => e = .returned (.bool (lp y)) ∧ w' = w := by
  have h4 : y.tmod 400 = 0 → y.tmod 100 = 0 ∧ y.tmod 4 = 0 := by
    intro h
    have := Int.dvd_of_tmod_eq_zero h
    exact ⟨Int.tmod_eq_zero_of_dvd (by omega), Int.tmod_eq_zero_of_dvd (by omega)⟩
  have H := hide h4
  clear h4
  go_enter Tryd.func40, Tryd.ntmps40
  go_wp2
  all_goals
    go_ret
    have h4 := unhide H
    refine ⟨retB ?_, rfl⟩
    unfold lp
    rw [Bool.eq_iff_iff]
    simp [*]
    try omega
/-- the months' days -/
def mdl : List Int := [31, 28, 31, 30, 31, 30, 31, 31, 30, 31, 30, 31]
/-- they lie in their variable -/
def Mon (w : World) : Prop := Lib.TabIs Tryd.prog w "daybook/day.monthDays" .i64 mdl
theorem mon_no : Tryd.prog.globalNamed "daybook/day.monthDays" = some 0 := by kernel_rfl
theorem Mon.cell {w : World} (h : Mon w) (i : Nat) (hi : i < 12) : w.cell? ⟨0, i, none⟩ = some (.int .i64 (mdl.getD i 0)) := Lib.TabIs.cell h mon_no i hi
theorem Mon.below {w w' : World} (h : Mon w) (hb : Below w.heap.size w w') : Mon w' := by
  unfold Mon Lib.TabIs World.var? at h ⊢
  rw [mon_no] at h ⊢
  simp only [Option.bind_some] at h ⊢
  have hlt : 0 < w.heap.size := by
    rcases Nat.lt_or_ge 0 w.heap.size with h' | h'
    · exact h'
    · rw [Array.getElem?_eq_none h'] at h; cases h
  rw [hb.block 0 hlt]
  exact h
set_option maxHeartbeats 2000000 in
theorem dof (y m : Nat) (w : World) (hM : Mon w) (h1 : 1 ≤ m) (h2 : m ≤ 12) : Calls Tryd.prog 26 #[.int .i64 y, .int .i64 m] w fun e w' => e = .returned (.int .i64 (dm y m)) ∧ w' = w := by
  have hm : m = 2 ∨ m = 1 ∨ m = 3 ∨ m = 4 ∨ m = 5 ∨ m = 6 ∨ m = 7 ∨ m = 8 ∨ m = 9 ∨ m = 10 ∨ m = 11 ∨ m = 12 := by omega
  clear h1 h2
  rcases hm with rfl | hm
  · have hc : w.cell? ⟨0, 1, none⟩ = some (.int .i64 28) := hM.cell 1 (by omega)
    have hl := dleap y w
    rw [lp_nat] at hl
    cases he : leap y
    · rw [he] at hl
      have hd : dm y 2 = 28 := by simp [dm, he]
      rw [hd]
      clear hd he hM
      go_enter Tryd.func26, Tryd.ntmps26
      go_wp2_with (go_at_call 17; refine hl.mono ?_; rintro e w' ⟨rfl, hw⟩; subst hw)
      go_ret
      exact ⟨rfl, rfl⟩
    · rw [he] at hl
      have hd : dm y 2 = 29 := by simp [dm, he]
      rw [hd]
      clear hd he hM
      go_enter Tryd.func26, Tryd.ntmps26
      go_wp2_with (go_at_call 17; refine hl.mono ?_; rintro e w' ⟨rfl, hw⟩; subst hw)
      go_ret
      exact ⟨rfl, rfl⟩
  · have hc1 : ∀ i : Nat, i < 12 → w.cell? ⟨0, i, none⟩ = some (.int .i64 (mdl.getD i 0)) := fun i hi => hM.cell i hi
    clear hM
    have HC := hide hc1
    clear hc1
    rcases hm with rfl | rfl | rfl | rfl | rfl | rfl | rfl | rfl | rfl | rfl | rfl
    · have hc : w.cell? ⟨0, 0, none⟩ = some (.int .i64 31) := unhide HC 0 (by omega)
      go_enter Tryd.func26, Tryd.ntmps26
      go_wp2
      go_ret
      exact ⟨rfl, rfl⟩
    · have hc : w.cell? ⟨0, 2, none⟩ = some (.int .i64 31) := unhide HC 2 (by omega)
      go_enter Tryd.func26, Tryd.ntmps26
      go_wp2
      go_ret
      exact ⟨rfl, rfl⟩
    · have hc : w.cell? ⟨0, 3, none⟩ = some (.int .i64 30) := unhide HC 3 (by omega)
      go_enter Tryd.func26, Tryd.ntmps26
      go_wp2
      go_ret
      exact ⟨rfl, rfl⟩
    · have hc : w.cell? ⟨0, 4, none⟩ = some (.int .i64 31) := unhide HC 4 (by omega)
      go_enter Tryd.func26, Tryd.ntmps26
      go_wp2
      go_ret
      exact ⟨rfl, rfl⟩
    · have hc : w.cell? ⟨0, 5, none⟩ = some (.int .i64 30) := unhide HC 5 (by omega)
      go_enter Tryd.func26, Tryd.ntmps26
      go_wp2
      go_ret
      exact ⟨rfl, rfl⟩
    · have hc : w.cell? ⟨0, 6, none⟩ = some (.int .i64 31) := unhide HC 6 (by omega)
      go_enter Tryd.func26, Tryd.ntmps26
      go_wp2
      go_ret
      exact ⟨rfl, rfl⟩
    · have hc : w.cell? ⟨0, 7, none⟩ = some (.int .i64 31) := unhide HC 7 (by omega)
      go_enter Tryd.func26, Tryd.ntmps26
      go_wp2
      go_ret
      exact ⟨rfl, rfl⟩
    · have hc : w.cell? ⟨0, 8, none⟩ = some (.int .i64 30) := unhide HC 8 (by omega)
      go_enter Tryd.func26, Tryd.ntmps26
      go_wp2
      go_ret
      exact ⟨rfl, rfl⟩
    · have hc : w.cell? ⟨0, 9, none⟩ = some (.int .i64 31) := unhide HC 9 (by omega)
      go_enter Tryd.func26, Tryd.ntmps26
      go_wp2
      go_ret
      exact ⟨rfl, rfl⟩
    · have hc : w.cell? ⟨0, 10, none⟩ = some (.int .i64 30) := unhide HC 10 (by omega)
      go_enter Tryd.func26, Tryd.ntmps26
      go_wp2
      go_ret
      exact ⟨rfl, rfl⟩
    · have hc : w.cell? ⟨0, 11, none⟩ = some (.int .i64 31) := unhide HC 11 (by omega)
      go_enter Tryd.func26, Tryd.ntmps26
      go_wp2
      go_ret
      exact ⟨rfl, rfl⟩
set_option maxHeartbeats 2000000 in
theorem rsize (y m : Nat) (w : World) (h1 : 1 ≤ m) (h2 : m ≤ 12) : Calls Tryd.prog 37 #[.int .i64 y, .int .i64 m] w fun e w' => e = .returned (.int .i64 (dm y m)) ∧ w' = w := by
  have hm : m = 2 ∨ m = 1 ∨ m = 3 ∨ m = 4 ∨ m = 5 ∨ m = 6 ∨ m = 7 ∨ m = 8 ∨ m = 9 ∨ m = 10 ∨ m = 11 ∨ m = 12 := by omega
  clear h1 h2
  rcases hm with rfl | hm
  · have hl := rleap y w
    rw [lp_nat] at hl
    cases he : leap y
    · rw [he] at hl
      have hd : dm y 2 = 28 := by simp [dm, he]
      rw [hd]
      clear hd he
      go_enter Tryd.func37, Tryd.ntmps37
      go_wp2_with (go_at_call 40; refine hl.mono ?_; rintro e w' ⟨rfl, hw⟩; subst hw)
      go_ret
      exact ⟨rfl, rfl⟩
    · rw [he] at hl
      have hd : dm y 2 = 29 := by simp [dm, he]
      rw [hd]
      clear hd he
      go_enter Tryd.func37, Tryd.ntmps37
      go_wp2_with (go_at_call 40; refine hl.mono ?_; rintro e w' ⟨rfl, hw⟩; subst hw)
      go_ret
      exact ⟨rfl, rfl⟩
  · rcases hm with rfl | rfl | rfl | rfl | rfl | rfl | rfl | rfl | rfl | rfl | rfl
    all_goals
      go_enter Tryd.func37, Tryd.ntmps37
      go_wp2
      go_ret
      exact ⟨rfl, rfl⟩
set_option maxHeartbeats 2000000 in
theorem rlong (y : Nat) (w : World) : Calls Tryd.prog 36 #[.int .i64 y] w fun e w' => e = .returned (.int .i64 (yl y)) ∧ w' = w := by
  have hl := rleap y w
  rw [lp_nat] at hl
  cases he : leap y
  · rw [he] at hl
    have hd : yl y = 365 := by simp [yl, he]
    rw [hd]
    clear hd he
    go_enter Tryd.func36, Tryd.ntmps36
    go_wp2_with (go_at_call 40; refine hl.mono ?_; rintro e w' ⟨rfl, hw⟩; subst hw)
    go_ret
    exact ⟨rfl, rfl⟩
  · rw [he] at hl
    have hd : yl y = 366 := by simp [yl, he]
    rw [hd]
    clear hd he
    go_enter Tryd.func36, Tryd.ntmps36
    go_wp2_with (go_at_call 40; refine hl.mono ?_; rintro e w' ⟨rfl, hw⟩; subst hw)
    go_ret
    exact ⟨rfl, rfl⟩
set_option maxHeartbeats 1000000 in
theorem isday_yes (n : Int) (w : World) (h1 : 1 ≤ n) (h2 : n ≤ 3652059) : Calls Tryd.prog 24 #[.int .i64 n] w fun e w' => e = .returned (.bool true) ∧ w' = w := by
  go_enter Tryd.func24, Tryd.ntmps24
  go_wp2
  go_ret
  exact ⟨by simp, rfl⟩
set_option maxHeartbeats 1000000 in
theorem isday_no (n : Int) (w : World) (h : n < 1 ∨ 3652059 < n) : Calls Tryd.prog 24 #[.int .i64 n] w fun e w' => e = .returned (.bool false) ∧ w' = w := by
  rcases h with h | h
  all_goals
    go_enter Tryd.func24, Tryd.ntmps24
    go_wp2
    go_ret
    exact ⟨by simp; try omega, rfl⟩
end Go.Proofs.YtjipemnphpnmiabDoor
