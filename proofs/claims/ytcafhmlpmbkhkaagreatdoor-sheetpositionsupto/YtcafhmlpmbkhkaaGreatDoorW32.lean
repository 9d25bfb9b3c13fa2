import Derived.Test.YtcafhmlpmbkhkaaGreatDoorW01
import Derived.WalkKit
import Derived.ProofKit
import Derived.OpenShut
import Derived.WalkLawsBesides
import Derived.BigCall
import Derived.Lib.LaidTab
import Derived.Below
namespace Go.Proofs.YtcafhmlpmbkhkaaGreatDoor.Dy
set_option linter.unusedVariables false
set_option linter.unusedSimpArgs false
/-- a leap year -/
def leap (y : Nat) : Bool := y % 4 == 0 && (y % 100 != 0 || y % 400 == 0)
theorem leap_iff (y : Nat) : leap y = true ↔ (y % 4 = 0 ∧ (y % 100 ≠ 0 ∨ y % 400 = 0)) := by simp [leap]
/-- the days of a month -/
def dm (y m : Nat) : Nat := if m = 2 then (if leap y then 29 else 28) else if m = 4 ∨ m = 6 ∨ m = 9 ∨ m = 11 then 30 else 31
theorem dm_lo (y m : Nat) : 28 ≤ dm y m := by unfold dm; split <;> (try split) <;> (try split) <;> omega
theorem dm_hi (y m : Nat) : dm y m ≤ 31 := by unfold dm; split <;> (try split) <;> (try split) <;> omega
/-- the days of a year -/
def yl (y : Nat) : Nat := if leap y then 366 else 365
/-- the days ahead of a year -/
def ahead (y : Nat) : Nat := 365 * (y - 1) + (y - 1) / 4 - (y - 1) / 100 + (y - 1) / 400
/-- the days of the months ahead of a month -/
def mb (y : Nat) : Nat → Nat
  | 0 => 0
  | 1 => 0
  | m + 2 => mb y (m + 1) + dm y (m + 1)
theorem mb_one (y : Nat) : mb y 1 = 0 := rfl
theorem mb_succ (y m : Nat) (h : 1 ≤ m) : mb y (m + 1) = mb y m + dm y m := by
  obtain ⟨k, rfl⟩ : ∃ k, m = k + 1 := ⟨m - 1, by omega⟩
  rfl
theorem mb_le (y : Nat) {m k : Nat} (h : 1 ≤ m) (hk : m ≤ k) : mb y m ≤ mb y k := by
  induction k with
  | zero => omega
  | succ k ih =>
    by_cases e : m = k + 1
    · subst e; exact Nat.le_refl _
    · rw [mb_succ y k (by omega)]
      have := ih (by omega)
      omega
theorem mb_end (y : Nat) : mb y 13 = yl y := by
  cases h : leap y <;> simp [mb, dm, yl, h]
theorem ahead_one : ahead 1 = 0 := by decide
theorem div_step (k c : Nat) (hc : 0 < c) : (k + 1) / c = k / c + (if (k + 1) % c = 0 then 1 else 0) := by
  rw [Nat.succ_div]
  simp only [Nat.dvd_iff_mod_eq_zero]
theorem ahead_succ (y : Nat) (h : 1 ≤ y) : ahead (y + 1) = ahead y + yl y := by
  obtain ⟨k, rfl⟩ : ∃ k, y = k + 1 := ⟨y - 1, by omega⟩
  unfold ahead yl
  simp only [Nat.add_sub_cancel]
  have e1 := div_step k 4 (by decide)
  have e2 := div_step k 100 (by decide)
  have e3 := div_step k 400 (by decide)
  have hle : k / 100 ≤ k / 4 := Nat.div_le_div_left (by decide) (by decide)
  have hl := leap_iff (k + 1)
  have i1 : (k + 1) % 100 = 0 → (k + 1) % 4 = 0 := by omega
  have i2 : (k + 1) % 400 = 0 → (k + 1) % 100 = 0 := by omega
  rw [e1, e2, e3]
  clear e1 e2 e3
  generalize k / 4 = p at *
  generalize k / 100 = q at *
  generalize k / 400 = r at *
  generalize (k + 1) % 4 = u at *
  generalize (k + 1) % 100 = v at *
  generalize (k + 1) % 400 = t at *
  cases hh : leap (k + 1)
  · rw [hh] at hl
    by_cases a1 : u = 0 <;> by_cases a2 : v = 0 <;> by_cases a3 : t = 0 <;> simp_all <;> omega
  · rw [hh] at hl
    by_cases a1 : u = 0 <;> by_cases a2 : v = 0 <;> by_cases a3 : t = 0 <;> simp_all <;> omega
theorem ahead_le {y z : Nat} (h : 1 ≤ y) (hz : y ≤ z) : ahead y ≤ ahead z := by
  induction z with
  | zero => omega
  | succ k ih =>
    by_cases e : y = k + 1
    · subst e; exact Nat.le_refl _
    · rw [ahead_succ k (by omega)]
      have := ih (by omega)
      omega
/-- y, m, d is the date of the day n -/
structure Dat (y m d n : Nat) : Prop where
  y1 : 1 ≤ y
  y2 : y ≤ 9999
  m1 : 1 ≤ m
  m2 : m ≤ 12
  d1 : 1 ≤ d
  d2 : d ≤ dm y m
  num : n = ahead y + mb y m + d
theorem Dat.inYear {y m d n : Nat} (h : Dat y m d n) : mb y m + d ≤ yl y := by
  have h1 := mb_succ y m h.m1
  have h2 := mb_le y (m := m + 1) (k := 13) (by omega) (by have := h.m2; omega)
  rw [mb_end] at h2
  have := h.d2
  omega
theorem Dat.lo {y m d n : Nat} (h : Dat y m d n) : 1 ≤ n := by have := h.num; have := h.d1; omega
theorem ahead_end : ahead 10000 = 3652059 := by decide
theorem Dat.hi {y m d n : Nat} (h : Dat y m d n) : n ≤ 3652059 := by
  have h1 := h.inYear
  have h2 := ahead_succ y h.y1
  have h3 := ahead_le (y := y + 1) (z := 10000) (by omega) (by have := h.y2; omega)
  rw [ahead_end] at h3
  have := h.num
  omega
theorem Dat.less {y m d n y' m' d' n' : Nat} (h : Dat y m d n) (k : Dat y' m' d' n') (hl : y < y' ∨ y = y' ∧ (m < m' ∨ m = m' ∧ d < d')) : n < n' := by
  rw [h.num, k.num]
  rcases hl with hl | ⟨rfl, hl | ⟨rfl, hl⟩⟩
  · have h1 := h.inYear
    have h2 := ahead_succ y h.y1
    have h3 := ahead_le (y := y + 1) (z := y') (by omega) (by omega)
    have := k.d1
    omega
  · have h1 := mb_succ y m h.m1
    have h2 := mb_le y (m := m + 1) (k := m') (by omega) (by omega)
    have := h.d2
    have := k.d1
    omega
  · omega
theorem Dat.same {y m d n y' m' d' : Nat} (h : Dat y m d n) (k : Dat y' m' d' n) : y = y' ∧ m = m' ∧ d = d' := by
  have h1 := fun hl => Dat.less h k hl
  have h2 := fun hl => Dat.less k h hl
  omega
theorem Dat.back {y m d n y' m' d' n' : Nat} (h : Dat y m d n) (k : Dat y' m' d' n') (hl : n < n') : y < y' ∨ y = y' ∧ (m < m' ∨ m = m' ∧ d < d') := by
  have h2 := fun hl => Dat.less k h hl
  have : ¬ (y = y' ∧ m = m' ∧ d = d') := by
    rintro ⟨rfl, rfl, rfl⟩
    have := h.num
    have := k.num
    omega
  omega
/-- the next date -/
theorem Dat.next {y m d n : Nat} (h : Dat y m d n) (hn : n < 3652059) :
    Dat y m (d + 1) (n + 1) ∧ d < dm y m ∨ Dat y (m + 1) 1 (n + 1) ∧ d = dm y m ∧ m < 12 ∨ Dat (y + 1) 1 1 (n + 1) ∧ d = dm y m ∧ m = 12 := by
  by_cases hd : d < dm y m
  · exact Or.inl ⟨⟨h.y1, h.y2, h.m1, h.m2, by omega, by omega, by rw [h.num]; omega⟩, hd⟩
  · have hd' : d = dm y m := by have := h.d2; omega
    by_cases hm : m < 12
    · exact Or.inr (Or.inl ⟨⟨h.y1, h.y2, by omega, by omega, by omega, by have := dm_lo y (m + 1); omega, by rw [h.num, mb_succ y m h.m1]; omega⟩, hd', hm⟩)
    · have hm' : m = 12 := by have := h.m2; omega
      subst hm'
      have h1 : mb y 13 = mb y 12 + dm y 12 := mb_succ y 12 (by omega)
      rw [mb_end] at h1
      have h2 := ahead_succ y h.y1
      have hy : y < 9999 := by
        have := h.y2
        by_cases hy : y = 9999
        · subst hy
          have := h.num
          have e := ahead_end
          have h2' : ahead 10000 = ahead 9999 + yl 9999 := h2
          omega
        · omega
      exact Or.inr (Or.inr ⟨⟨by omega, by omega, by omega, by omega, by omega, by have := dm_lo (y + 1) 1; omega, by rw [h.num, mb_one]; omega⟩, hd', rfl⟩)
theorem dat_first : Dat 1 1 1 1 := ⟨by decide, by decide, by decide, by decide, by decide, by decide, by decide⟩
theorem dat_ex (n : Nat) (h : 1 ≤ n) (h' : n ≤ 3652059) : ∃ y m d, Dat y m d n := by
  induction n with
  | zero => omega
  | succ n ih =>
    by_cases e : n = 0
    · subst e; exact ⟨1, 1, 1, dat_first⟩
    · obtain ⟨y, m, d, k⟩ := ih (by omega) (by omega)
      rcases k.next (by omega) with ⟨k, _⟩ | ⟨k, _⟩ | ⟨k, _⟩ <;> exact ⟨_, _, _, k⟩
/-- a year's place in its cycle -/
structure Cyc (y a b c e : Nat) : Prop where
  eq : y = 400 * a + 100 * b + 4 * c + e + 1
  b3 : b ≤ 3
  c24 : c ≤ 24
  e3 : e ≤ 3
theorem cyc_ex (y : Nat) (h : 1 ≤ y) : ∃ a b c e, Cyc y a b c e := by
  refine ⟨(y - 1) / 400, (y - 1) % 400 / 100, (y - 1) % 100 / 4, (y - 1) % 4, ?_, ?_, ?_, ?_⟩ <;> omega
theorem Cyc.ah {y a b c e : Nat} (h : Cyc y a b c e) : ahead y = 146097 * a + 36524 * b + 1461 * c + 365 * e := by
  have := h.eq
  have := h.b3
  have := h.c24
  have := h.e3
  unfold ahead
  have h1 : (y - 1) / 4 = 100 * a + 25 * b + c := by omega
  have h2 : (y - 1) / 100 = 4 * a + b := by omega
  have h3 : (y - 1) / 400 = a := by omega
  rw [h1, h2, h3]
  omega
theorem Cyc.leap {y a b c e : Nat} (h : Cyc y a b c e) (hl : leap y = true) : e = 3 ∧ (c < 24 ∨ b = 3) := by
  have := h.eq
  have := h.b3
  have := h.c24
  have := h.e3
  rw [leap_iff] at hl
  omega
theorem yl_cases (y : Nat) : leap y = true ∧ yl y = 366 ∨ leap y = false ∧ yl y = 365 := by
  unfold yl
  cases h : leap y <;> simp
/-- what the code's divisions come to: the day of the year r from 0 on -/
theorem Cyc.parts {y a b c e r : Nat} (h : Cyc y a b c e) (hr : r < yl y) :
    (ahead y + r) / 146097 = a ∧ (ahead y + r) % 146097 = 36524 * b + 1461 * c + 365 * e + r ∧ min ((36524 * b + 1461 * c + 365 * e + r) / 36524) 3 = b ∧
    (1461 * c + 365 * e + r) / 1461 = c ∧ (1461 * c + 365 * e + r) % 1461 = 365 * e + r ∧ min ((365 * e + r) / 365) 3 = e := by
  have h1 := h.ah
  have h2 := h.b3
  have h3 := h.c24
  have h4 := h.e3
  have h5 := h.leap
  rw [h1]
  rcases yl_cases y with ⟨hl, hy⟩ | ⟨hl, hy⟩
  · have h6 := h5 hl
    rw [hy] at hr
    omega
  · rw [hy] at hr
    omega
/-- months on: the day so many months later -/
theorem Dat.mon {y m d n : Nat} (h : Dat y m d n) (t : Nat) (h1 : 12 ≤ t) (h2 : t < 120000) : Dat (t / 12) (t % 12 + 1) (min d (dm (t / 12) (t % 12 + 1))) (ahead (t / 12) + mb (t / 12) (t % 12 + 1) + min d (dm (t / 12) (t % 12 + 1))) := by
  have := h.d1
  have := dm_lo (t / 12) (t % 12 + 1)
  exact ⟨by omega, by omega, by omega, by omega, by omega, by omega, rfl⟩
theorem Dat.inMonth {y m d n : Nat} (h : Dat y m d n) (e : Nat) (h1 : 1 ≤ e) (h2 : e ≤ dm y m) : Dat y m e (n - d + e) := ⟨h.y1, h.y2, h.m1, h.m2, h1, h2, by have := h.num; have := h.d1; omega⟩
theorem Dat.dn {y m d n : Nat} (h : Dat y m d n) : d ≤ n := by have := h.num; omega
/-- a cycle further on -/
theorem ahead_cyc (y : Nat) (h : 1 ≤ y) : ahead (y + 400) = ahead y + 146097 := by
  obtain ⟨a, b, c, e, k⟩ := cyc_ex y h
  have k2 : Cyc (y + 400) (a + 1) b c e := ⟨by have := k.eq; omega, k.b3, k.c24, k.e3⟩
  rw [k.ah, k2.ah]
  omega
theorem leap_cyc (y : Nat) : leap (y + 400) = leap y := by
  unfold leap
  rw [show (y + 400) % 4 = y % 4 by omega, show (y + 400) % 100 = y % 100 by omega, show (y + 400) % 400 = y % 400 by omega]
theorem dm_cyc (y m : Nat) : dm (y + 400) m = dm y m := by unfold dm; rw [leap_cyc]
theorem mb_cyc (y : Nat) : ∀ m, mb (y + 400) m = mb y m
  | 0 => rfl
  | 1 => rfl
  | m + 2 => by
    show mb (y + 400) (m + 1) + dm (y + 400) (m + 1) = mb y (m + 1) + dm y (m + 1)
    rw [mb_cyc y (m + 1), dm_cyc]
theorem Dat.cyc {y m d n : Nat} (h : Dat y m d n) (hn : n + 146097 ≤ 3652059) : Dat (y + 400) m d (n + 146097) := by
  have hy : y + 400 ≤ 9999 := by
    have h1 := h.y1
    by_cases hy : y + 400 ≤ 9999
    · exact hy
    · have h3 := ahead_le (y := 10000) (z := y + 400) (by omega) (by omega)
      rw [ahead_end, ahead_cyc y h.y1] at h3
      have := h.num
      have := h.d1
      omega
  exact ⟨by omega, hy, h.m1, h.m2, h.d1, by rw [dm_cyc]; exact h.d2, by rw [ahead_cyc y h.y1, mb_cyc, h.num]; omega⟩
end Go.Proofs.YtcafhmlpmbkhkaaGreatDoor.Dy
namespace Go.Proofs.YtcafhmlpmbkhkaaGreatDoor.Dy
open Go.ChangeShapes Go.WideShapes Go.ChangeAt Go.RowKit
set_option linter.unusedVariables false
set_option linter.unusedSimpArgs false
theorem retB {p q : Bool} (h : p = q) : Ending.returned (.bool p) = .returned (.bool q) := by rw [h]
theorem retI {a b : Int} (h : a = b) : Ending.returned (.int .i64 a) = .returned (.int .i64 b) := by rw [h]
theorem retII {a b c d : Int} (h : a = b) (k : c = d) : Ending.returned (.tuple #[.int .i64 a, .int .i64 c]) = .returned (.tuple #[.int .i64 b, .int .i64 d]) := by rw [h, k]
/-- a leap year, of any whole number -/
def lp (y : Int) : Bool := y.tmod 4 == 0 && (y.tmod 100 != 0 || y.tmod 400 == 0)
theorem tmod_nat (y k : Nat) : ((y : Int).tmod (k : Int)) = ((y % k : Nat) : Int) := by
  rw [Int.tmod_eq_emod_of_nonneg (by omega)]
  omega
theorem lp_nat (y : Nat) : lp (y : Int) = leap y := by
  have h1 := tmod_nat y 4
  have h2 := tmod_nat y 100
  have h3 := tmod_nat y 400
  unfold lp leap
  rw [show ((4 : Nat) : Int) = 4 from rfl] at h1
  rw [show ((100 : Nat) : Int) = 100 from rfl] at h2
  rw [show ((400 : Nat) : Int) = 400 from rfl] at h3
  rw [h1, h2, h3]
  generalize y % 4 = a
  generalize y % 100 = b
  generalize y % 400 = c
  rw [Bool.eq_iff_iff]
  simp
set_option maxHeartbeats 1000000 in
theorem dleap (y : Int) (w : World) : Calls Tryz.prog 288 #[.int .i64 y] w fun e w' => e = .returned (.bool (lp y)) ∧ w' = w := by
  go_enter Tryz.func288, Tryz.ntmps288
  go_wp2
  all_goals
    go_ret
    exact ⟨retB (by simp [lp, *]), rfl⟩
set_option maxHeartbeats 1000000 in
theorem rleap (y : Int) (w : World) : Calls Tryz.prog 289 #[.int .i64 y] w fun e w' => e = .returned (.bool (lp y)) ∧ w' = w := by
  have h4 : y.tmod 400 = 0 → y.tmod 100 = 0 ∧ y.tmod 4 = 0 := by
    intro h
    have := Int.dvd_of_tmod_eq_zero h
    exact ⟨Int.tmod_eq_zero_of_dvd (by omega), Int.tmod_eq_zero_of_dvd (by omega)⟩
  have H := hide h4
  clear h4
  go_enter Tryz.func289, Tryz.ntmps289
  go_wp2
  all_goals
    go_ret
    have h4 := unhide H
    refine ⟨retB ?_, rfl⟩
    unfold lp
    rw [Bool.eq_iff_iff]
    simp [*]
    try omega
/-- the months' days -/
def mdl : List Int := [31, 28, 31, 30, 31, 30, 31, 31, 30, 31, 30, 31]
/-- they lie in their variable -/
def Mon (w : World) : Prop := Lib.TabIs Tryz.prog w "daybook/day.monthDays" .i64 mdl
theorem mon_no : Tryz.prog.globalNamed "daybook/day.monthDays" = some 1 := by kernel_rfl
theorem Mon.cell {w : World} (h : Mon w) (i : Nat) (hi : i < 12) : w.cell? ⟨1, i, none⟩ = some (.int .i64 (mdl.getD i 0)) := Lib.TabIs.cell h mon_no i hi
theorem Mon.below {w w' : World} (h : Mon w) (hb : Below w.heap.size w w') : Mon w' := by
  unfold Mon Lib.TabIs World.var? at h ⊢
  rw [mon_no] at h ⊢
  simp only [Option.bind_some] at h ⊢
  have hlt : 1 < w.heap.size := by
    rcases Nat.lt_or_ge 1 w.heap.size with h' | h'
    · exact h'
    · rw [Array.getElem?_eq_none h'] at h; cases h
  rw [hb.block 1 hlt]
  exact h
set_option maxHeartbeats 2000000 in
theorem dof (y m : Nat) (w : World) (hM : Mon w) (h1 : 1 ≤ m) (h2 : m ≤ 12) : Calls Tryz.prog 253 #[.int .i64 y, .int .i64 m] w fun e w' => e = .returned (.int .i64 (dm y m)) ∧ w' = w := by
  have hm : m = 2 ∨ m = 1 ∨ m = 3 ∨ m = 4 ∨ m = 5 ∨ m = 6 ∨ m = 7 ∨ m = 8 ∨ m = 9 ∨ m = 10 ∨ m = 11 ∨ m = 12 := by omega
  clear h1 h2
  rcases hm with rfl | hm
  · have hc : w.cell? ⟨1, 1, none⟩ = some (.int .i64 28) := hM.cell 1 (by omega)
    have hl := dleap y w
    rw [lp_nat] at hl
    cases he : leap y
    · rw [he] at hl
      have hd : dm y 2 = 28 := by simp [dm, he]
      rw [hd]
      clear hd he hM
      go_enter Tryz.func253, Tryz.ntmps253
      go_wp2_with (go_at_call 288; refine hl.mono ?_; rintro e w' ⟨rfl, hw⟩; subst hw)
      go_ret
      exact ⟨rfl, rfl⟩
    · rw [he] at hl
      have hd : dm y 2 = 29 := by simp [dm, he]
      rw [hd]
      clear hd he hM
      go_enter Tryz.func253, Tryz.ntmps253
      go_wp2_with (go_at_call 288; refine hl.mono ?_; rintro e w' ⟨rfl, hw⟩; subst hw)
      go_ret
      exact ⟨rfl, rfl⟩
  · have hc1 : ∀ i : Nat, i < 12 → w.cell? ⟨1, i, none⟩ = some (.int .i64 (mdl.getD i 0)) := fun i hi => hM.cell i hi
    clear hM
    have HC := hide hc1
    clear hc1
    rcases hm with rfl | rfl | rfl | rfl | rfl | rfl | rfl | rfl | rfl | rfl | rfl
    · have hc : w.cell? ⟨1, 0, none⟩ = some (.int .i64 31) := unhide HC 0 (by omega)
      go_enter Tryz.func253, Tryz.ntmps253
      go_wp2
      go_ret
      exact ⟨rfl, rfl⟩
    · have hc : w.cell? ⟨1, 2, none⟩ = some (.int .i64 31) := unhide HC 2 (by omega)
      go_enter Tryz.func253, Tryz.ntmps253
      go_wp2
      go_ret
      exact ⟨rfl, rfl⟩
    · have hc : w.cell? ⟨1, 3, none⟩ = some (.int .i64 30) := unhide HC 3 (by omega)
      go_enter Tryz.func253, Tryz.ntmps253
      go_wp2
      go_ret
      exact ⟨rfl, rfl⟩
    · have hc : w.cell? ⟨1, 4, none⟩ = some (.int .i64 31) := unhide HC 4 (by omega)
      go_enter Tryz.func253, Tryz.ntmps253
      go_wp2
      go_ret
      exact ⟨rfl, rfl⟩
    · have hc : w.cell? ⟨1, 5, none⟩ = some (.int .i64 30) := unhide HC 5 (by omega)
      go_enter Tryz.func253, Tryz.ntmps253
      go_wp2
      go_ret
      exact ⟨rfl, rfl⟩
    · have hc : w.cell? ⟨1, 6, none⟩ = some (.int .i64 31) := unhide HC 6 (by omega)
      go_enter Tryz.func253, Tryz.ntmps253
      go_wp2
      go_ret
      exact ⟨rfl, rfl⟩
    · have hc : w.cell? ⟨1, 7, none⟩ = some (.int .i64 31) := unhide HC 7 (by omega)
      go_enter Tryz.func253, Tryz.ntmps253
      go_wp2
      go_ret
      exact ⟨rfl, rfl⟩
    · have hc : w.cell? ⟨1, 8, none⟩ = some (.int .i64 30) := unhide HC 8 (by omega)
      go_enter Tryz.func253, Tryz.ntmps253
      go_wp2
      go_ret
      exact ⟨rfl, rfl⟩
    · have hc : w.cell? ⟨1, 9, none⟩ = some (.int .i64 31) := unhide HC 9 (by omega)
      go_enter Tryz.func253, Tryz.ntmps253
      go_wp2
      go_ret
      exact ⟨rfl, rfl⟩
    · have hc : w.cell? ⟨1, 10, none⟩ = some (.int .i64 30) := unhide HC 10 (by omega)
      go_enter Tryz.func253, Tryz.ntmps253
      go_wp2
      go_ret
      exact ⟨rfl, rfl⟩
    · have hc : w.cell? ⟨1, 11, none⟩ = some (.int .i64 31) := unhide HC 11 (by omega)
      go_enter Tryz.func253, Tryz.ntmps253
      go_wp2
      go_ret
      exact ⟨rfl, rfl⟩
set_option maxHeartbeats 2000000 in
theorem rsize (y m : Nat) (w : World) (h1 : 1 ≤ m) (h2 : m ≤ 12) : Calls Tryz.prog 255 #[.int .i64 y, .int .i64 m] w fun e w' => e = .returned (.int .i64 (dm y m)) ∧ w' = w := by
  have hm : m = 2 ∨ m = 1 ∨ m = 3 ∨ m = 4 ∨ m = 5 ∨ m = 6 ∨ m = 7 ∨ m = 8 ∨ m = 9 ∨ m = 10 ∨ m = 11 ∨ m = 12 := by omega
  clear h1 h2
  rcases hm with rfl | hm
  · have hl := rleap y w
    rw [lp_nat] at hl
    cases he : leap y
    · rw [he] at hl
      have hd : dm y 2 = 28 := by simp [dm, he]
      rw [hd]
      clear hd he
      go_enter Tryz.func255, Tryz.ntmps255
      go_wp2_with (go_at_call 289; refine hl.mono ?_; rintro e w' ⟨rfl, hw⟩; subst hw)
      go_ret
      exact ⟨rfl, rfl⟩
    · rw [he] at hl
      have hd : dm y 2 = 29 := by simp [dm, he]
      rw [hd]
      clear hd he
      go_enter Tryz.func255, Tryz.ntmps255
      go_wp2_with (go_at_call 289; refine hl.mono ?_; rintro e w' ⟨rfl, hw⟩; subst hw)
      go_ret
      exact ⟨rfl, rfl⟩
  · rcases hm with rfl | rfl | rfl | rfl | rfl | rfl | rfl | rfl | rfl | rfl | rfl
    all_goals
      go_enter Tryz.func255, Tryz.ntmps255
      go_wp2
      go_ret
      exact ⟨rfl, rfl⟩
set_option maxHeartbeats 2000000 in
theorem rlong (y : Nat) (w : World) : Calls Tryz.prog 254 #[.int .i64 y] w fun e w' => e = .returned (.int .i64 (yl y)) ∧ w' = w := by
  have hl := rleap y w
  rw [lp_nat] at hl
  cases he : leap y
  · rw [he] at hl
    have hd : yl y = 365 := by simp [yl, he]
    rw [hd]
    clear hd he
    go_enter Tryz.func254, Tryz.ntmps254
    go_wp2_with (go_at_call 289; refine hl.mono ?_; rintro e w' ⟨rfl, hw⟩; subst hw)
    go_ret
    exact ⟨rfl, rfl⟩
  · rw [he] at hl
    have hd : yl y = 366 := by simp [yl, he]
    rw [hd]
    clear hd he
    go_enter Tryz.func254, Tryz.ntmps254
    go_wp2_with (go_at_call 289; refine hl.mono ?_; rintro e w' ⟨rfl, hw⟩; subst hw)
    go_ret
    exact ⟨rfl, rfl⟩
set_option maxHeartbeats 1000000 in
theorem isday_yes (n : Int) (w : World) (h1 : 1 ≤ n) (h2 : n ≤ 3652059) : Calls Tryz.prog 210 #[.int .i64 n] w fun e w' => e = .returned (.bool true) ∧ w' = w := by
  go_enter Tryz.func210, Tryz.ntmps210
  go_wp2
  go_ret
  exact ⟨by simp, rfl⟩
set_option maxHeartbeats 1000000 in
theorem isday_no (n : Int) (w : World) (h : n < 1 ∨ 3652059 < n) : Calls Tryz.prog 210 #[.int .i64 n] w fun e w' => e = .returned (.bool false) ∧ w' = w := by
  rcases h with h | h
  all_goals
    go_enter Tryz.func210, Tryz.ntmps210
    go_wp2
    go_ret
    exact ⟨by simp; try omega, rfl⟩
end Go.Proofs.YtcafhmlpmbkhkaaGreatDoor.Dy
namespace Go.Proofs.YtcafhmlpmbkhkaaGreatDoor.Dy
open Go.ChangeShapes Go.WideShapes Go.ChangeAt Go.RowKit
set_option linter.unusedVariables false
set_option linter.unusedSimpArgs false
theorem mon1 {w : World} (h : Mon w) (o1 : Obj) : Mon (w.alloc o1) := h.below ((Below.refl _ _).alloc (Nat.le_refl _) o1)
theorem mon2 {w : World} (h : Mon w) (o1 o2 : Obj) : Mon ((w.alloc o1).alloc o2) := mon1 (mon1 h o1) o2
theorem mon3 {w : World} (h : Mon w) (o1 o2 o3 : Obj) : Mon (((w.alloc o1).alloc o2).alloc o3) := mon1 (mon2 h o1 o2) o3
theorem md {w : World} (h : Mon w) : Mon w.drew := h
theorem retA {a b c a' b' c' : Int} (h1 : a = a') (h2 : b = b') (h3 : c = c') : Ending.returned (.agg #[.int .i64 a, .int .i64 b, .int .i64 c]) = .returned (.agg #[.int .i64 a', .int .i64 b', .int .i64 c']) := by rw [h1, h2, h3]
theorem bal {w W : World} (h : Below w.heap.size w W) (o : Obj) : Below w.heap.size w (W.alloc o) := h.alloc h.size o
theorem below2 (w : World) (o1 o2 : Obj) (k : Nat) : Below w.heap.size w (((w.alloc o1).alloc o2).drewN k) := by
  have h1 : Below w.heap.size w (w.alloc o1) := (Below.refl _ _).alloc (Nat.le_refl _) o1
  exact below_drewN (h1.alloc (by rw [World.size_alloc]; omega) o2) k
theorem ahead_int (y : Nat) (h : 1 ≤ y) : ((y : Int) - 1) * 365 + ((y : Int) - 1) / 4 - ((y : Int) - 1) / 100 + ((y : Int) - 1) / 400 = (ahead y : Int) := by
  obtain ⟨k, rfl⟩ : ∃ k, y = k + 1 := ⟨y - 1, by omega⟩
  unfold ahead
  have : k / 100 ≤ k / 4 := Nat.div_le_div_left (by decide) (by decide)
  have e : ((k + 1 : Nat) : Int) - 1 = (k : Int) := by omega
  rw [e, Nat.add_sub_cancel]
  omega
theorem ahead_hi (y : Nat) (h1 : 1 ≤ y) (h : y ≤ 9999) : ahead y ≤ 3652059 := by
  have h3 := ahead_le (y := y) (z := 10000) h1 (by omega)
  rw [ahead_end] at h3
  exact h3
theorem mb_hi (y m : Nat) (h1 : 1 ≤ m) (h : m ≤ 12) : mb y m ≤ 366 := by
  have h3 := mb_le y (m := m) (k := 13) h1 (by omega)
  rw [mb_end] at h3
  have := yl_cases y
  omega
/-- what the divisions of a day's number come to -/
theorem parts_int (y m d n : Nat) (h : Dat y m d n) : ∃ a b c e r : Nat, Cyc y a b c e ∧ r + 1 = mb y m + d ∧ r < yl y ∧
    ((n : Int) - 1) / 146097 = a ∧ ((n : Int) - 1) % 146097 = ((36524 * b + 1461 * c + 365 * e + r : Nat) : Int) ∧ b ≤ 3 ∧ c ≤ 24 ∧ e ≤ 3 ∧ a ≤ 24 := by
  obtain ⟨a, b, c, e, k⟩ := cyc_ex y h.y1
  have h1 := h.inYear
  have h2 := h.d1
  have hr : mb y m + d - 1 < yl y := by omega
  have h3 := k.parts hr
  have h4 := h.num
  have h5 := k.eq
  have h6 := h.y2
  refine ⟨a, b, c, e, mb y m + d - 1, k, by omega, hr, ?_, ?_, k.b3, k.c24, k.e3, by omega⟩
  · have := h3.1
    omega
  · have := h3.2.1
    omega
end Go.Proofs.YtcafhmlpmbkhkaaGreatDoor.Dy
