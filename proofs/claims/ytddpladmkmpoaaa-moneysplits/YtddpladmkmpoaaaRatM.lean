import Derived.Test.YtddpladmkmpoaaaDivA
import Derived.Test.YtddpladmkmpoaaaOnesB
import Derived.Laws.EntriesVeiled
namespace Go.Proofs.Ytddpladmkmpoaaa
open Go.ChangeShapes Go.WideShapes Go.ChangeAt Go.RowKit
set_option linter.unusedVariables false
attribute [local go_sem] setCell_drewN alloc_drewN

/-- is a rest r of d rounded away from 0, with the whole part q? -/
def awayB (h : Int) (neg : Bool) (q r d : Nat) : Bool :=
  if h = 1 then true else if h = 2 then neg else if h = 3 then !neg else if h = 4 then !decide (r + r < d) else if h = 5 then decide (d < r + r) || (!decide (r + r < d) && decide (q % 2 = 1)) else false
def stepB (h : Int) (neg : Bool) (q r d : Nat) : Bool := decide (r ≠ 0) && awayB h neg q r d

theorem ret_bb {a b : Bool} (h : a = b) : Ending.returned (.bool a) = .returned (.bool b) := by rw [h]
theorem div64_any (hi lo y quo rem : Nat) (w : World) (h1 : lo < 18446744073709551616) (h2 : y < 18446744073709551616) (h3 : hi < y) (hq : (hi * 18446744073709551616 + lo) / y = quo) (hr : (hi * 18446744073709551616 + lo) % y = rem) :
    Calls Try.prog 56 #[.int .u64 hi, .int .u64 lo, .int .u64 y] w fun e w' => e = .returned (.tuple #[.int .u64 quo, .int .u64 rem]) ∧ ∃ n, w' = w.drewN n := by
  by_cases h0 : hi = 0
  · subst h0
    rw [Nat.zero_mul, Nat.zero_add] at hq hr
    refine (div64_zero lo y w (by omega) (by omega)).mono fun e w' hh => ⟨?_, hh.2⟩
    rw [hh.1, ← hq, ← hr, Int.natCast_ediv, Int.natCast_emod]
  · refine (div64_pos hi lo y w h1 h2 (by omega) h3).mono fun e w' hh => ⟨?_, 0, hh.2⟩
    rw [hh.1, hq, hr]

set_option maxHeartbeats 1000000 in
theorem meth0 (q r d : Nat) (neg : Bool) (w : World) (hq : q ≤ 9223372036854775807) (hr : r < d) (hd : d ≤ 9223372036854775807) : Calls Try.prog 50 #[.agg #[.int .u64 q, .int .u64 r, .int .u64 d, .bool neg]] w fun e w' => e = .returned (.bool (stepB 0 neg q r d)) ∧ Below w.heap.size w w' := by
  go_enter Try.func50, Try.ntmps50
  go_wp2
  go_ret
  exact ⟨ret_bb (by simp [stepB, awayB]; try omega), bal (Below.refl _ _) _⟩

set_option maxHeartbeats 1000000 in
theorem meth1 (q r d : Nat) (neg : Bool) (w : World) (hq : q ≤ 9223372036854775807) (hr : r < d) (hd : d ≤ 9223372036854775807) : Calls Try.prog 51 #[.agg #[.int .u64 q, .int .u64 r, .int .u64 d, .bool neg]] w fun e w' => e = .returned (.bool (stepB 1 neg q r d)) ∧ Below w.heap.size w w' := by
  by_cases h0 : r = 0
  · subst h0
    cases neg
    all_goals
      go_enter Try.func51, Try.ntmps51
      go_wp2
      go_ret
      exact ⟨ret_bb (by simp [stepB, awayB]; try omega), bal (Below.refl _ _) _⟩
  · have hb : ((r : Int) != 0) = true := by rw [bne_iff_ne]; omega
    have H0 := hide h0
    clear h0
    cases neg
    all_goals
      have h0 := unhide H0
      clear H0
      have H0 := hide h0
      clear h0
      go_enter Try.func51, Try.ntmps51
      go_wp2
      go_ret
      exact ⟨ret_bb (by have := unhide H0; simp [stepB, awayB]; try omega), bal (Below.refl _ _) _⟩

set_option maxHeartbeats 1000000 in
theorem meth2 (q r d : Nat) (neg : Bool) (w : World) (hq : q ≤ 9223372036854775807) (hr : r < d) (hd : d ≤ 9223372036854775807) : Calls Try.prog 52 #[.agg #[.int .u64 q, .int .u64 r, .int .u64 d, .bool neg]] w fun e w' => e = .returned (.bool (stepB 2 neg q r d)) ∧ Below w.heap.size w w' := by
  by_cases h0 : r = 0
  · subst h0
    cases neg
    all_goals
      go_enter Try.func52, Try.ntmps52
      go_wp2
      go_ret
      exact ⟨ret_bb (by simp [stepB, awayB]; try omega), bal (Below.refl _ _) _⟩
  · have hb : ((r : Int) != 0) = true := by rw [bne_iff_ne]; omega
    have H0 := hide h0
    clear h0
    cases neg
    all_goals
      have h0 := unhide H0
      clear H0
      have H0 := hide h0
      clear h0
      go_enter Try.func52, Try.ntmps52
      go_wp2
      go_ret
      exact ⟨ret_bb (by have := unhide H0; simp [stepB, awayB]; try omega), bal (Below.refl _ _) _⟩

set_option maxHeartbeats 1000000 in
theorem meth3 (q r d : Nat) (neg : Bool) (w : World) (hq : q ≤ 9223372036854775807) (hr : r < d) (hd : d ≤ 9223372036854775807) : Calls Try.prog 53 #[.agg #[.int .u64 q, .int .u64 r, .int .u64 d, .bool neg]] w fun e w' => e = .returned (.bool (stepB 3 neg q r d)) ∧ Below w.heap.size w w' := by
  by_cases h0 : r = 0
  · subst h0
    cases neg
    all_goals
      go_enter Try.func53, Try.ntmps53
      go_wp2
      go_ret
      exact ⟨ret_bb (by simp [stepB, awayB]; try omega), bal (Below.refl _ _) _⟩
  · have hb : ((r : Int) != 0) = true := by rw [bne_iff_ne]; omega
    have H0 := hide h0
    clear h0
    cases neg
    all_goals
      have h0 := unhide H0
      clear H0
      have H0 := hide h0
      clear h0
      go_enter Try.func53, Try.ntmps53
      go_wp2
      go_ret
      exact ⟨ret_bb (by have := unhide H0; simp [stepB, awayB]; try omega), bal (Below.refl _ _) _⟩

set_option maxHeartbeats 1000000 in
theorem meth4 (q r d : Nat) (neg : Bool) (w : World) (hq : q ≤ 9223372036854775807) (hr : r < d) (hd : d ≤ 9223372036854775807) : Calls Try.prog 54 #[.agg #[.int .u64 q, .int .u64 r, .int .u64 d, .bool neg]] w fun e w' => e = .returned (.bool (stepB 4 neg q r d)) ∧ Below w.heap.size w w' := by
  have hri : (r : Int) < (d : Int) := by omega
  have hdi : (d : Int) ≤ 9223372036854775807 := by omega
  by_cases hc : (d : Int) - (r : Int) ≤ (r : Int)
  all_goals
    have H0 := hide hc
    go_enter Try.func54, Try.ntmps54
    go_wp2
    go_ret
    exact ⟨ret_bb (by have := unhide H0; simp [stepB, awayB]; try omega), bal (Below.refl _ _) _⟩

set_option maxHeartbeats 1000000 in
theorem meth5 (q r d : Nat) (neg : Bool) (w : World) (hq : q ≤ 9223372036854775807) (hr : r < d) (hd : d ≤ 9223372036854775807) : Calls Try.prog 55 #[.agg #[.int .u64 q, .int .u64 r, .int .u64 d, .bool neg]] w fun e w' => e = .returned (.bool (stepB 5 neg q r d)) ∧ Below w.heap.size w w' := by
  have hri : (r : Int) < (d : Int) := by omega
  have hdi : (d : Int) ≤ 9223372036854775807 := by omega
  have hqi : (q : Int) ≤ 9223372036854775807 := by omega
  rcases Int.lt_trichotomy (r : Int) ((d : Int) - (r : Int)) with hc | hc | hc
  · have he : ((r : Int) == (d : Int) - (r : Int)) = false := by rw [beq_eq_false_iff_ne]; omega
    go_enter Try.func55, Try.ntmps55
    go_wp2
    go_ret
    exact ⟨ret_bb (by have a1 : r + r < d := by omega
                      have a2 : ¬ d < r + r := by omega
                      simp [stepB, awayB, a1, a2]; omega), bal (Below.refl _ _) _⟩
  · have he : ((r : Int) == (d : Int) - (r : Int)) = true := by rw [beq_iff_eq]; exact hc
    have hn : ¬ (d : Int) - (r : Int) < (r : Int) := by omega
    have HC := hide hc
    clear hc
    by_cases ho : (q : Int) % 2 = 1
    · have ho' : ((q : Int) % 2 == 1) = true := by rw [beq_iff_eq]; exact ho
      have HO := hide ho
      clear ho
      go_enter Try.func55, Try.ntmps55
      go_wp2
      go_ret
      exact ⟨ret_bb (by have := unhide HC; have := unhide HO; simp [stepB, awayB]; omega), bal (Below.refl _ _) _⟩
    · have ho' : ((q : Int) % 2 == 1) = false := by rw [beq_eq_false_iff_ne]; exact ho
      have HO := hide ho
      clear ho
      go_enter Try.func55, Try.ntmps55
      go_wp2
      go_ret
      exact ⟨ret_bb (by have := unhide HC; have := unhide HO; simp [stepB, awayB]; omega), bal (Below.refl _ _) _⟩
  · go_enter Try.func55, Try.ntmps55
    go_wp2
    go_ret
    exact ⟨ret_bb (by simp [stepB, awayB]; omega), bal (Below.refl _ _) _⟩

set_option maxHeartbeats 1000000 in
theorem rnd0 (w : World) : Calls Try.prog 40 #[.int .i64 0] w fun e w' => e = .returned (.tuple #[.func (.func 50) #[] #[], .bool true]) ∧ Below w.heap.size w w' := by
  go_enter Try.func40, Try.ntmps40
  go_wp2
  go_ret2
  exact ⟨rfl, bal (Below.refl _ _) _⟩

set_option maxHeartbeats 1000000 in
theorem rnd1 (w : World) : Calls Try.prog 40 #[.int .i64 1] w fun e w' => e = .returned (.tuple #[.func (.func 51) #[] #[], .bool true]) ∧ Below w.heap.size w w' := by
  go_enter Try.func40, Try.ntmps40
  go_wp2
  go_ret2
  exact ⟨rfl, bal (Below.refl _ _) _⟩

set_option maxHeartbeats 1000000 in
theorem rnd2 (w : World) : Calls Try.prog 40 #[.int .i64 2] w fun e w' => e = .returned (.tuple #[.func (.func 52) #[] #[], .bool true]) ∧ Below w.heap.size w w' := by
  go_enter Try.func40, Try.ntmps40
  go_wp2
  go_ret2
  exact ⟨rfl, bal (Below.refl _ _) _⟩

set_option maxHeartbeats 1000000 in
theorem rnd3 (w : World) : Calls Try.prog 40 #[.int .i64 3] w fun e w' => e = .returned (.tuple #[.func (.func 53) #[] #[], .bool true]) ∧ Below w.heap.size w w' := by
  go_enter Try.func40, Try.ntmps40
  go_wp2
  go_ret2
  exact ⟨rfl, bal (Below.refl _ _) _⟩

set_option maxHeartbeats 1000000 in
theorem rnd4 (w : World) : Calls Try.prog 40 #[.int .i64 4] w fun e w' => e = .returned (.tuple #[.func (.func 54) #[] #[], .bool true]) ∧ Below w.heap.size w w' := by
  go_enter Try.func40, Try.ntmps40
  go_wp2
  go_ret2
  exact ⟨rfl, bal (Below.refl _ _) _⟩

set_option maxHeartbeats 1000000 in
theorem rnd5 (w : World) : Calls Try.prog 40 #[.int .i64 5] w fun e w' => e = .returned (.tuple #[.func (.func 55) #[] #[], .bool true]) ∧ Below w.heap.size w w' := by
  go_enter Try.func40, Try.ntmps40
  go_wp2
  go_ret2
  exact ⟨rfl, bal (Below.refl _ _) _⟩

set_option maxHeartbeats 1000000 in
theorem rndNo (h : Int) (w : World) (hb : -9223372036854775808 ≤ h ∧ h ≤ 9223372036854775807) (hc : h < 0 ∨ 6 ≤ h) : Calls Try.prog 40 #[.int .i64 h] w fun e w' => e = .returned (.tuple #[.nilFunc, .bool false]) ∧ Below w.heap.size w w' := by
  rcases hc with hc | hc
  all_goals
    go_enter Try.func40, Try.ntmps40
    go_wp2
    go_ret2
    exact ⟨rfl, bal (Below.refl _ _) _⟩

set_option maxHeartbeats 2000000 in
theorem divide_high (x y d hi lo : Nat) (w : World) (XA : Hid (x < 18446744073709551616)) (XB : Hid (y < 18446744073709551616)) (h1 : Hid (x * y / 18446744073709551616 = hi)) (h2 : Hid (x * y % 18446744073709551616 = lo)) (hc : (d : Int) ≤ (hi : Int)) :
    Calls Try.prog 41 #[.int .u64 x, .int .u64 y, .int .u64 d] w fun e w' => e = .returned (.tuple #[.agg #[.int .u64 0, .int .u64 0, .int .u64 0, .bool false], .int .i64 11]) ∧ Below w.heap.size w w' := by
  go_enter Try.func41, Try.ntmps41
  go_wp2_with (go_at_call 35; refine (mul64_any x y hi lo (unhide XA) (unhide XB) (unhide h1) (unhide h2) _).mono ?_; rintro e w' ⟨rfl, hw⟩; subst hw)
  exact bodyPost_ret (v := .tuple #[.agg #[.int .u64 0, .int .u64 0, .int .u64 0, .bool false], .int .i64 11]) (by simp [results, Try.results41, go_sem]) rfl ⟨rfl, bal (Below.refl _ _) _⟩
set_option maxHeartbeats 2000000 in
theorem divide_over (x y d hi lo q r : Nat) (w : World) (XA : Hid (x < 18446744073709551616)) (XB : Hid (y < 18446744073709551616)) (h1 : Hid (x * y / 18446744073709551616 = hi)) (h2 : Hid (x * y % 18446744073709551616 = lo)) (hc : (hi : Int) < (d : Int)) (hq : (9223372036854775807 : Int) < (q : Int))
    (hdv : Hid (∀ W, Calls Try.prog 56 #[.int .u64 hi, .int .u64 lo, .int .u64 d] W fun e w' => e = .returned (.tuple #[.int .u64 q, .int .u64 r]) ∧ ∃ n, w' = W.drewN n)) :
    Calls Try.prog 41 #[.int .u64 x, .int .u64 y, .int .u64 d] w fun e w' => e = .returned (.tuple #[.agg #[.int .u64 0, .int .u64 0, .int .u64 0, .bool false], .int .i64 11]) ∧ Below w.heap.size w w' := by
  go_enter Try.func41, Try.ntmps41
  go_wp2_with (first | (go_at_call 35; refine (mul64_any x y hi lo (unhide XA) (unhide XB) (unhide h1) (unhide h2) _).mono ?_; rintro e w' ⟨rfl, hw⟩; subst hw) | (go_at_call 56; refine ((unhide hdv) _).mono ?_; rintro e w' ⟨rfl, nn, hw⟩; subst hw))
  exact bodyPost_ret (v := .tuple #[.agg #[.int .u64 0, .int .u64 0, .int .u64 0, .bool false], .int .i64 11]) (by simp [results, Try.results41, go_sem]) rfl ⟨rfl, below_drewN (bal (Below.refl _ _) _) _⟩
set_option maxHeartbeats 2000000 in
theorem divide_ok (x y d hi lo q r : Nat) (w : World) (XA : Hid (x < 18446744073709551616)) (XB : Hid (y < 18446744073709551616)) (h1 : Hid (x * y / 18446744073709551616 = hi)) (h2 : Hid (x * y % 18446744073709551616 = lo)) (hc : (hi : Int) < (d : Int)) (hq : (q : Int) ≤ (9223372036854775807 : Int))
    (hdv : Hid (∀ W, Calls Try.prog 56 #[.int .u64 hi, .int .u64 lo, .int .u64 d] W fun e w' => e = .returned (.tuple #[.int .u64 q, .int .u64 r]) ∧ ∃ n, w' = W.drewN n)) :
    Calls Try.prog 41 #[.int .u64 x, .int .u64 y, .int .u64 d] w fun e w' => e = .returned (.tuple #[.agg #[.int .u64 q, .int .u64 r, .int .u64 d, .bool false], .int .i64 0]) ∧ Below w.heap.size w w' := by
  go_enter Try.func41, Try.ntmps41
  go_wp2_with (first | (go_at_call 35; refine (mul64_any x y hi lo (unhide XA) (unhide XB) (unhide h1) (unhide h2) _).mono ?_; rintro e w' ⟨rfl, hw⟩; subst hw) | (go_at_call 56; refine ((unhide hdv) _).mono ?_; rintro e w' ⟨rfl, nn, hw⟩; subst hw))
  exact bodyPost_ret (v := .tuple #[.agg #[.int .u64 q, .int .u64 r, .int .u64 d, .bool false], .int .i64 0]) (by simp [results, Try.results41, go_sem]) rfl ⟨rfl, below_drewN (bal (Below.refl _ _) _) _⟩
end Go.Proofs.Ytddpladmkmpoaaa
