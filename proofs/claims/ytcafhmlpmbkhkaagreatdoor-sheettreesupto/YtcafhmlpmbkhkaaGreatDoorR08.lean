import Derived.Test.YtcafhmlpmbkhkaaGreatDoorW07
import Derived.Test.YtcafhmlpmbkhkaaGreatDoorW22
import Derived.Test.YtcafhmlpmbkhkaaGreatDoorR07
import Derived.Laws.EntriesVeiled
namespace Go.Proofs.YtcafhmlpmbkhkaaGreatDoor.Mw
open Go.ChangeShapes Go.WideShapes Go.ChangeAt Go.RowKit
set_option linter.unusedVariables false
def two (a b : Int) : Nat → Int := fun i => if i = 0 then a else b
def isMin (a : Int) : Bool := a == -9223372036854775808
theorem isMin_yes {a : Int} (h : a = -9223372036854775808) : isMin a = true := by simp [isMin, h]
theorem isMin_no {a : Int} (h : ¬ a = -9223372036854775808) : isMin a = false := by simp [isMin, h]
open Go.ChangeShapes Go.WideShapes Go.ChangeAt Go.RowKit
set_option linter.unusedVariables false
set_option maxHeartbeats 1000000 in
theorem chk_yes (a : Int) (w : World) (h : -9223372036854775807 ≤ a) : Calls Tryz.prog 164 #[.int .i64 a] w fun e w' => e = .returned (.int .i64 0) ∧ w' = w := by
  have hb : (a == -9223372036854775808) = false := by rw [beq_eq_false_iff_ne]; omega
  clear h
  go_enter Tryz.func164, Tryz.ntmps164
  go_wp2
  go_ret
  exact ⟨rfl, rfl⟩
set_option maxHeartbeats 1000000 in
theorem chk_no (w : World) : Calls Tryz.prog 164 #[.int .i64 (-9223372036854775808)] w fun e w' => e = .returned (.int .i64 10) ∧ w' = w := by
  go_enter Tryz.func164, Tryz.ntmps164
  go_wp2
  go_ret
  exact ⟨rfl, rfl⟩
set_option maxHeartbeats 1000000 in
theorem both_yes (a b : Int) (w : World) (h : -9223372036854775807 ≤ a) (k : -9223372036854775807 ≤ b) : Calls Tryz.prog 234 #[.int .i64 a, .int .i64 b] w fun e w' => e = .returned (.int .i64 0) ∧ w' = w := by
  go_enter Tryz.func234, Tryz.ntmps234
  go_wp2_with (go_at_call 164; refine (chk_yes _ _ (by omega)).mono ?_; rintro e w' ⟨rfl, hw⟩; subst hw)
  go_ret
  exact ⟨rfl, rfl⟩
set_option maxHeartbeats 1000000 in
theorem both_no1 (b : Int) (w : World) : Calls Tryz.prog 234 #[.int .i64 (-9223372036854775808), .int .i64 b] w fun e w' => e = .returned (.int .i64 10) ∧ w' = w := by
  go_enter Tryz.func234, Tryz.ntmps234
  go_wp2_with (go_at_call 164; refine (chk_no _).mono ?_; rintro e w' ⟨rfl, hw⟩; subst hw)
  go_ret
  exact ⟨rfl, rfl⟩
set_option maxHeartbeats 1000000 in
theorem both_no2 (a : Int) (w : World) (h : -9223372036854775807 ≤ a) : Calls Tryz.prog 234 #[.int .i64 a, .int .i64 (-9223372036854775808)] w fun e w' => e = .returned (.int .i64 10) ∧ w' = w := by
  go_enter Tryz.func234, Tryz.ntmps234
  go_wp2_with fail
  refine (chk_yes _ _ (by omega)).mono ?_
  rintro e w' ⟨rfl, hw⟩
  subst hw
  go_wp2_with fail
  refine (chk_no _).mono ?_
  rintro e w' ⟨rfl, hw⟩
  subst hw
  go_wp2
  go_ret
  exact ⟨rfl, rfl⟩
theorem both_bad (a b : Int) (w : World) (ha : -9223372036854775808 ≤ a) (hb : -9223372036854775808 ≤ b) (h : isMin a = true ∨ isMin b = true) : Calls Tryz.prog 234 #[.int .i64 a, .int .i64 b] w fun e w' => e = .returned (.int .i64 10) ∧ w' = w := by
  by_cases h0 : a = -9223372036854775808
  · subst h0
    exact both_no1 b w
  · have h1 : b = -9223372036854775808 := by
      rcases h with h | h
      · rw [isMin_no h0] at h; cases h
      · simpa [isMin] using h
    subst h1
    exact both_no2 a w (by omega)
open Go.ChangeShapes Go.WideShapes Go.ChangeAt Go.RowKit
set_option linter.unusedVariables false
def opp (a b : Int) : Bool := decide (a < 0) != decide (b < 0)
theorem ret_b {a b : Bool} (h : a = b) : Ending.returned (.bool a) = .returned (.bool b) := by rw [h]
theorem ret_u {a b : Int} (h : a = b) : Ending.returned (.int .u64 a) = .returned (.int .u64 b) := by rw [h]
set_option maxHeartbeats 1000000 in
theorem opp_any (a b : Int) (w : World) : Calls Tryz.prog 236 #[.int .i64 a, .int .i64 b] w fun e w' => e = .returned (.bool (opp a b)) ∧ w' = w := by
  by_cases ha : a < 0 <;> by_cases hb : b < 0
  all_goals
    go_enter Tryz.func236, Tryz.ntmps236
    go_wp2
    go_ret
    exact ⟨ret_b (by simp [opp]; omega), rfl⟩
set_option maxHeartbeats 1000000 in
theorem size_any (a : Int) (w : World) (h : -9223372036854775807 ≤ a) (h' : a ≤ 9223372036854775807) : Calls Tryz.prog 198 #[.int .i64 a] w fun e w' => e = .returned (.int .u64 (a.natAbs : Int)) ∧ w' = w := by
  by_cases ha : a < 0
  · go_enter Tryz.func198, Tryz.ntmps198
    go_wp2
    go_ret
    exact ⟨ret_u (by omega), rfl⟩
  · go_enter Tryz.func198, Tryz.ntmps198
    go_wp2
    go_ret
    exact ⟨ret_u (by omega), rfl⟩
set_option maxHeartbeats 1000000 in
theorem signed_pos (n : Nat) (w : World) (h : n ≤ 9223372036854775807) : Calls Tryz.prog 237 #[.int .u64 n, .bool false] w fun e w' => e = .returned (.tuple #[.int .i64 n, .int .i64 0]) ∧ w' = w := by
  have hi : (n : Int) ≤ 9223372036854775807 := by omega
  go_enter Tryz.func237, Tryz.ntmps237
  go_wp2
  go_ret2
  exact ⟨rfl, rfl⟩
set_option maxHeartbeats 1000000 in
theorem signed_neg (n : Nat) (w : World) (h : n ≤ 9223372036854775807) : Calls Tryz.prog 237 #[.int .u64 n, .bool true] w fun e w' => e = .returned (.tuple #[.int .i64 (-(n : Int)), .int .i64 0]) ∧ w' = w := by
  have hi : (n : Int) ≤ 9223372036854775807 := by omega
  go_enter Tryz.func237, Tryz.ntmps237
  go_wp2
  go_ret2
  exact ⟨rfl, rfl⟩
theorem signed_fits (n : Nat) (s : Bool) (w : World) (h : n ≤ 9223372036854775807) : Calls Tryz.prog 237 #[.int .u64 n, .bool s] w fun e w' => e = .returned (.tuple #[.int .i64 (if s then -(n : Int) else n), .int .i64 0]) ∧ w' = w := by
  cases s
  · exact signed_pos n w h
  · exact signed_neg n w h
set_option maxHeartbeats 1000000 in
theorem signed_over (n : Nat) (s : Bool) (w : World) (h : 9223372036854775808 ≤ n) : Calls Tryz.prog 237 #[.int .u64 n, .bool s] w fun e w' => e = .returned (.tuple #[.int .i64 0, .int .i64 11]) ∧ w' = w := by
  have hi : (9223372036854775807 : Int) < (n : Int) := by omega
  clear h
  go_enter Tryz.func237, Tryz.ntmps237
  go_wp2
  go_ret2
  exact ⟨rfl, rfl⟩
theorem mul64_any (x y hi lo : Nat) (hx : x < 18446744073709551616) (hy : y < 18446744073709551616) (h1 : x * y / 18446744073709551616 = hi) (h2 : x * y % 18446744073709551616 = lo) (w : World) :
    Calls Tryz.prog 266 #[.int .u64 x, .int .u64 y] w fun e w' => e = .returned (.tuple #[.int .u64 hi, .int .u64 lo]) ∧ w' = w := by
  rw [← h1, ← h2]
  exact Tryz.bits_Mul64 x y hx hy w
theorem noMin {a : Int} (h : isMin a = false) : ¬ a = -9223372036854775808 := by intro e; rw [isMin_yes e] at h; cases h
theorem minCases (a b : Int) : (isMin a = true ∨ isMin b = true) ∨ (isMin a = false ∧ isMin b = false) := by
  cases isMin a <;> cases isMin b <;> simp
end Go.Proofs.YtcafhmlpmbkhkaaGreatDoor.Mw
namespace Go.Proofs.YtcafhmlpmbkhkaaGreatDoor.Mw
open Go.ChangeShapes Go.WideShapes Go.ChangeAt Go.RowKit
set_option linter.unusedVariables false
attribute [local go_sem] setCell_drewN alloc_drewN
def awayB (h : Int) (neg : Bool) (q r d : Nat) : Bool :=
  if h = 1 then true else if h = 2 then neg else if h = 3 then !neg else if h = 4 then !decide (r + r < d) else if h = 5 then decide (d < r + r) || (!decide (r + r < d) && decide (q % 2 = 1)) else false
def stepB (h : Int) (neg : Bool) (q r d : Nat) : Bool := decide (r ≠ 0) && awayB h neg q r d
theorem ret_bb {a b : Bool} (h : a = b) : Ending.returned (.bool a) = .returned (.bool b) := by rw [h]
theorem div64_any (hi lo y quo rem : Nat) (w : World) (h1 : lo < 18446744073709551616) (h2 : y < 18446744073709551616) (h3 : hi < y) (hq : (hi * 18446744073709551616 + lo) / y = quo) (hr : (hi * 18446744073709551616 + lo) % y = rem) :
    Calls Tryz.prog 278 #[.int .u64 hi, .int .u64 lo, .int .u64 y] w fun e w' => e = .returned (.tuple #[.int .u64 quo, .int .u64 rem]) ∧ ∃ n, w' = w.drewN n := by
  by_cases h0 : hi = 0
  · subst h0
    rw [Nat.zero_mul, Nat.zero_add] at hq hr
    refine (div64_zero lo y w (by omega) (by omega)).mono fun e w' hh => ⟨?_, hh.2⟩
    rw [hh.1, ← hq, ← hr, Int.natCast_ediv, Int.natCast_emod]
  · refine (div64_pos hi lo y w h1 h2 (by omega) h3).mono fun e w' hh => ⟨?_, 0, hh.2⟩
    rw [hh.1, hq, hr]
set_option maxHeartbeats 1000000 in
theorem meth0 (q r d : Nat) (neg : Bool) (w : World) (hq : q ≤ 9223372036854775807) (hr : r < d) (hd : d ≤ 9223372036854775807) : Calls Tryz.prog 272 #[.agg #[.int .u64 q, .int .u64 r, .int .u64 d, .bool neg]] w fun e w' => e = .returned (.bool (stepB 0 neg q r d)) ∧ Below w.heap.size w w' := by
  go_enter Tryz.func272, Tryz.ntmps272
  go_wp2
  go_ret
  exact ⟨ret_bb (by simp [stepB, awayB]; try omega), bal (Below.refl _ _) _⟩
set_option maxHeartbeats 1000000 in
theorem meth1 (q r d : Nat) (neg : Bool) (w : World) (hq : q ≤ 9223372036854775807) (hr : r < d) (hd : d ≤ 9223372036854775807) : Calls Tryz.prog 273 #[.agg #[.int .u64 q, .int .u64 r, .int .u64 d, .bool neg]] w fun e w' => e = .returned (.bool (stepB 1 neg q r d)) ∧ Below w.heap.size w w' := by
  by_cases h0 : r = 0
  · subst h0
    cases neg
    all_goals
      go_enter Tryz.func273, Tryz.ntmps273
      go_wp2
      go_ret
      exact ⟨ret_bb (by simp [stepB, awayB]; try omega), bal (Below.refl _ _) _⟩
  · have hb : ((r : Int) != 0) = true := by rw [bne_iff_ne]; omega
    have H0 := hide h0
    clear h0
    cases neg
    all_goals
      have h0 := unhide H0
      clear H0
      have H0 := hide h0
      clear h0
      go_enter Tryz.func273, Tryz.ntmps273
      go_wp2
      go_ret
      exact ⟨ret_bb (by have := unhide H0; simp [stepB, awayB]; try omega), bal (Below.refl _ _) _⟩
set_option maxHeartbeats 1000000 in
theorem meth2 (q r d : Nat) (neg : Bool) (w : World) (hq : q ≤ 9223372036854775807) (hr : r < d) (hd : d ≤ 9223372036854775807) : Calls Tryz.prog 274 #[.agg #[.int .u64 q, .int .u64 r, .int .u64 d, .bool neg]] w fun e w' => e = .returned (.bool (stepB 2 neg q r d)) ∧ Below w.heap.size w w' := by
  by_cases h0 : r = 0
  · subst h0
    cases neg
    all_goals
      go_enter Tryz.func274, Tryz.ntmps274
      go_wp2
      go_ret
      exact ⟨ret_bb (by simp [stepB, awayB]; try omega), bal (Below.refl _ _) _⟩
  · have hb : ((r : Int) != 0) = true := by rw [bne_iff_ne]; omega
    have H0 := hide h0
    clear h0
    cases neg
    all_goals
      have h0 := unhide H0
      clear H0
      have H0 := hide h0
      clear h0
      go_enter Tryz.func274, Tryz.ntmps274
      go_wp2
      go_ret
      exact ⟨ret_bb (by have := unhide H0; simp [stepB, awayB]; try omega), bal (Below.refl _ _) _⟩
set_option maxHeartbeats 1000000 in
theorem meth3 (q r d : Nat) (neg : Bool) (w : World) (hq : q ≤ 9223372036854775807) (hr : r < d) (hd : d ≤ 9223372036854775807) : Calls Tryz.prog 275 #[.agg #[.int .u64 q, .int .u64 r, .int .u64 d, .bool neg]] w fun e w' => e = .returned (.bool (stepB 3 neg q r d)) ∧ Below w.heap.size w w' := by
  by_cases h0 : r = 0
  · subst h0
    cases neg
    all_goals
      go_enter Tryz.func275, Tryz.ntmps275
      go_wp2
      go_ret
      exact ⟨ret_bb (by simp [stepB, awayB]; try omega), bal (Below.refl _ _) _⟩
  · have hb : ((r : Int) != 0) = true := by rw [bne_iff_ne]; omega
    have H0 := hide h0
    clear h0
    cases neg
    all_goals
      have h0 := unhide H0
      clear H0
      have H0 := hide h0
      clear h0
      go_enter Tryz.func275, Tryz.ntmps275
      go_wp2
      go_ret
      exact ⟨ret_bb (by have := unhide H0; simp [stepB, awayB]; try omega), bal (Below.refl _ _) _⟩
set_option maxHeartbeats 1000000 in
theorem meth4 (q r d : Nat) (neg : Bool) (w : World) (hq : q ≤ 9223372036854775807) (hr : r < d) (hd : d ≤ 9223372036854775807) : Calls Tryz.prog 276 #[.agg #[.int .u64 q, .int .u64 r, .int .u64 d, .bool neg]] w fun e w' => e = .returned (.bool (stepB 4 neg q r d)) ∧ Below w.heap.size w w' := by
  have hri : (r : Int) < (d : Int) := by omega
  have hdi : (d : Int) ≤ 9223372036854775807 := by omega
  by_cases hc : (d : Int) - (r : Int) ≤ (r : Int)
  all_goals
    have H0 := hide hc
    go_enter Tryz.func276, Tryz.ntmps276
    go_wp2
    go_ret
    exact ⟨ret_bb (by have := unhide H0; simp [stepB, awayB]; try omega), bal (Below.refl _ _) _⟩
set_option maxHeartbeats 1000000 in
theorem meth5 (q r d : Nat) (neg : Bool) (w : World) (hq : q ≤ 9223372036854775807) (hr : r < d) (hd : d ≤ 9223372036854775807) : Calls Tryz.prog 277 #[.agg #[.int .u64 q, .int .u64 r, .int .u64 d, .bool neg]] w fun e w' => e = .returned (.bool (stepB 5 neg q r d)) ∧ Below w.heap.size w w' := by
  have hri : (r : Int) < (d : Int) := by omega
  have hdi : (d : Int) ≤ 9223372036854775807 := by omega
  have hqi : (q : Int) ≤ 9223372036854775807 := by omega
  rcases Int.lt_trichotomy (r : Int) ((d : Int) - (r : Int)) with hc | hc | hc
  · have he : ((r : Int) == (d : Int) - (r : Int)) = false := by rw [beq_eq_false_iff_ne]; omega
    go_enter Tryz.func277, Tryz.ntmps277
    go_wp2
    go_ret
    exact ⟨ret_bb (by have a1 : r + r < d := by omega
                      have a2 : ¬ d < r + r := by omega
                      simp [stepB, awayB, a1, a2]; omega), bal (Below.refl _ _) _⟩
  · have he : ((r : Int) == (d : Int) - (r : Int)) = true := by rw [beq_iff_eq]; exact hc
    have hn : ¬ (d : Int) - (r : Int) < (r : Int) := by omega
    have HC := hide hc
    clear hc
    by_cases ho : (q : Int) % 2 = 1
    · have ho' : ((q : Int) % 2 == 1) = true := by rw [beq_iff_eq]; exact ho
      have HO := hide ho
      clear ho
      go_enter Tryz.func277, Tryz.ntmps277
      go_wp2
      go_ret
      exact ⟨ret_bb (by have := unhide HC; have := unhide HO; simp [stepB, awayB]; omega), bal (Below.refl _ _) _⟩
    · have ho' : ((q : Int) % 2 == 1) = false := by rw [beq_eq_false_iff_ne]; exact ho
      have HO := hide ho
      clear ho
      go_enter Tryz.func277, Tryz.ntmps277
      go_wp2
      go_ret
      exact ⟨ret_bb (by have := unhide HC; have := unhide HO; simp [stepB, awayB]; omega), bal (Below.refl _ _) _⟩
  · go_enter Tryz.func277, Tryz.ntmps277
    go_wp2
    go_ret
    exact ⟨ret_bb (by simp [stepB, awayB]; omega), bal (Below.refl _ _) _⟩
set_option maxHeartbeats 1000000 in
theorem rnd0 (w : World) : Calls Tryz.prog 233 #[.int .i64 0] w fun e w' => e = .returned (.tuple #[.func (.func 272) #[] #[], .bool true]) ∧ Below w.heap.size w w' := by
  go_enter Tryz.func233, Tryz.ntmps233
  go_wp2
  go_ret2
  exact ⟨rfl, bal (Below.refl _ _) _⟩
set_option maxHeartbeats 1000000 in
theorem rnd1 (w : World) : Calls Tryz.prog 233 #[.int .i64 1] w fun e w' => e = .returned (.tuple #[.func (.func 273) #[] #[], .bool true]) ∧ Below w.heap.size w w' := by
  go_enter Tryz.func233, Tryz.ntmps233
  go_wp2
  go_ret2
  exact ⟨rfl, bal (Below.refl _ _) _⟩
set_option maxHeartbeats 1000000 in
theorem rnd2 (w : World) : Calls Tryz.prog 233 #[.int .i64 2] w fun e w' => e = .returned (.tuple #[.func (.func 274) #[] #[], .bool true]) ∧ Below w.heap.size w w' := by
  go_enter Tryz.func233, Tryz.ntmps233
  go_wp2
  go_ret2
  exact ⟨rfl, bal (Below.refl _ _) _⟩
set_option maxHeartbeats 1000000 in
theorem rnd3 (w : World) : Calls Tryz.prog 233 #[.int .i64 3] w fun e w' => e = .returned (.tuple #[.func (.func 275) #[] #[], .bool true]) ∧ Below w.heap.size w w' := by
  go_enter Tryz.func233, Tryz.ntmps233
  go_wp2
  go_ret2
  exact ⟨rfl, bal (Below.refl _ _) _⟩
set_option maxHeartbeats 1000000 in
theorem rnd4 (w : World) : Calls Tryz.prog 233 #[.int .i64 4] w fun e w' => e = .returned (.tuple #[.func (.func 276) #[] #[], .bool true]) ∧ Below w.heap.size w w' := by
  go_enter Tryz.func233, Tryz.ntmps233
  go_wp2
  go_ret2
  exact ⟨rfl, bal (Below.refl _ _) _⟩
set_option maxHeartbeats 1000000 in
theorem rnd5 (w : World) : Calls Tryz.prog 233 #[.int .i64 5] w fun e w' => e = .returned (.tuple #[.func (.func 277) #[] #[], .bool true]) ∧ Below w.heap.size w w' := by
  go_enter Tryz.func233, Tryz.ntmps233
  go_wp2
  go_ret2
  exact ⟨rfl, bal (Below.refl _ _) _⟩
set_option maxHeartbeats 1000000 in
theorem rndNo (h : Int) (w : World) (hb : -9223372036854775808 ≤ h ∧ h ≤ 9223372036854775807) (hc : h < 0 ∨ 6 ≤ h) : Calls Tryz.prog 233 #[.int .i64 h] w fun e w' => e = .returned (.tuple #[.nilFunc, .bool false]) ∧ Below w.heap.size w w' := by
  rcases hc with hc | hc
  all_goals
    go_enter Tryz.func233, Tryz.ntmps233
    go_wp2
    go_ret2
    exact ⟨rfl, bal (Below.refl _ _) _⟩
set_option maxHeartbeats 2000000 in
theorem divide_high (x y d hi lo : Nat) (w : World) (XA : Hid (x < 18446744073709551616)) (XB : Hid (y < 18446744073709551616)) (h1 : Hid (x * y / 18446744073709551616 = hi)) (h2 : Hid (x * y % 18446744073709551616 = lo)) (hc : (d : Int) ≤ (hi : Int)) :
    Calls Tryz.prog 235 #[.int .u64 x, .int .u64 y, .int .u64 d] w fun e w' => e = .returned (.tuple #[.agg #[.int .u64 0, .int .u64 0, .int .u64 0, .bool false], .int .i64 11]) ∧ Below w.heap.size w w' := by
  go_enter Tryz.func235, Tryz.ntmps235
  go_wp2_with (go_at_call 266; refine (mul64_any x y hi lo (unhide XA) (unhide XB) (unhide h1) (unhide h2) _).mono ?_; rintro e w' ⟨rfl, hw⟩; subst hw)
  exact bodyPost_ret (v := .tuple #[.agg #[.int .u64 0, .int .u64 0, .int .u64 0, .bool false], .int .i64 11]) (by simp [results, Tryz.results235, go_sem]) rfl ⟨rfl, bal (Below.refl _ _) _⟩
set_option maxHeartbeats 2000000 in
theorem divide_over (x y d hi lo q r : Nat) (w : World) (XA : Hid (x < 18446744073709551616)) (XB : Hid (y < 18446744073709551616)) (h1 : Hid (x * y / 18446744073709551616 = hi)) (h2 : Hid (x * y % 18446744073709551616 = lo)) (hc : (hi : Int) < (d : Int)) (hq : (9223372036854775807 : Int) < (q : Int))
    (hdv : Hid (∀ W, Calls Tryz.prog 278 #[.int .u64 hi, .int .u64 lo, .int .u64 d] W fun e w' => e = .returned (.tuple #[.int .u64 q, .int .u64 r]) ∧ ∃ n, w' = W.drewN n)) :
    Calls Tryz.prog 235 #[.int .u64 x, .int .u64 y, .int .u64 d] w fun e w' => e = .returned (.tuple #[.agg #[.int .u64 0, .int .u64 0, .int .u64 0, .bool false], .int .i64 11]) ∧ Below w.heap.size w w' := by
  go_enter Tryz.func235, Tryz.ntmps235
  go_wp2_with (first | (go_at_call 266; refine (mul64_any x y hi lo (unhide XA) (unhide XB) (unhide h1) (unhide h2) _).mono ?_; rintro e w' ⟨rfl, hw⟩; subst hw) | (go_at_call 278; refine ((unhide hdv) _).mono ?_; rintro e w' ⟨rfl, nn, hw⟩; subst hw))
  exact bodyPost_ret (v := .tuple #[.agg #[.int .u64 0, .int .u64 0, .int .u64 0, .bool false], .int .i64 11]) (by simp [results, Tryz.results235, go_sem]) rfl ⟨rfl, below_drewN (bal (Below.refl _ _) _) _⟩
set_option maxHeartbeats 2000000 in
theorem divide_ok (x y d hi lo q r : Nat) (w : World) (XA : Hid (x < 18446744073709551616)) (XB : Hid (y < 18446744073709551616)) (h1 : Hid (x * y / 18446744073709551616 = hi)) (h2 : Hid (x * y % 18446744073709551616 = lo)) (hc : (hi : Int) < (d : Int)) (hq : (q : Int) ≤ (9223372036854775807 : Int))
    (hdv : Hid (∀ W, Calls Tryz.prog 278 #[.int .u64 hi, .int .u64 lo, .int .u64 d] W fun e w' => e = .returned (.tuple #[.int .u64 q, .int .u64 r]) ∧ ∃ n, w' = W.drewN n)) :
    Calls Tryz.prog 235 #[.int .u64 x, .int .u64 y, .int .u64 d] w fun e w' => e = .returned (.tuple #[.agg #[.int .u64 q, .int .u64 r, .int .u64 d, .bool false], .int .i64 0]) ∧ Below w.heap.size w w' := by
  go_enter Tryz.func235, Tryz.ntmps235
  go_wp2_with (first | (go_at_call 266; refine (mul64_any x y hi lo (unhide XA) (unhide XB) (unhide h1) (unhide h2) _).mono ?_; rintro e w' ⟨rfl, hw⟩; subst hw) | (go_at_call 278; refine ((unhide hdv) _).mono ?_; rintro e w' ⟨rfl, nn, hw⟩; subst hw))
  exact bodyPost_ret (v := .tuple #[.agg #[.int .u64 q, .int .u64 r, .int .u64 d, .bool false], .int .i64 0]) (by simp [results, Tryz.results235, go_sem]) rfl ⟨rfl, below_drewN (bal (Below.refl _ _) _) _⟩
end Go.Proofs.YtcafhmlpmbkhkaaGreatDoor.Mw
namespace Go.Proofs.YtcafhmlpmbkhkaaGreatDoor.Mw
open Go.ChangeShapes Go.WideShapes Go.ChangeAt Go.RowKit
set_option linter.unusedVariables false
attribute [local go_sem] setCell_drewN alloc_drewN
set_option maxHeartbeats 2000000 in
theorem mratio0_t (a n d : Int) (q r D : Nat) (o : Bool) (v c : Int) (w : World) (ha : -9223372036854775807 ≤ a) (hn : -9223372036854775807 ≤ n) (ha' : a ≤ 9223372036854775807) (hn' : n ≤ 9223372036854775807) (hd : 1 ≤ d) (hd' : d ≤ 9223372036854775807) (hD : Hid (d = (D : Int))) (hq : q ≤ 9223372036854775807) (hr : r < D) (hD2 : D ≤ 9223372036854775807) (ho : Hid (opp a n = o)) (hst : Hid (stepB 0 o q r D = true))
    (hdv : Hid (∀ W, Calls Tryz.prog 235 #[.int .u64 (a.natAbs : Int), .int .u64 (n.natAbs : Int), .int .u64 d] W fun e w' => e = .returned (.tuple #[.agg #[.int .u64 q, .int .u64 r, .int .u64 D, .bool false], .int .i64 0]) ∧ Below W.heap.size W w'))
    (hsg : Hid (∀ W, Calls Tryz.prog 237 #[.int .u64 ((q + 1 : Nat) : Int), .bool o] W fun e w' => e = .returned (.tuple #[.int .i64 v, .int .i64 c]) ∧ w' = W)) :
    Calls Tryz.prog 190 #[.int .i64 a, .int .i64 n, .int .i64 d, .int .i64 0] w fun e w' => e = .returned (.tuple #[.int .i64 v, .int .i64 c]) ∧ Below w.heap.size w w' := by
  have hqi : (q : Int) ≤ 9223372036854775807 := by omega
  go_enter Tryz.func190, Tryz.ntmps190
  go_wp2_with fail
  refine (rnd0 _).mono ?_
  rintro e w1 ⟨rfl, hb1⟩
  go_wp2_with fail
  refine (both_yes _ _ _ (by omega) (by omega)).mono ?_
  rintro e w' ⟨rfl, hw⟩
  subst hw
  go_wp2_with fail
  refine (size_any _ _ (by omega) (by omega)).mono ?_
  rintro e w' ⟨rfl, hw⟩
  subst hw
  go_wp2_with fail
  refine (size_any _ _ (by omega) (by omega)).mono ?_
  rintro e w' ⟨rfl, hw⟩
  subst hw
  go_wp2_with fail
  refine ((unhide hdv) _).mono ?_
  rintro e w2 ⟨rfl, hb2⟩
  have C2 := hide (hb1.trans (hb2.mono hb1.size))
  clear hb1 hb2
  go_wp2_with fail
  refine (opp_any _ _ _).mono ?_
  rintro e w' ⟨rfl, hw⟩
  subst hw
  rw [unhide ho]
  go_wp2_with fail
  refine (meth0 q r D o _ hq hr hD2).mono ?_
  rintro e w3 ⟨rfl, hb3⟩
  rw [unhide hst]
  have c3 := bal (unhide C2) (.cells #[.int .u64 q, .int .u64 r, .int .u64 D, .bool o] 289)
  have C3 := hide (c3.trans (hb3.mono c3.size))
  have k0 : w3.cell? ⟨w2.heap.size, 0, none⟩ = some (.int .u64 q) := keep1 hb3 (by simp) (by simp)
  have k3 : w3.cell? ⟨w2.heap.size, 3, none⟩ = some (.bool o) := keep1 hb3 (by simp) (by simp)
  have z0 : w3.frozen? ⟨w2.heap.size, 0, none⟩ = false := keepF hb3 (by simp) (by simp)
  have sz := (unhide C2).size
  clear hb3 c3
  go_wp2_with (go_at_call 237; refine ((unhide hsg) _).mono ?_; rintro e w4 ⟨rfl, hw⟩; subst hw)
  go_ret2
  exact ⟨rfl, (unhide C3).setCell sz _⟩
set_option maxHeartbeats 2000000 in
theorem mratio0_f (a n d : Int) (q r D : Nat) (o : Bool) (v c : Int) (w : World) (ha : -9223372036854775807 ≤ a) (hn : -9223372036854775807 ≤ n) (ha' : a ≤ 9223372036854775807) (hn' : n ≤ 9223372036854775807) (hd : 1 ≤ d) (hd' : d ≤ 9223372036854775807) (hD : Hid (d = (D : Int))) (hq : q ≤ 9223372036854775807) (hr : r < D) (hD2 : D ≤ 9223372036854775807) (ho : Hid (opp a n = o)) (hst : Hid (stepB 0 o q r D = false))
    (hdv : Hid (∀ W, Calls Tryz.prog 235 #[.int .u64 (a.natAbs : Int), .int .u64 (n.natAbs : Int), .int .u64 d] W fun e w' => e = .returned (.tuple #[.agg #[.int .u64 q, .int .u64 r, .int .u64 D, .bool false], .int .i64 0]) ∧ Below W.heap.size W w'))
    (hsg : Hid (∀ W, Calls Tryz.prog 237 #[.int .u64 ((q : Nat) : Int), .bool o] W fun e w' => e = .returned (.tuple #[.int .i64 v, .int .i64 c]) ∧ w' = W)) :
    Calls Tryz.prog 190 #[.int .i64 a, .int .i64 n, .int .i64 d, .int .i64 0] w fun e w' => e = .returned (.tuple #[.int .i64 v, .int .i64 c]) ∧ Below w.heap.size w w' := by
  have hqi : (q : Int) ≤ 9223372036854775807 := by omega
  go_enter Tryz.func190, Tryz.ntmps190
  go_wp2_with fail
  refine (rnd0 _).mono ?_
  rintro e w1 ⟨rfl, hb1⟩
  go_wp2_with fail
  refine (both_yes _ _ _ (by omega) (by omega)).mono ?_
  rintro e w' ⟨rfl, hw⟩
  subst hw
  go_wp2_with fail
  refine (size_any _ _ (by omega) (by omega)).mono ?_
  rintro e w' ⟨rfl, hw⟩
  subst hw
  go_wp2_with fail
  refine (size_any _ _ (by omega) (by omega)).mono ?_
  rintro e w' ⟨rfl, hw⟩
  subst hw
  go_wp2_with fail
  refine ((unhide hdv) _).mono ?_
  rintro e w2 ⟨rfl, hb2⟩
  have C2 := hide (hb1.trans (hb2.mono hb1.size))
  clear hb1 hb2
  go_wp2_with fail
  refine (opp_any _ _ _).mono ?_
  rintro e w' ⟨rfl, hw⟩
  subst hw
  rw [unhide ho]
  go_wp2_with fail
  refine (meth0 q r D o _ hq hr hD2).mono ?_
  rintro e w3 ⟨rfl, hb3⟩
  rw [unhide hst]
  have c3 := bal (unhide C2) (.cells #[.int .u64 q, .int .u64 r, .int .u64 D, .bool o] 289)
  have C3 := hide (c3.trans (hb3.mono c3.size))
  have k0 : w3.cell? ⟨w2.heap.size, 0, none⟩ = some (.int .u64 q) := keep1 hb3 (by simp) (by simp)
  have k3 : w3.cell? ⟨w2.heap.size, 3, none⟩ = some (.bool o) := keep1 hb3 (by simp) (by simp)
  have z0 : w3.frozen? ⟨w2.heap.size, 0, none⟩ = false := keepF hb3 (by simp) (by simp)
  have sz := (unhide C2).size
  clear hb3 c3
  go_wp2_with (go_at_call 237; refine ((unhide hsg) _).mono ?_; rintro e w4 ⟨rfl, hw⟩; subst hw)
  go_ret2
  exact ⟨rfl, (unhide C3)⟩
set_option maxHeartbeats 2000000 in
theorem mratio1_t (a n d : Int) (q r D : Nat) (o : Bool) (v c : Int) (w : World) (ha : -9223372036854775807 ≤ a) (hn : -9223372036854775807 ≤ n) (ha' : a ≤ 9223372036854775807) (hn' : n ≤ 9223372036854775807) (hd : 1 ≤ d) (hd' : d ≤ 9223372036854775807) (hD : Hid (d = (D : Int))) (hq : q ≤ 9223372036854775807) (hr : r < D) (hD2 : D ≤ 9223372036854775807) (ho : Hid (opp a n = o)) (hst : Hid (stepB 1 o q r D = true))
    (hdv : Hid (∀ W, Calls Tryz.prog 235 #[.int .u64 (a.natAbs : Int), .int .u64 (n.natAbs : Int), .int .u64 d] W fun e w' => e = .returned (.tuple #[.agg #[.int .u64 q, .int .u64 r, .int .u64 D, .bool false], .int .i64 0]) ∧ Below W.heap.size W w'))
    (hsg : Hid (∀ W, Calls Tryz.prog 237 #[.int .u64 ((q + 1 : Nat) : Int), .bool o] W fun e w' => e = .returned (.tuple #[.int .i64 v, .int .i64 c]) ∧ w' = W)) :
    Calls Tryz.prog 190 #[.int .i64 a, .int .i64 n, .int .i64 d, .int .i64 1] w fun e w' => e = .returned (.tuple #[.int .i64 v, .int .i64 c]) ∧ Below w.heap.size w w' := by
  have hqi : (q : Int) ≤ 9223372036854775807 := by omega
  go_enter Tryz.func190, Tryz.ntmps190
  go_wp2_with fail
  refine (rnd1 _).mono ?_
  rintro e w1 ⟨rfl, hb1⟩
  go_wp2_with fail
  refine (both_yes _ _ _ (by omega) (by omega)).mono ?_
  rintro e w' ⟨rfl, hw⟩
  subst hw
  go_wp2_with fail
  refine (size_any _ _ (by omega) (by omega)).mono ?_
  rintro e w' ⟨rfl, hw⟩
  subst hw
  go_wp2_with fail
  refine (size_any _ _ (by omega) (by omega)).mono ?_
  rintro e w' ⟨rfl, hw⟩
  subst hw
  go_wp2_with fail
  refine ((unhide hdv) _).mono ?_
  rintro e w2 ⟨rfl, hb2⟩
  have C2 := hide (hb1.trans (hb2.mono hb1.size))
  clear hb1 hb2
  go_wp2_with fail
  refine (opp_any _ _ _).mono ?_
  rintro e w' ⟨rfl, hw⟩
  subst hw
  rw [unhide ho]
  go_wp2_with fail
  refine (meth1 q r D o _ hq hr hD2).mono ?_
  rintro e w3 ⟨rfl, hb3⟩
  rw [unhide hst]
  have c3 := bal (unhide C2) (.cells #[.int .u64 q, .int .u64 r, .int .u64 D, .bool o] 289)
  have C3 := hide (c3.trans (hb3.mono c3.size))
  have k0 : w3.cell? ⟨w2.heap.size, 0, none⟩ = some (.int .u64 q) := keep1 hb3 (by simp) (by simp)
  have k3 : w3.cell? ⟨w2.heap.size, 3, none⟩ = some (.bool o) := keep1 hb3 (by simp) (by simp)
  have z0 : w3.frozen? ⟨w2.heap.size, 0, none⟩ = false := keepF hb3 (by simp) (by simp)
  have sz := (unhide C2).size
  clear hb3 c3
  go_wp2_with (go_at_call 237; refine ((unhide hsg) _).mono ?_; rintro e w4 ⟨rfl, hw⟩; subst hw)
  go_ret2
  exact ⟨rfl, (unhide C3).setCell sz _⟩
set_option maxHeartbeats 2000000 in
theorem mratio1_f (a n d : Int) (q r D : Nat) (o : Bool) (v c : Int) (w : World) (ha : -9223372036854775807 ≤ a) (hn : -9223372036854775807 ≤ n) (ha' : a ≤ 9223372036854775807) (hn' : n ≤ 9223372036854775807) (hd : 1 ≤ d) (hd' : d ≤ 9223372036854775807) (hD : Hid (d = (D : Int))) (hq : q ≤ 9223372036854775807) (hr : r < D) (hD2 : D ≤ 9223372036854775807) (ho : Hid (opp a n = o)) (hst : Hid (stepB 1 o q r D = false))
    (hdv : Hid (∀ W, Calls Tryz.prog 235 #[.int .u64 (a.natAbs : Int), .int .u64 (n.natAbs : Int), .int .u64 d] W fun e w' => e = .returned (.tuple #[.agg #[.int .u64 q, .int .u64 r, .int .u64 D, .bool false], .int .i64 0]) ∧ Below W.heap.size W w'))
    (hsg : Hid (∀ W, Calls Tryz.prog 237 #[.int .u64 ((q : Nat) : Int), .bool o] W fun e w' => e = .returned (.tuple #[.int .i64 v, .int .i64 c]) ∧ w' = W)) :
    Calls Tryz.prog 190 #[.int .i64 a, .int .i64 n, .int .i64 d, .int .i64 1] w fun e w' => e = .returned (.tuple #[.int .i64 v, .int .i64 c]) ∧ Below w.heap.size w w' := by
  have hqi : (q : Int) ≤ 9223372036854775807 := by omega
  go_enter Tryz.func190, Tryz.ntmps190
  go_wp2_with fail
  refine (rnd1 _).mono ?_
  rintro e w1 ⟨rfl, hb1⟩
  go_wp2_with fail
  refine (both_yes _ _ _ (by omega) (by omega)).mono ?_
  rintro e w' ⟨rfl, hw⟩
  subst hw
  go_wp2_with fail
  refine (size_any _ _ (by omega) (by omega)).mono ?_
  rintro e w' ⟨rfl, hw⟩
  subst hw
  go_wp2_with fail
  refine (size_any _ _ (by omega) (by omega)).mono ?_
  rintro e w' ⟨rfl, hw⟩
  subst hw
  go_wp2_with fail
  refine ((unhide hdv) _).mono ?_
  rintro e w2 ⟨rfl, hb2⟩
  have C2 := hide (hb1.trans (hb2.mono hb1.size))
  clear hb1 hb2
  go_wp2_with fail
  refine (opp_any _ _ _).mono ?_
  rintro e w' ⟨rfl, hw⟩
  subst hw
  rw [unhide ho]
  go_wp2_with fail
  refine (meth1 q r D o _ hq hr hD2).mono ?_
  rintro e w3 ⟨rfl, hb3⟩
  rw [unhide hst]
  have c3 := bal (unhide C2) (.cells #[.int .u64 q, .int .u64 r, .int .u64 D, .bool o] 289)
  have C3 := hide (c3.trans (hb3.mono c3.size))
  have k0 : w3.cell? ⟨w2.heap.size, 0, none⟩ = some (.int .u64 q) := keep1 hb3 (by simp) (by simp)
  have k3 : w3.cell? ⟨w2.heap.size, 3, none⟩ = some (.bool o) := keep1 hb3 (by simp) (by simp)
  have z0 : w3.frozen? ⟨w2.heap.size, 0, none⟩ = false := keepF hb3 (by simp) (by simp)
  have sz := (unhide C2).size
  clear hb3 c3
  go_wp2_with (go_at_call 237; refine ((unhide hsg) _).mono ?_; rintro e w4 ⟨rfl, hw⟩; subst hw)
  go_ret2
  exact ⟨rfl, (unhide C3)⟩
set_option maxHeartbeats 2000000 in
theorem mratio2_t (a n d : Int) (q r D : Nat) (o : Bool) (v c : Int) (w : World) (ha : -9223372036854775807 ≤ a) (hn : -9223372036854775807 ≤ n) (ha' : a ≤ 9223372036854775807) (hn' : n ≤ 9223372036854775807) (hd : 1 ≤ d) (hd' : d ≤ 9223372036854775807) (hD : Hid (d = (D : Int))) (hq : q ≤ 9223372036854775807) (hr : r < D) (hD2 : D ≤ 9223372036854775807) (ho : Hid (opp a n = o)) (hst : Hid (stepB 2 o q r D = true))
    (hdv : Hid (∀ W, Calls Tryz.prog 235 #[.int .u64 (a.natAbs : Int), .int .u64 (n.natAbs : Int), .int .u64 d] W fun e w' => e = .returned (.tuple #[.agg #[.int .u64 q, .int .u64 r, .int .u64 D, .bool false], .int .i64 0]) ∧ Below W.heap.size W w'))
    (hsg : Hid (∀ W, Calls Tryz.prog 237 #[.int .u64 ((q + 1 : Nat) : Int), .bool o] W fun e w' => e = .returned (.tuple #[.int .i64 v, .int .i64 c]) ∧ w' = W)) :
    Calls Tryz.prog 190 #[.int .i64 a, .int .i64 n, .int .i64 d, .int .i64 2] w fun e w' => e = .returned (.tuple #[.int .i64 v, .int .i64 c]) ∧ Below w.heap.size w w' := by
  have hqi : (q : Int) ≤ 9223372036854775807 := by omega
  go_enter Tryz.func190, Tryz.ntmps190
  go_wp2_with fail
  refine (rnd2 _).mono ?_
  rintro e w1 ⟨rfl, hb1⟩
  go_wp2_with fail
  refine (both_yes _ _ _ (by omega) (by omega)).mono ?_
  rintro e w' ⟨rfl, hw⟩
  subst hw
  go_wp2_with fail
  refine (size_any _ _ (by omega) (by omega)).mono ?_
  rintro e w' ⟨rfl, hw⟩
  subst hw
  go_wp2_with fail
  refine (size_any _ _ (by omega) (by omega)).mono ?_
  rintro e w' ⟨rfl, hw⟩
  subst hw
  go_wp2_with fail
  refine ((unhide hdv) _).mono ?_
  rintro e w2 ⟨rfl, hb2⟩
  have C2 := hide (hb1.trans (hb2.mono hb1.size))
  clear hb1 hb2
  go_wp2_with fail
  refine (opp_any _ _ _).mono ?_
  rintro e w' ⟨rfl, hw⟩
  subst hw
  rw [unhide ho]
  go_wp2_with fail
  refine (meth2 q r D o _ hq hr hD2).mono ?_
  rintro e w3 ⟨rfl, hb3⟩
  rw [unhide hst]
  have c3 := bal (unhide C2) (.cells #[.int .u64 q, .int .u64 r, .int .u64 D, .bool o] 289)
  have C3 := hide (c3.trans (hb3.mono c3.size))
  have k0 : w3.cell? ⟨w2.heap.size, 0, none⟩ = some (.int .u64 q) := keep1 hb3 (by simp) (by simp)
  have k3 : w3.cell? ⟨w2.heap.size, 3, none⟩ = some (.bool o) := keep1 hb3 (by simp) (by simp)
  have z0 : w3.frozen? ⟨w2.heap.size, 0, none⟩ = false := keepF hb3 (by simp) (by simp)
  have sz := (unhide C2).size
  clear hb3 c3
  go_wp2_with (go_at_call 237; refine ((unhide hsg) _).mono ?_; rintro e w4 ⟨rfl, hw⟩; subst hw)
  go_ret2
  exact ⟨rfl, (unhide C3).setCell sz _⟩
set_option maxHeartbeats 2000000 in
theorem mratio2_f (a n d : Int) (q r D : Nat) (o : Bool) (v c : Int) (w : World) (ha : -9223372036854775807 ≤ a) (hn : -9223372036854775807 ≤ n) (ha' : a ≤ 9223372036854775807) (hn' : n ≤ 9223372036854775807) (hd : 1 ≤ d) (hd' : d ≤ 9223372036854775807) (hD : Hid (d = (D : Int))) (hq : q ≤ 9223372036854775807) (hr : r < D) (hD2 : D ≤ 9223372036854775807) (ho : Hid (opp a n = o)) (hst : Hid (stepB 2 o q r D = false))
    (hdv : Hid (∀ W, Calls Tryz.prog 235 #[.int .u64 (a.natAbs : Int), .int .u64 (n.natAbs : Int), .int .u64 d] W fun e w' => e = .returned (.tuple #[.agg #[.int .u64 q, .int .u64 r, .int .u64 D, .bool false], .int .i64 0]) ∧ Below W.heap.size W w'))
    (hsg : Hid (∀ W, Calls Tryz.prog 237 #[.int .u64 ((q : Nat) : Int), .bool o] W fun e w' => e = .returned (.tuple #[.int .i64 v, .int .i64 c]) ∧ w' = W)) :
    Calls Tryz.prog 190 #[.int .i64 a, .int .i64 n, .int .i64 d, .int .i64 2] w fun e w' => e = .returned (.tuple #[.int .i64 v, .int .i64 c]) ∧ Below w.heap.size w w' := by
  have hqi : (q : Int) ≤ 9223372036854775807 := by omega
  go_enter Tryz.func190, Tryz.ntmps190
  go_wp2_with fail
  refine (rnd2 _).mono ?_
  rintro e w1 ⟨rfl, hb1⟩
  go_wp2_with fail
  refine (both_yes _ _ _ (by omega) (by omega)).mono ?_
  rintro e w' ⟨rfl, hw⟩
  subst hw
  go_wp2_with fail
  refine (size_any _ _ (by omega) (by omega)).mono ?_
  rintro e w' ⟨rfl, hw⟩
  subst hw
  go_wp2_with fail
  refine (size_any _ _ (by omega) (by omega)).mono ?_
  rintro e w' ⟨rfl, hw⟩
  subst hw
  go_wp2_with fail
  refine ((unhide hdv) _).mono ?_
  rintro e w2 ⟨rfl, hb2⟩
  have C2 := hide (hb1.trans (hb2.mono hb1.size))
  clear hb1 hb2
  go_wp2_with fail
  refine (opp_any _ _ _).mono ?_
  rintro e w' ⟨rfl, hw⟩
  subst hw
  rw [unhide ho]
  go_wp2_with fail
  refine (meth2 q r D o _ hq hr hD2).mono ?_
  rintro e w3 ⟨rfl, hb3⟩
  rw [unhide hst]
  have c3 := bal (unhide C2) (.cells #[.int .u64 q, .int .u64 r, .int .u64 D, .bool o] 289)
  have C3 := hide (c3.trans (hb3.mono c3.size))
  have k0 : w3.cell? ⟨w2.heap.size, 0, none⟩ = some (.int .u64 q) := keep1 hb3 (by simp) (by simp)
  have k3 : w3.cell? ⟨w2.heap.size, 3, none⟩ = some (.bool o) := keep1 hb3 (by simp) (by simp)
  have z0 : w3.frozen? ⟨w2.heap.size, 0, none⟩ = false := keepF hb3 (by simp) (by simp)
  have sz := (unhide C2).size
  clear hb3 c3
  go_wp2_with (go_at_call 237; refine ((unhide hsg) _).mono ?_; rintro e w4 ⟨rfl, hw⟩; subst hw)
  go_ret2
  exact ⟨rfl, (unhide C3)⟩
set_option maxHeartbeats 2000000 in
theorem mratio3_t (a n d : Int) (q r D : Nat) (o : Bool) (v c : Int) (w : World) (ha : -9223372036854775807 ≤ a) (hn : -9223372036854775807 ≤ n) (ha' : a ≤ 9223372036854775807) (hn' : n ≤ 9223372036854775807) (hd : 1 ≤ d) (hd' : d ≤ 9223372036854775807) (hD : Hid (d = (D : Int))) (hq : q ≤ 9223372036854775807) (hr : r < D) (hD2 : D ≤ 9223372036854775807) (ho : Hid (opp a n = o)) (hst : Hid (stepB 3 o q r D = true))
    (hdv : Hid (∀ W, Calls Tryz.prog 235 #[.int .u64 (a.natAbs : Int), .int .u64 (n.natAbs : Int), .int .u64 d] W fun e w' => e = .returned (.tuple #[.agg #[.int .u64 q, .int .u64 r, .int .u64 D, .bool false], .int .i64 0]) ∧ Below W.heap.size W w'))
    (hsg : Hid (∀ W, Calls Tryz.prog 237 #[.int .u64 ((q + 1 : Nat) : Int), .bool o] W fun e w' => e = .returned (.tuple #[.int .i64 v, .int .i64 c]) ∧ w' = W)) :
    Calls Tryz.prog 190 #[.int .i64 a, .int .i64 n, .int .i64 d, .int .i64 3] w fun e w' => e = .returned (.tuple #[.int .i64 v, .int .i64 c]) ∧ Below w.heap.size w w' := by
  have hqi : (q : Int) ≤ 9223372036854775807 := by omega
  go_enter Tryz.func190, Tryz.ntmps190
  go_wp2_with fail
  refine (rnd3 _).mono ?_
  rintro e w1 ⟨rfl, hb1⟩
  go_wp2_with fail
  refine (both_yes _ _ _ (by omega) (by omega)).mono ?_
  rintro e w' ⟨rfl, hw⟩
  subst hw
  go_wp2_with fail
  refine (size_any _ _ (by omega) (by omega)).mono ?_
  rintro e w' ⟨rfl, hw⟩
  subst hw
  go_wp2_with fail
  refine (size_any _ _ (by omega) (by omega)).mono ?_
  rintro e w' ⟨rfl, hw⟩
  subst hw
  go_wp2_with fail
  refine ((unhide hdv) _).mono ?_
  rintro e w2 ⟨rfl, hb2⟩
  have C2 := hide (hb1.trans (hb2.mono hb1.size))
  clear hb1 hb2
  go_wp2_with fail
  refine (opp_any _ _ _).mono ?_
  rintro e w' ⟨rfl, hw⟩
  subst hw
  rw [unhide ho]
  go_wp2_with fail
  refine (meth3 q r D o _ hq hr hD2).mono ?_
  rintro e w3 ⟨rfl, hb3⟩
  rw [unhide hst]
  have c3 := bal (unhide C2) (.cells #[.int .u64 q, .int .u64 r, .int .u64 D, .bool o] 289)
  have C3 := hide (c3.trans (hb3.mono c3.size))
  have k0 : w3.cell? ⟨w2.heap.size, 0, none⟩ = some (.int .u64 q) := keep1 hb3 (by simp) (by simp)
  have k3 : w3.cell? ⟨w2.heap.size, 3, none⟩ = some (.bool o) := keep1 hb3 (by simp) (by simp)
  have z0 : w3.frozen? ⟨w2.heap.size, 0, none⟩ = false := keepF hb3 (by simp) (by simp)
  have sz := (unhide C2).size
  clear hb3 c3
  go_wp2_with (go_at_call 237; refine ((unhide hsg) _).mono ?_; rintro e w4 ⟨rfl, hw⟩; subst hw)
  go_ret2
  exact ⟨rfl, (unhide C3).setCell sz _⟩
set_option maxHeartbeats 2000000 in
theorem mratio3_f (a n d : Int) (q r D : Nat) (o : Bool) (v c : Int) (w : World) (ha : -9223372036854775807 ≤ a) (hn : -9223372036854775807 ≤ n) (ha' : a ≤ 9223372036854775807) (hn' : n ≤ 9223372036854775807) (hd : 1 ≤ d) (hd' : d ≤ 9223372036854775807) (hD : Hid (d = (D : Int))) (hq : q ≤ 9223372036854775807) (hr : r < D) (hD2 : D ≤ 9223372036854775807) (ho : Hid (opp a n = o)) (hst : Hid (stepB 3 o q r D = false))
    (hdv : Hid (∀ W, Calls Tryz.prog 235 #[.int .u64 (a.natAbs : Int), .int .u64 (n.natAbs : Int), .int .u64 d] W fun e w' => e = .returned (.tuple #[.agg #[.int .u64 q, .int .u64 r, .int .u64 D, .bool false], .int .i64 0]) ∧ Below W.heap.size W w'))
    (hsg : Hid (∀ W, Calls Tryz.prog 237 #[.int .u64 ((q : Nat) : Int), .bool o] W fun e w' => e = .returned (.tuple #[.int .i64 v, .int .i64 c]) ∧ w' = W)) :
    Calls Tryz.prog 190 #[.int .i64 a, .int .i64 n, .int .i64 d, .int .i64 3] w fun e w' => e = .returned (.tuple #[.int .i64 v, .int .i64 c]) ∧ Below w.heap.size w w' := by
  have hqi : (q : Int) ≤ 9223372036854775807 := by omega
  go_enter Tryz.func190, Tryz.ntmps190
  go_wp2_with fail
  refine (rnd3 _).mono ?_
  rintro e w1 ⟨rfl, hb1⟩
  go_wp2_with fail
  refine (both_yes _ _ _ (by omega) (by omega)).mono ?_
  rintro e w' ⟨rfl, hw⟩
  subst hw
  go_wp2_with fail
  refine (size_any _ _ (by omega) (by omega)).mono ?_
  rintro e w' ⟨rfl, hw⟩
  subst hw
  go_wp2_with fail
  refine (size_any _ _ (by omega) (by omega)).mono ?_
  rintro e w' ⟨rfl, hw⟩
  subst hw
  go_wp2_with fail
  refine ((unhide hdv) _).mono ?_
  rintro e w2 ⟨rfl, hb2⟩
  have C2 := hide (hb1.trans (hb2.mono hb1.size))
  clear hb1 hb2
  go_wp2_with fail
  refine (opp_any _ _ _).mono ?_
  rintro e w' ⟨rfl, hw⟩
  subst hw
  rw [unhide ho]
  go_wp2_with fail
  refine (meth3 q r D o _ hq hr hD2).mono ?_
  rintro e w3 ⟨rfl, hb3⟩
  rw [unhide hst]
  have c3 := bal (unhide C2) (.cells #[.int .u64 q, .int .u64 r, .int .u64 D, .bool o] 289)
  have C3 := hide (c3.trans (hb3.mono c3.size))
  have k0 : w3.cell? ⟨w2.heap.size, 0, none⟩ = some (.int .u64 q) := keep1 hb3 (by simp) (by simp)
  have k3 : w3.cell? ⟨w2.heap.size, 3, none⟩ = some (.bool o) := keep1 hb3 (by simp) (by simp)
  have z0 : w3.frozen? ⟨w2.heap.size, 0, none⟩ = false := keepF hb3 (by simp) (by simp)
  have sz := (unhide C2).size
  clear hb3 c3
  go_wp2_with (go_at_call 237; refine ((unhide hsg) _).mono ?_; rintro e w4 ⟨rfl, hw⟩; subst hw)
  go_ret2
  exact ⟨rfl, (unhide C3)⟩
set_option maxHeartbeats 2000000 in
theorem mratio4_t (a n d : Int) (q r D : Nat) (o : Bool) (v c : Int) (w : World) (ha : -9223372036854775807 ≤ a) (hn : -9223372036854775807 ≤ n) (ha' : a ≤ 9223372036854775807) (hn' : n ≤ 9223372036854775807) (hd : 1 ≤ d) (hd' : d ≤ 9223372036854775807) (hD : Hid (d = (D : Int))) (hq : q ≤ 9223372036854775807) (hr : r < D) (hD2 : D ≤ 9223372036854775807) (ho : Hid (opp a n = o)) (hst : Hid (stepB 4 o q r D = true))
    (hdv : Hid (∀ W, Calls Tryz.prog 235 #[.int .u64 (a.natAbs : Int), .int .u64 (n.natAbs : Int), .int .u64 d] W fun e w' => e = .returned (.tuple #[.agg #[.int .u64 q, .int .u64 r, .int .u64 D, .bool false], .int .i64 0]) ∧ Below W.heap.size W w'))
    (hsg : Hid (∀ W, Calls Tryz.prog 237 #[.int .u64 ((q + 1 : Nat) : Int), .bool o] W fun e w' => e = .returned (.tuple #[.int .i64 v, .int .i64 c]) ∧ w' = W)) :
    Calls Tryz.prog 190 #[.int .i64 a, .int .i64 n, .int .i64 d, .int .i64 4] w fun e w' => e = .returned (.tuple #[.int .i64 v, .int .i64 c]) ∧ Below w.heap.size w w' := by
  have hqi : (q : Int) ≤ 9223372036854775807 := by omega
  go_enter Tryz.func190, Tryz.ntmps190
  go_wp2_with fail
  refine (rnd4 _).mono ?_
  rintro e w1 ⟨rfl, hb1⟩
  go_wp2_with fail
  refine (both_yes _ _ _ (by omega) (by omega)).mono ?_
  rintro e w' ⟨rfl, hw⟩
  subst hw
  go_wp2_with fail
  refine (size_any _ _ (by omega) (by omega)).mono ?_
  rintro e w' ⟨rfl, hw⟩
  subst hw
  go_wp2_with fail
  refine (size_any _ _ (by omega) (by omega)).mono ?_
  rintro e w' ⟨rfl, hw⟩
  subst hw
  go_wp2_with fail
  refine ((unhide hdv) _).mono ?_
  rintro e w2 ⟨rfl, hb2⟩
  have C2 := hide (hb1.trans (hb2.mono hb1.size))
  clear hb1 hb2
  go_wp2_with fail
  refine (opp_any _ _ _).mono ?_
  rintro e w' ⟨rfl, hw⟩
  subst hw
  rw [unhide ho]
  go_wp2_with fail
  refine (meth4 q r D o _ hq hr hD2).mono ?_
  rintro e w3 ⟨rfl, hb3⟩
  rw [unhide hst]
  have c3 := bal (unhide C2) (.cells #[.int .u64 q, .int .u64 r, .int .u64 D, .bool o] 289)
  have C3 := hide (c3.trans (hb3.mono c3.size))
  have k0 : w3.cell? ⟨w2.heap.size, 0, none⟩ = some (.int .u64 q) := keep1 hb3 (by simp) (by simp)
  have k3 : w3.cell? ⟨w2.heap.size, 3, none⟩ = some (.bool o) := keep1 hb3 (by simp) (by simp)
  have z0 : w3.frozen? ⟨w2.heap.size, 0, none⟩ = false := keepF hb3 (by simp) (by simp)
  have sz := (unhide C2).size
  clear hb3 c3
  go_wp2_with (go_at_call 237; refine ((unhide hsg) _).mono ?_; rintro e w4 ⟨rfl, hw⟩; subst hw)
  go_ret2
  exact ⟨rfl, (unhide C3).setCell sz _⟩
set_option maxHeartbeats 2000000 in
theorem mratio4_f (a n d : Int) (q r D : Nat) (o : Bool) (v c : Int) (w : World) (ha : -9223372036854775807 ≤ a) (hn : -9223372036854775807 ≤ n) (ha' : a ≤ 9223372036854775807) (hn' : n ≤ 9223372036854775807) (hd : 1 ≤ d) (hd' : d ≤ 9223372036854775807) (hD : Hid (d = (D : Int))) (hq : q ≤ 9223372036854775807) (hr : r < D) (hD2 : D ≤ 9223372036854775807) (ho : Hid (opp a n = o)) (hst : Hid (stepB 4 o q r D = false))
    (hdv : Hid (∀ W, Calls Tryz.prog 235 #[.int .u64 (a.natAbs : Int), .int .u64 (n.natAbs : Int), .int .u64 d] W fun e w' => e = .returned (.tuple #[.agg #[.int .u64 q, .int .u64 r, .int .u64 D, .bool false], .int .i64 0]) ∧ Below W.heap.size W w'))
    (hsg : Hid (∀ W, Calls Tryz.prog 237 #[.int .u64 ((q : Nat) : Int), .bool o] W fun e w' => e = .returned (.tuple #[.int .i64 v, .int .i64 c]) ∧ w' = W)) :
    Calls Tryz.prog 190 #[.int .i64 a, .int .i64 n, .int .i64 d, .int .i64 4] w fun e w' => e = .returned (.tuple #[.int .i64 v, .int .i64 c]) ∧ Below w.heap.size w w' := by
  have hqi : (q : Int) ≤ 9223372036854775807 := by omega
  go_enter Tryz.func190, Tryz.ntmps190
  go_wp2_with fail
  refine (rnd4 _).mono ?_
  rintro e w1 ⟨rfl, hb1⟩
  go_wp2_with fail
  refine (both_yes _ _ _ (by omega) (by omega)).mono ?_
  rintro e w' ⟨rfl, hw⟩
  subst hw
  go_wp2_with fail
  refine (size_any _ _ (by omega) (by omega)).mono ?_
  rintro e w' ⟨rfl, hw⟩
  subst hw
  go_wp2_with fail
  refine (size_any _ _ (by omega) (by omega)).mono ?_
  rintro e w' ⟨rfl, hw⟩
  subst hw
  go_wp2_with fail
  refine ((unhide hdv) _).mono ?_
  rintro e w2 ⟨rfl, hb2⟩
  have C2 := hide (hb1.trans (hb2.mono hb1.size))
  clear hb1 hb2
  go_wp2_with fail
  refine (opp_any _ _ _).mono ?_
  rintro e w' ⟨rfl, hw⟩
  subst hw
  rw [unhide ho]
  go_wp2_with fail
  refine (meth4 q r D o _ hq hr hD2).mono ?_
  rintro e w3 ⟨rfl, hb3⟩
  rw [unhide hst]
  have c3 := bal (unhide C2) (.cells #[.int .u64 q, .int .u64 r, .int .u64 D, .bool o] 289)
  have C3 := hide (c3.trans (hb3.mono c3.size))
  have k0 : w3.cell? ⟨w2.heap.size, 0, none⟩ = some (.int .u64 q) := keep1 hb3 (by simp) (by simp)
  have k3 : w3.cell? ⟨w2.heap.size, 3, none⟩ = some (.bool o) := keep1 hb3 (by simp) (by simp)
  have z0 : w3.frozen? ⟨w2.heap.size, 0, none⟩ = false := keepF hb3 (by simp) (by simp)
  have sz := (unhide C2).size
  clear hb3 c3
  go_wp2_with (go_at_call 237; refine ((unhide hsg) _).mono ?_; rintro e w4 ⟨rfl, hw⟩; subst hw)
  go_ret2
  exact ⟨rfl, (unhide C3)⟩
set_option maxHeartbeats 2000000 in
theorem mratio5_t (a n d : Int) (q r D : Nat) (o : Bool) (v c : Int) (w : World) (ha : -9223372036854775807 ≤ a) (hn : -9223372036854775807 ≤ n) (ha' : a ≤ 9223372036854775807) (hn' : n ≤ 9223372036854775807) (hd : 1 ≤ d) (hd' : d ≤ 9223372036854775807) (hD : Hid (d = (D : Int))) (hq : q ≤ 9223372036854775807) (hr : r < D) (hD2 : D ≤ 9223372036854775807) (ho : Hid (opp a n = o)) (hst : Hid (stepB 5 o q r D = true))
    (hdv : Hid (∀ W, Calls Tryz.prog 235 #[.int .u64 (a.natAbs : Int), .int .u64 (n.natAbs : Int), .int .u64 d] W fun e w' => e = .returned (.tuple #[.agg #[.int .u64 q, .int .u64 r, .int .u64 D, .bool false], .int .i64 0]) ∧ Below W.heap.size W w'))
    (hsg : Hid (∀ W, Calls Tryz.prog 237 #[.int .u64 ((q + 1 : Nat) : Int), .bool o] W fun e w' => e = .returned (.tuple #[.int .i64 v, .int .i64 c]) ∧ w' = W)) :
    Calls Tryz.prog 190 #[.int .i64 a, .int .i64 n, .int .i64 d, .int .i64 5] w fun e w' => e = .returned (.tuple #[.int .i64 v, .int .i64 c]) ∧ Below w.heap.size w w' := by
  have hqi : (q : Int) ≤ 9223372036854775807 := by omega
  go_enter Tryz.func190, Tryz.ntmps190
  go_wp2_with fail
  refine (rnd5 _).mono ?_
  rintro e w1 ⟨rfl, hb1⟩
  go_wp2_with fail
  refine (both_yes _ _ _ (by omega) (by omega)).mono ?_
  rintro e w' ⟨rfl, hw⟩
  subst hw
  go_wp2_with fail
  refine (size_any _ _ (by omega) (by omega)).mono ?_
  rintro e w' ⟨rfl, hw⟩
  subst hw
  go_wp2_with fail
  refine (size_any _ _ (by omega) (by omega)).mono ?_
  rintro e w' ⟨rfl, hw⟩
  subst hw
  go_wp2_with fail
  refine ((unhide hdv) _).mono ?_
  rintro e w2 ⟨rfl, hb2⟩
  have C2 := hide (hb1.trans (hb2.mono hb1.size))
  clear hb1 hb2
  go_wp2_with fail
  refine (opp_any _ _ _).mono ?_
  rintro e w' ⟨rfl, hw⟩
  subst hw
  rw [unhide ho]
  go_wp2_with fail
  refine (meth5 q r D o _ hq hr hD2).mono ?_
  rintro e w3 ⟨rfl, hb3⟩
  rw [unhide hst]
  have c3 := bal (unhide C2) (.cells #[.int .u64 q, .int .u64 r, .int .u64 D, .bool o] 289)
  have C3 := hide (c3.trans (hb3.mono c3.size))
  have k0 : w3.cell? ⟨w2.heap.size, 0, none⟩ = some (.int .u64 q) := keep1 hb3 (by simp) (by simp)
  have k3 : w3.cell? ⟨w2.heap.size, 3, none⟩ = some (.bool o) := keep1 hb3 (by simp) (by simp)
  have z0 : w3.frozen? ⟨w2.heap.size, 0, none⟩ = false := keepF hb3 (by simp) (by simp)
  have sz := (unhide C2).size
  clear hb3 c3
  go_wp2_with (go_at_call 237; refine ((unhide hsg) _).mono ?_; rintro e w4 ⟨rfl, hw⟩; subst hw)
  go_ret2
  exact ⟨rfl, (unhide C3).setCell sz _⟩
set_option maxHeartbeats 2000000 in
theorem mratio5_f (a n d : Int) (q r D : Nat) (o : Bool) (v c : Int) (w : World) (ha : -9223372036854775807 ≤ a) (hn : -9223372036854775807 ≤ n) (ha' : a ≤ 9223372036854775807) (hn' : n ≤ 9223372036854775807) (hd : 1 ≤ d) (hd' : d ≤ 9223372036854775807) (hD : Hid (d = (D : Int))) (hq : q ≤ 9223372036854775807) (hr : r < D) (hD2 : D ≤ 9223372036854775807) (ho : Hid (opp a n = o)) (hst : Hid (stepB 5 o q r D = false))
    (hdv : Hid (∀ W, Calls Tryz.prog 235 #[.int .u64 (a.natAbs : Int), .int .u64 (n.natAbs : Int), .int .u64 d] W fun e w' => e = .returned (.tuple #[.agg #[.int .u64 q, .int .u64 r, .int .u64 D, .bool false], .int .i64 0]) ∧ Below W.heap.size W w'))
    (hsg : Hid (∀ W, Calls Tryz.prog 237 #[.int .u64 ((q : Nat) : Int), .bool o] W fun e w' => e = .returned (.tuple #[.int .i64 v, .int .i64 c]) ∧ w' = W)) :
    Calls Tryz.prog 190 #[.int .i64 a, .int .i64 n, .int .i64 d, .int .i64 5] w fun e w' => e = .returned (.tuple #[.int .i64 v, .int .i64 c]) ∧ Below w.heap.size w w' := by
  have hqi : (q : Int) ≤ 9223372036854775807 := by omega
  go_enter Tryz.func190, Tryz.ntmps190
  go_wp2_with fail
  refine (rnd5 _).mono ?_
  rintro e w1 ⟨rfl, hb1⟩
  go_wp2_with fail
  refine (both_yes _ _ _ (by omega) (by omega)).mono ?_
  rintro e w' ⟨rfl, hw⟩
  subst hw
  go_wp2_with fail
  refine (size_any _ _ (by omega) (by omega)).mono ?_
  rintro e w' ⟨rfl, hw⟩
  subst hw
  go_wp2_with fail
  refine (size_any _ _ (by omega) (by omega)).mono ?_
  rintro e w' ⟨rfl, hw⟩
  subst hw
  go_wp2_with fail
  refine ((unhide hdv) _).mono ?_
  rintro e w2 ⟨rfl, hb2⟩
  have C2 := hide (hb1.trans (hb2.mono hb1.size))
  clear hb1 hb2
  go_wp2_with fail
  refine (opp_any _ _ _).mono ?_
  rintro e w' ⟨rfl, hw⟩
  subst hw
  rw [unhide ho]
  go_wp2_with fail
  refine (meth5 q r D o _ hq hr hD2).mono ?_
  rintro e w3 ⟨rfl, hb3⟩
  rw [unhide hst]
  have c3 := bal (unhide C2) (.cells #[.int .u64 q, .int .u64 r, .int .u64 D, .bool o] 289)
  have C3 := hide (c3.trans (hb3.mono c3.size))
  have k0 : w3.cell? ⟨w2.heap.size, 0, none⟩ = some (.int .u64 q) := keep1 hb3 (by simp) (by simp)
  have k3 : w3.cell? ⟨w2.heap.size, 3, none⟩ = some (.bool o) := keep1 hb3 (by simp) (by simp)
  have z0 : w3.frozen? ⟨w2.heap.size, 0, none⟩ = false := keepF hb3 (by simp) (by simp)
  have sz := (unhide C2).size
  clear hb3 c3
  go_wp2_with (go_at_call 237; refine ((unhide hsg) _).mono ?_; rintro e w4 ⟨rfl, hw⟩; subst hw)
  go_ret2
  exact ⟨rfl, (unhide C3)⟩
end Go.Proofs.YtcafhmlpmbkhkaaGreatDoor.Mw
