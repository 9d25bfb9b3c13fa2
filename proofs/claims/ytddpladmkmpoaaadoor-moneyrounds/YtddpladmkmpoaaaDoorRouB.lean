import Derived.Test.YtddpladmkmpoaaaDoorRouA
import Derived.Test.YtddpladmkmpoaaaDoorRouN
import Derived.Deep.QuietTactic
import Derived.BigQuiet
namespace Go.Proofs.YtddpladmkmpoaaaDoor
open Go.ChangeShapes Go.WideShapes Go.ChangeAt Go.RowKit
set_option linter.unusedVariables false
set_option maxRecDepth 100000 in
set_option maxHeartbeats 2000000 in
theorem rounds_bad (a n d : Int) (w : World) (hP : Pow w) (ha : -9223372036854775808 ≤ a) (hn : -9223372036854775808 ≤ n) (ha' : a ≤ 9223372036854775807) (hn' : n ≤ 9223372036854775807) (hd' : d ≤ 9223372036854775807)
    (hc : a = -9223372036854775808 ∨ a ≠ -9223372036854775808 ∧ n = -9223372036854775808 ∨ a ≠ -9223372036854775808 ∧ n ≠ -9223372036854775808 ∧ d < 1) (q : Int) (hq : (ratioSpec a n d 0).2 = q) (hq0 : q ≠ 0) :
    Calls Tryd.prog 4 #[.int .i64 a, .int .i64 n, .int .i64 d] w fun e w' => e = .returned (.bool true) ∧ Below w.heap.size w w' := by
  have A1 := hide (first_ok w hP)
  have A2 := hide (fun W => mratio_any a n d 0 W ha hn ha' hn' hd' ⟨by decide, by decide⟩)
  rw [hq] at A2
  have hqb : (q != 0) = true := by rw [bne_iff_ne]; exact hq0
  clear hP hq
  rcases hc with hc | ⟨hc, hc'⟩ | ⟨hc, hc', hc3⟩
  · have e1 : (a == -9223372036854775808) = true := by rw [beq_iff_eq]; exact hc
    clear hc ha hn ha' hn' hd'
    go_enter Tryd.func4, Tryd.ntmps4
    go_wp2_with fail
    refine (unhide A1).mono ?_
    rintro e w1 ⟨rfl, c1⟩
    have B1 := hide c1
    clear c1
    go_wp2_with fail
    refine (unhide A2 _).mono ?_
    rintro e w2 ⟨rfl, c2⟩
    have B2 := hide ((unhide B1).trans (c2.mono (unhide B1).size))
    clear c2
    go_wp2
    go_ret
    exact ⟨by simp [*], unhide B2⟩
  · have e1 : (a == -9223372036854775808) = false := by rw [beq_eq_false_iff_ne]; exact hc
    have e2 : (n == -9223372036854775808) = true := by rw [beq_iff_eq]; exact hc'
    clear hc hc' ha hn ha' hn' hd'
    go_enter Tryd.func4, Tryd.ntmps4
    go_wp2_with fail
    refine (unhide A1).mono ?_
    rintro e w1 ⟨rfl, c1⟩
    have B1 := hide c1
    clear c1
    go_wp2_with fail
    refine (unhide A2 _).mono ?_
    rintro e w2 ⟨rfl, c2⟩
    have B2 := hide ((unhide B1).trans (c2.mono (unhide B1).size))
    clear c2
    go_wp2
    go_ret
    exact ⟨by simp [*], unhide B2⟩
  · have e1 : (a == -9223372036854775808) = false := by rw [beq_eq_false_iff_ne]; exact hc
    have e2 : (n == -9223372036854775808) = false := by rw [beq_eq_false_iff_ne]; exact hc'
    clear hc hc' ha hn ha' hn' hd'
    go_enter Tryd.func4, Tryd.ntmps4
    go_wp2_with fail
    refine (unhide A1).mono ?_
    rintro e w1 ⟨rfl, c1⟩
    have B1 := hide c1
    clear c1
    go_wp2_with fail
    refine (unhide A2 _).mono ?_
    rintro e w2 ⟨rfl, c2⟩
    have B2 := hide ((unhide B1).trans (c2.mono (unhide B1).size))
    clear c2
    go_wp2
    go_ret
    exact ⟨by simp [*], unhide B2⟩
theorem run_st29_new (w : World) (b : Nat) (x0 x1 x2 x3 x4 x5 : Int) (hb : b = w.heap.size) : (st29 (.pointer (some ⟨b, 0, none⟩)) (.agg #[.int .i64 x0, .int .i64 x1, .int .i64 x2, .int .i64 x3, .int .i64 x4, .int .i64 x5])).run Tryd.prog (w.alloc (.cells #[.int .i64 0, .int .i64 0, .int .i64 0, .int .i64 0, .int .i64 0, .int .i64 0] 29)) = .ok () (w.alloc (.cells #[.int .i64 x0, .int .i64 x1, .int .i64 x2, .int .i64 x3, .int .i64 x4, .int .i64 x5] 29)) := by
  subst hb
  unfold st29
  simp [go_sem]
theorem undrewN {B n : Nat} {W w1 : World} (h : Below B (W.drewN n) w1) : Below B W w1 := ⟨h.os, h.tape, h.output, h.size, h.block⟩
attribute [local go_sem ↓] st29_is
attribute [local go_sem] run_st29_new
set_option maxRecDepth 100000 in
set_option maxHeartbeats 4000000 in
theorem rounds_go (a n d : Int) (w : World) (hP : Pow w) (e1 : (a == -9223372036854775808) = false) (e2 : (n == -9223372036854775808) = false) (hd : 1 ≤ d) (ha1 : -9223372036854775807 ≤ a) (ha2 : a ≤ 9223372036854775807)
    (RD : Hid (∀ (k : Nat) (_ : k < 6) W, Calls Tryd.prog 8 #[.int .i64 a, .int .i64 d, .int .i64 d, .int .i64 k] W fun e w' => e = .returned (.tuple #[.int .i64 a, .int .i64 0]) ∧ Below W.heap.size W w'))
    (x0 x1 x2 x3 x4 x5 : Int) (Wb : Bool) (g1 : x2 ≤ x3) (g2 : x3 - x2 ≤ 1) (g3 : (x0 == x1) = Wb) (g4 : (x2 == x3) = Wb) (l0 : x2 ≤ x0) (m0 : x0 ≤ x3) (l1 : x2 ≤ x1) (m1 : x1 ≤ x3) (l4 : x2 ≤ x4) (m4 : x4 ≤ x3) (l5 : x2 ≤ x5) (m5 : x5 ≤ x3) (bl : -9223372036854775807 ≤ x2) (bm : x3 ≤ 9223372036854775807)
    (hs : Hid (x0 < 0 ∧ (x0 != x3) = false ∨ ¬ x0 < 0 ∧ 0 < x0 ∧ (x0 != x2) = false ∨ ¬ x0 < 0 ∧ ¬ 0 < x0)) (hh : Hid ((x4 != x5) = false ∨ (x4 != x5) = true ∧ (x4.tmod 2 == 0) = false ∧ (x4 % 2 == 0) = false))
    (R1 : Hid (∀ W, Calls Tryd.prog 9 #[.int .i64 a, .int .i64 n, .int .i64 d] W fun e w' => e = .returned (.tuple #[.agg #[.int .i64 x0, .int .i64 x1, .int .i64 x2, .int .i64 x3, .int .i64 x4, .int .i64 x5], .bool true]) ∧ Below W.heap.size W w'))
    (R2 : Hid (∀ W, Calls Tryd.prog 9 #[.int .i64 (-a), .int .i64 n, .int .i64 d] W fun e w' => e = .returned (.tuple #[.agg #[.int .i64 (-x0), .int .i64 (-x1), .int .i64 (-x3), .int .i64 (-x2), .int .i64 (-x4), .int .i64 (-x5)], .bool true]) ∧ Below W.heap.size W w')) :
    Calls Tryd.prog 4 #[.int .i64 a, .int .i64 n, .int .i64 d] w fun e w' => e = .returned (.bool true) ∧ Below w.heap.size w w' := by
  have A1 := hide (first_ok w hP)
  have hx : decide (d < 1) = false := decide_eq_false (by omega)
  clear hP
  go_enter Tryd.func4, Tryd.ntmps4
  go_wp2_with fail
  refine (unhide A1).mono ?_
  rintro e w1 ⟨rfl, c1⟩
  have B1 := hide c1
  clear c1 A1
  go_wp2
  go_loopw [10] (fun i wr => ∃ (k : Nat), k ≤ 6 ∧ i = .int .i64 k ∧ Below w.heap.size w wr) (fun i _ => 6 - (intOf i).toNat)
  case atStart => exact ⟨0, by omega, rfl, unhide B1⟩
  case round =>
    rename_i wr
    obtain ⟨k, hk, rfl, hb⟩ := hrel
    have HB := hide hb
    clear hb
    by_cases hlt : k < 6
    · have hI : (k : Int) < 6 := by omega
      have A := hide ((unhide RD) k hlt wr)
      go_wp2_with fail
      refine (unhide A).mono ?_
      rintro e w2 ⟨rfl, c2⟩
      have B2 := hide ((unhide HB).trans (c2.mono (unhide HB).size))
      clear c2
      go_wp2
      exact ⟨⟨k + 1, by omega, by go_num, unhide B2⟩, by simp [intOf]; omega⟩
    · have hk6 : k = 6 := by omega
      subst hk6
      go_wp2_with fail
      refine (unhide R1 _).mono ?_
      rintro e w3 ⟨rfl, c3⟩
      have B3 := hide ((unhide HB).trans (c3.mono (unhide HB).size))
      clear c3
      go_wp2
      go_quiet (fail)
      go_wp2
      refine wp_loop_rounds 8 ?_
      rw [rounds_succ]
      go_wp2
      rw [rounds_succ]
      go_wp2
      rw [rounds_succ]
      go_wp2
      rw [rounds_succ]
      go_wp2
      rw [rounds_succ]
      go_wp2
      rw [rounds_succ]
      go_wp2
      rw [rounds_succ]
      rcases unhide hs with ⟨s1, s2⟩ | ⟨s1, s2, s3⟩ | ⟨s1, s2⟩ <;> rcases unhide hh with t1 | ⟨t1, t2, t3⟩
      all_goals
        clear hs hh
        go_wp2_with fail
        refine (unhide R2 _).mono ?_
        rintro e w4 ⟨rfl, c4⟩
        have B4 := hide ((bal (unhide B3) _).trans (undrewN (c4.mono (bal (unhide B3) _).size)))
        clear c4
        go_wp2
        go_ret
        exact ⟨by simp, bal (unhide B4) _⟩
set_option maxRecDepth 100000 in
set_option maxHeartbeats 4000000 in
theorem rounds_fail (a n d : Int) (w : World) (hP : Pow w) (e1 : (a == -9223372036854775808) = false) (e2 : (n == -9223372036854775808) = false) (hd : 1 ≤ d) (ha1 : -9223372036854775807 ≤ a) (ha2 : a ≤ 9223372036854775807)
    (RD : Hid (∀ (k : Nat) (_ : k < 6) W, Calls Tryd.prog 8 #[.int .i64 a, .int .i64 d, .int .i64 d, .int .i64 k] W fun e w' => e = .returned (.tuple #[.int .i64 a, .int .i64 0]) ∧ Below W.heap.size W w'))
    (R1 : Hid (∀ W, Calls Tryd.prog 9 #[.int .i64 a, .int .i64 n, .int .i64 d] W fun e w' => ∃ x : Nat → Int, e = .returned (.tuple #[.agg #[.int .i64 (x 0), .int .i64 (x 1), .int .i64 (x 2), .int .i64 (x 3), .int .i64 (x 4), .int .i64 (x 5)], .bool false]) ∧ Below W.heap.size W w')) :
    Calls Tryd.prog 4 #[.int .i64 a, .int .i64 n, .int .i64 d] w fun e w' => e = .returned (.bool true) ∧ Below w.heap.size w w' := by
  have A1 := hide (first_ok w hP)
  have hx : decide (d < 1) = false := decide_eq_false (by omega)
  clear hP
  go_enter Tryd.func4, Tryd.ntmps4
  go_wp2_with fail
  refine (unhide A1).mono ?_
  rintro e w1 ⟨rfl, c1⟩
  have B1 := hide c1
  clear c1 A1
  go_wp2
  go_loopw [10] (fun i wr => ∃ (k : Nat), k ≤ 6 ∧ i = .int .i64 k ∧ Below w.heap.size w wr) (fun i _ => 6 - (intOf i).toNat)
  case atStart => exact ⟨0, by omega, rfl, unhide B1⟩
  case round =>
    rename_i wr
    obtain ⟨k, hk, rfl, hb⟩ := hrel
    have HB := hide hb
    clear hb
    by_cases hlt : k < 6
    · have hI : (k : Int) < 6 := by omega
      have A := hide ((unhide RD) k hlt wr)
      go_wp2_with fail
      refine (unhide A).mono ?_
      rintro e w2 ⟨rfl, c2⟩
      have B2 := hide ((unhide HB).trans (c2.mono (unhide HB).size))
      clear c2
      go_wp2
      exact ⟨⟨k + 1, by omega, by go_num, unhide B2⟩, by simp [intOf]; omega⟩
    · have hk6 : k = 6 := by omega
      subst hk6
      go_wp2_with fail
      refine (unhide R1 _).mono ?_
      rintro e w3 ⟨x, rfl, c3⟩
      have B3 := hide ((unhide HB).trans (c3.mono (unhide HB).size))
      clear c3
      go_wp2
      go_ret
      exact ⟨rfl, bal (unhide B3) _⟩
end Go.Proofs.YtddpladmkmpoaaaDoor
