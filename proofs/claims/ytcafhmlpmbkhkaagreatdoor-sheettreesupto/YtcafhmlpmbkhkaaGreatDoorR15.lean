import Derived.Test.YtcafhmlpmbkhkaaGreatDoorR08
import Derived.Test.YtcafhmlpmbkhkaaGreatDoorR14
namespace Go.Proofs.YtcafhmlpmbkhkaaGreatDoor.Mw
open Go.ChangeShapes Go.WideShapes Go.ChangeAt Go.RowKit
set_option linter.unusedVariables false
attribute [local go_sem] setCell_drewN alloc_drewN
def rq (h : Int) (o : Bool) (T D : Nat) : Nat := if stepB h o (T / D) (T % D) D then T / D + 1 else T / D
def ratioSpec (a n d h : Int) : Int × Int :=
  if d < 1 ∨ h < 0 ∨ 5 < h then (0, 1) else if isMin a || isMin n then (0, 10)
  else if rq h (opp a n) (a.natAbs * n.natAbs) d.natAbs < 9223372036854775808 then (if opp a n then -((rq h (opp a n) (a.natAbs * n.natAbs) d.natAbs : Nat) : Int) else ((rq h (opp a n) (a.natAbs * n.natAbs) d.natAbs : Nat) : Int), 0) else (0, 11)
theorem rnd_some (h : Int) (w : World) (hb : -9223372036854775808 ≤ h ∧ h ≤ 9223372036854775807) : Calls Tryz.prog 233 #[.int .i64 h] w fun e w' => ∃ f k, e = .returned (.tuple #[f, .bool k]) ∧ Below w.heap.size w w' := by
  by_cases hc : h < 0 ∨ 6 ≤ h
  · exact (rndNo h w hb hc).mono fun e w' hh => ⟨_, _, hh.1, hh.2⟩
  · have : h = 0 ∨ h = 1 ∨ h = 2 ∨ h = 3 ∨ h = 4 ∨ h = 5 := by omega
    rcases this with rfl | rfl | rfl | rfl | rfl | rfl
    · exact (rnd0 w).mono fun e w' hh => ⟨_, _, hh.1, hh.2⟩
    · exact (rnd1 w).mono fun e w' hh => ⟨_, _, hh.1, hh.2⟩
    · exact (rnd2 w).mono fun e w' hh => ⟨_, _, hh.1, hh.2⟩
    · exact (rnd3 w).mono fun e w' hh => ⟨_, _, hh.1, hh.2⟩
    · exact (rnd4 w).mono fun e w' hh => ⟨_, _, hh.1, hh.2⟩
    · exact (rnd5 w).mono fun e w' hh => ⟨_, _, hh.1, hh.2⟩
theorem rnd_yes (h : Int) (w : World) (hb : 0 ≤ h ∧ h ≤ 5) : Calls Tryz.prog 233 #[.int .i64 h] w fun e w' => ∃ f, e = .returned (.tuple #[f, .bool true]) ∧ Below w.heap.size w w' := by
  have : h = 0 ∨ h = 1 ∨ h = 2 ∨ h = 3 ∨ h = 4 ∨ h = 5 := by omega
  rcases this with rfl | rfl | rfl | rfl | rfl | rfl
  · exact (rnd0 w).mono fun e w' hh => ⟨_, hh.1, hh.2⟩
  · exact (rnd1 w).mono fun e w' hh => ⟨_, hh.1, hh.2⟩
  · exact (rnd2 w).mono fun e w' hh => ⟨_, hh.1, hh.2⟩
  · exact (rnd3 w).mono fun e w' hh => ⟨_, hh.1, hh.2⟩
  · exact (rnd4 w).mono fun e w' hh => ⟨_, hh.1, hh.2⟩
  · exact (rnd5 w).mono fun e w' hh => ⟨_, hh.1, hh.2⟩
set_option maxHeartbeats 1000000 in
theorem mratio_arg1 (a n d h : Int) (w : World) (hb : -9223372036854775808 ≤ h ∧ h ≤ 9223372036854775807) (hd : d < 1) :
    Calls Tryz.prog 190 #[.int .i64 a, .int .i64 n, .int .i64 d, .int .i64 h] w fun e w' => e = .returned (.tuple #[.int .i64 0, .int .i64 1]) ∧ Below w.heap.size w w' := by
  go_enter Tryz.func190, Tryz.ntmps190
  go_wp2_with (go_at_call 233; refine (rnd_some h _ hb).mono ?_; rintro e w1 ⟨f, k, rfl, hb1⟩)
  go_ret2
  exact ⟨rfl, hb1⟩
set_option maxHeartbeats 1000000 in
theorem mratio_arg2 (a n d h : Int) (w : World) (hb : -9223372036854775808 ≤ h ∧ h ≤ 9223372036854775807) (hd : 1 ≤ d) (hc : h < 0 ∨ 6 ≤ h) :
    Calls Tryz.prog 190 #[.int .i64 a, .int .i64 n, .int .i64 d, .int .i64 h] w fun e w' => e = .returned (.tuple #[.int .i64 0, .int .i64 1]) ∧ Below w.heap.size w w' := by
  have HC := hide hc
  clear hc
  go_enter Tryz.func190, Tryz.ntmps190
  go_wp2_with (go_at_call 233; refine (rndNo h _ hb (unhide HC)).mono ?_; rintro e w1 ⟨rfl, hb1⟩)
  go_ret2
  exact ⟨rfl, hb1⟩
set_option maxHeartbeats 1000000 in
theorem mratio_bad (a n d h : Int) (w : World) (hb : 0 ≤ h ∧ h ≤ 5) (hd : 1 ≤ d) (ha : -9223372036854775808 ≤ a) (hn : -9223372036854775808 ≤ n) (hm : isMin a = true ∨ isMin n = true) :
    Calls Tryz.prog 190 #[.int .i64 a, .int .i64 n, .int .i64 d, .int .i64 h] w fun e w' => e = .returned (.tuple #[.int .i64 0, .int .i64 10]) ∧ Below w.heap.size w w' := by
  have HM := hide hm
  clear hm
  go_enter Tryz.func190, Tryz.ntmps190
  go_wp2_with (first | (go_at_call 233; refine (rnd_yes h _ hb).mono ?_; rintro e w1 ⟨f, rfl, hb1⟩; have HB1 := hide hb1; clear hb1) | (go_at_call 234; refine (both_bad _ _ _ (by omega) (by omega) (unhide HM)).mono ?_; rintro e w' ⟨rfl, hw⟩; subst hw))
  go_ret2
  exact ⟨rfl, unhide HB1⟩
set_option maxHeartbeats 1000000 in
theorem mratio_over (a n d h : Int) (w : World) (hb : 0 ≤ h ∧ h ≤ 5) (hd : 1 ≤ d) (hd' : d ≤ 9223372036854775807) (ha : -9223372036854775807 ≤ a) (hn : -9223372036854775807 ≤ n) (ha' : a ≤ 9223372036854775807) (hn' : n ≤ 9223372036854775807)
    (hdv : Hid (∀ W, Calls Tryz.prog 235 #[.int .u64 (a.natAbs : Int), .int .u64 (n.natAbs : Int), .int .u64 d] W fun e w' => e = .returned (.tuple #[.agg #[.int .u64 0, .int .u64 0, .int .u64 0, .bool false], .int .i64 11]) ∧ Below W.heap.size W w')) :
    Calls Tryz.prog 190 #[.int .i64 a, .int .i64 n, .int .i64 d, .int .i64 h] w fun e w' => e = .returned (.tuple #[.int .i64 0, .int .i64 11]) ∧ Below w.heap.size w w' := by
  go_enter Tryz.func190, Tryz.ntmps190
  go_wp2_with (first | (go_at_call 233; refine (rnd_yes h _ hb).mono ?_; rintro e w1 ⟨f, rfl, hb1⟩; have HB1 := hide hb1; clear hb1) | (go_at_call 234; refine (both_yes _ _ _ (by omega) (by omega)).mono ?_; rintro e w' ⟨rfl, hw⟩; subst hw) | (go_at_call 198; refine (size_any _ _ (by omega) (by omega)).mono ?_; rintro e w' ⟨rfl, hw⟩; subst hw) | (go_at_call 235; refine ((unhide hdv) _).mono ?_; rintro e w2 ⟨rfl, hb2⟩; have HB2 := hide hb2; clear hb2))
  go_ret2
  have c2 := (unhide HB1).trans ((unhide HB2).mono (unhide HB1).size)
  exact ⟨rfl, bal c2 _⟩
set_option maxHeartbeats 1000000 in
theorem rratio_arg (a n d h : Int) (w : World) (hc : d < 1 ∨ (1 ≤ d ∧ h < 0) ∨ (1 ≤ d ∧ 5 < h)) :
    Calls Tryz.prog 195 #[.int .i64 a, .int .i64 n, .int .i64 d, .int .i64 h] w fun e w' => e = .returned (.tuple #[.int .i64 0, .int .i64 1]) ∧ w' = w := by
  rcases hc with hc | ⟨hd, hc⟩ | ⟨hd, hc⟩
  all_goals
    go_enter Tryz.func195, Tryz.ntmps195
    go_wp2
    go_ret2
    exact ⟨rfl, rfl⟩
set_option maxHeartbeats 1000000 in
theorem rratio_no1 (n : Int) (hn : -9223372036854775807 ≤ n) (d h : Int) (w : World) (hb : 0 ≤ h ∧ h ≤ 5) (hd : 1 ≤ d) :
    Calls Tryz.prog 195 #[.int .i64 (-9223372036854775808), .int .i64 n, .int .i64 d, .int .i64 h] w fun e w' => e = .returned (.tuple #[.int .i64 0, .int .i64 10]) ∧ w' = w := by
  go_enter Tryz.func195, Tryz.ntmps195
  go_wp2_with fail
  refine (is_no _).mono ?_
  rintro e w' ⟨rfl, hw⟩
  subst hw
  go_wp2_with fail
  refine (is_yes _ _ (by omega)).mono ?_
  rintro e w' ⟨rfl, hw⟩
  subst hw
  go_wp2
  go_ret2
  exact ⟨rfl, rfl⟩
set_option maxHeartbeats 1000000 in
theorem rratio_no2 (a : Int) (ha : -9223372036854775807 ≤ a) (d h : Int) (w : World) (hb : 0 ≤ h ∧ h ≤ 5) (hd : 1 ≤ d) :
    Calls Tryz.prog 195 #[.int .i64 a, .int .i64 (-9223372036854775808), .int .i64 d, .int .i64 h] w fun e w' => e = .returned (.tuple #[.int .i64 0, .int .i64 10]) ∧ w' = w := by
  go_enter Tryz.func195, Tryz.ntmps195
  go_wp2_with fail
  refine (is_yes _ _ (by omega)).mono ?_
  rintro e w' ⟨rfl, hw⟩
  subst hw
  go_wp2_with fail
  refine (is_no _).mono ?_
  rintro e w' ⟨rfl, hw⟩
  subst hw
  go_wp2
  go_ret2
  exact ⟨rfl, rfl⟩
set_option maxHeartbeats 1000000 in
theorem rratio_no3  (d h : Int) (w : World) (hb : 0 ≤ h ∧ h ≤ 5) (hd : 1 ≤ d) :
    Calls Tryz.prog 195 #[.int .i64 (-9223372036854775808), .int .i64 (-9223372036854775808), .int .i64 d, .int .i64 h] w fun e w' => e = .returned (.tuple #[.int .i64 0, .int .i64 10]) ∧ w' = w := by
  go_enter Tryz.func195, Tryz.ntmps195
  go_wp2_with fail
  refine (is_no _).mono ?_
  rintro e w' ⟨rfl, hw⟩
  subst hw
  go_wp2_with fail
  refine (is_no _).mono ?_
  rintro e w' ⟨rfl, hw⟩
  subst hw
  go_wp2
  go_ret2
  exact ⟨rfl, rfl⟩
theorem same_below {w w' : World} (h : w' = w) : Below w.heap.size w w' := by rw [h]; exact Below.refl _ _
theorem ratioSpec_arg {a n d h : Int} (hc : d < 1 ∨ h < 0 ∨ 5 < h) : ratioSpec a n d h = (0, 1) := by simp [ratioSpec, hc]
theorem ratioSpec_bad {a n d h : Int} (hc : ¬ (d < 1 ∨ h < 0 ∨ 5 < h)) (hm : isMin a = true ∨ isMin n = true) : ratioSpec a n d h = (0, 10) := by
  unfold ratioSpec
  rw [if_neg hc]
  rcases hm with hm | hm <;> simp [hm]
theorem ratioSpec_fits {a n d h : Int} (hc : ¬ (d < 1 ∨ h < 0 ∨ 5 < h)) (h1 : isMin a = false) (h2 : isMin n = false) (q : Nat) (hq : rq h (opp a n) (a.natAbs * n.natAbs) d.natAbs = q) (hf : q < 9223372036854775808) : ratioSpec a n d h = (if opp a n then -(q : Int) else q, 0) := by
  unfold ratioSpec
  rw [if_neg hc, h1, h2, hq]
  simp [hf]
theorem ratioSpec_over {a n d h : Int} (hc : ¬ (d < 1 ∨ h < 0 ∨ 5 < h)) (h1 : isMin a = false) (h2 : isMin n = false) (hf : 9223372036854775808 ≤ rq h (opp a n) (a.natAbs * n.natAbs) d.natAbs) : ratioSpec a n d h = (0, 11) := by
  unfold ratioSpec
  rw [if_neg hc, h1, h2]
  have : ¬ rq h (opp a n) (a.natAbs * n.natAbs) d.natAbs < 9223372036854775808 := by omega
  simp [this]
theorem divide_any (a n d : Int) (D : Nat) (hD : d = (D : Int)) (hD0 : 0 < D) (hD1 : D ≤ 9223372036854775807) (ha : a.natAbs ≤ 9223372036854775807) (hn : n.natAbs ≤ 9223372036854775807) (T : Nat) (hT : a.natAbs * n.natAbs = T) :
    (T / D ≤ 9223372036854775807 → ∀ W, Calls Tryz.prog 235 #[.int .u64 (a.natAbs : Int), .int .u64 (n.natAbs : Int), .int .u64 d] W fun e w' => e = .returned (.tuple #[.agg #[.int .u64 ((T / D : Nat) : Int), .int .u64 ((T % D : Nat) : Int), .int .u64 D, .bool false], .int .i64 0]) ∧ Below W.heap.size W w') ∧
    (9223372036854775807 < T / D → ∀ W, Calls Tryz.prog 235 #[.int .u64 (a.natAbs : Int), .int .u64 (n.natAbs : Int), .int .u64 d] W fun e w' => e = .returned (.tuple #[.agg #[.int .u64 0, .int .u64 0, .int .u64 0, .bool false], .int .i64 11]) ∧ Below W.heap.size W w') := by
  subst hD
  have hx : a.natAbs < 18446744073709551616 := by omega
  have hy : n.natAbs < 18446744073709551616 := by omega
  have hN : T / 18446744073709551616 * 18446744073709551616 + T % 18446744073709551616 = T := by omega
  have hl : T % 18446744073709551616 < 18446744073709551616 := Nat.mod_lt _ (by decide)
  by_cases hc : D ≤ T / 18446744073709551616
  · have hbig : 9223372036854775807 < T / D := by
      have h1 : D * 18446744073709551616 ≤ T := by
        have := Nat.mul_le_mul_right 18446744073709551616 hc
        omega
      have h2 : 18446744073709551616 ≤ T / D := by rw [Nat.le_div_iff_mul_le hD0, Nat.mul_comm]; exact h1
      omega
    refine ⟨fun h => by omega, fun _ W => ?_⟩
    exact divide_high a.natAbs n.natAbs D _ _ W hx hy (by show _ = _; rw [hT]) rfl (by omega)
  · refine ⟨fun h W => ?_, fun h W => ?_⟩
    · exact divide_ok a.natAbs n.natAbs D (T / 18446744073709551616) (T % 18446744073709551616) (T / D) (T % D) W hx hy (by show _ = _; rw [hT]) (by show _ = _; rw [hT]) (by omega) (by omega) (fun W2 => div64_any _ _ D _ _ W2 hl (by omega) (by omega) (by rw [hN]) (by rw [hN]))
    · exact divide_over a.natAbs n.natAbs D (T / 18446744073709551616) (T % 18446744073709551616) (T / D) (T % D) W hx hy (by show _ = _; rw [hT]) (by show _ = _; rw [hT]) (by omega) (by omega) (fun W2 => div64_any _ _ D _ _ W2 hl (by omega) (by omega) (by rw [hN]) (by rw [hN]))
theorem mratio_any (a n d h : Int) (w : World) (ha : -9223372036854775808 ≤ a) (hn : -9223372036854775808 ≤ n) (ha' : a ≤ 9223372036854775807) (hn' : n ≤ 9223372036854775807) (hd' : d ≤ 9223372036854775807) (hh : -9223372036854775808 ≤ h ∧ h ≤ 9223372036854775807) :
    Calls Tryz.prog 190 #[.int .i64 a, .int .i64 n, .int .i64 d, .int .i64 h] w fun e w' => e = .returned (.tuple #[.int .i64 (ratioSpec a n d h).1, .int .i64 (ratioSpec a n d h).2]) ∧ Below w.heap.size w w' := by
  by_cases hc : d < 1 ∨ h < 0 ∨ 5 < h
  · rw [ratioSpec_arg hc]
    by_cases hd : d < 1
    · exact mratio_arg1 a n d h w hh hd
    · exact mratio_arg2 a n d h w hh (by omega) (by omega)
  · rcases minCases a n with hm | ⟨m1, m2⟩
    · rw [ratioSpec_bad hc hm]
      exact mratio_bad a n d h w (by omega) (by omega) ha hn hm
    · have n1 := noMin m1
      have n2 := noMin m2
      obtain ⟨D, hD⟩ : ∃ D : Nat, d = (D : Int) := ⟨d.toNat, by omega⟩
      have eD : d.natAbs = D := by omega
      obtain ⟨T, hT⟩ : ∃ T, a.natAbs * n.natAbs = T := ⟨_, rfl⟩
      have dv := divide_any a n d D hD (by omega) (by omega) (by omega) (by omega) T hT
      have hrl : T % D < D := Nat.mod_lt _ (by omega)
      by_cases hq : T / D ≤ 9223372036854775807
      · have hdv := dv.1 hq
        have key : ∀ v c, (∀ W, Calls Tryz.prog 237 #[.int .u64 ((rq h (opp a n) T D : Nat) : Int), .bool (opp a n)] W fun e w' => e = .returned (.tuple #[.int .i64 v, .int .i64 c]) ∧ w' = W) → Calls Tryz.prog 190 #[.int .i64 a, .int .i64 n, .int .i64 d, .int .i64 h] w fun e w' => e = .returned (.tuple #[.int .i64 v, .int .i64 c]) ∧ Below w.heap.size w w' := by
          intro v c hsg
          unfold rq at hsg
          have h6 : h = 0 ∨ h = 1 ∨ h = 2 ∨ h = 3 ∨ h = 4 ∨ h = 5 := by omega
          cases hst : stepB h (opp a n) (T / D) (T % D) D
          · rw [hst] at hsg
            simp only [Bool.false_eq_true, if_false] at hsg
            rcases h6 with rfl | rfl | rfl | rfl | rfl | rfl
            · exact mratio0_f a n d (T / D) (T % D) D _ v c w (by omega) (by omega) ha' hn' (by omega) hd' hD hq hrl (by omega) rfl hst hdv hsg
            · exact mratio1_f a n d (T / D) (T % D) D _ v c w (by omega) (by omega) ha' hn' (by omega) hd' hD hq hrl (by omega) rfl hst hdv hsg
            · exact mratio2_f a n d (T / D) (T % D) D _ v c w (by omega) (by omega) ha' hn' (by omega) hd' hD hq hrl (by omega) rfl hst hdv hsg
            · exact mratio3_f a n d (T / D) (T % D) D _ v c w (by omega) (by omega) ha' hn' (by omega) hd' hD hq hrl (by omega) rfl hst hdv hsg
            · exact mratio4_f a n d (T / D) (T % D) D _ v c w (by omega) (by omega) ha' hn' (by omega) hd' hD hq hrl (by omega) rfl hst hdv hsg
            · exact mratio5_f a n d (T / D) (T % D) D _ v c w (by omega) (by omega) ha' hn' (by omega) hd' hD hq hrl (by omega) rfl hst hdv hsg
          · rw [hst] at hsg
            simp only [if_true] at hsg
            rcases h6 with rfl | rfl | rfl | rfl | rfl | rfl
            · exact mratio0_t a n d (T / D) (T % D) D _ v c w (by omega) (by omega) ha' hn' (by omega) hd' hD hq hrl (by omega) rfl hst hdv hsg
            · exact mratio1_t a n d (T / D) (T % D) D _ v c w (by omega) (by omega) ha' hn' (by omega) hd' hD hq hrl (by omega) rfl hst hdv hsg
            · exact mratio2_t a n d (T / D) (T % D) D _ v c w (by omega) (by omega) ha' hn' (by omega) hd' hD hq hrl (by omega) rfl hst hdv hsg
            · exact mratio3_t a n d (T / D) (T % D) D _ v c w (by omega) (by omega) ha' hn' (by omega) hd' hD hq hrl (by omega) rfl hst hdv hsg
            · exact mratio4_t a n d (T / D) (T % D) D _ v c w (by omega) (by omega) ha' hn' (by omega) hd' hD hq hrl (by omega) rfl hst hdv hsg
            · exact mratio5_t a n d (T / D) (T % D) D _ v c w (by omega) (by omega) ha' hn' (by omega) hd' hD hq hrl (by omega) rfl hst hdv hsg
        by_cases hf : rq h (opp a n) T D < 9223372036854775808
        · rw [ratioSpec_fits hc m1 m2 _ (by rw [hT, eD]) hf]
          exact key _ _ (fun W => signed_fits _ _ W (by omega))
        · rw [ratioSpec_over hc m1 m2 (by rw [hT, eD]; omega)]
          exact key _ _ (fun W => signed_over _ _ W (by omega))
      · have hbig : 9223372036854775808 ≤ rq h (opp a n) T D := by unfold rq; split <;> omega
        rw [ratioSpec_over hc m1 m2 (by rw [hT, eD]; exact hbig)]
        exact mratio_over a n d h w (by omega) (by omega) hd' (by omega) (by omega) ha' hn' (dv.2 (by omega))
end Go.Proofs.YtcafhmlpmbkhkaaGreatDoor.Mw
namespace Go.Proofs.YtcafhmlpmbkhkaaGreatDoor.Mw
open Go.ChangeShapes Go.WideShapes Go.ChangeAt Go.RowKit
set_option linter.unusedVariables false
theorem odd_dg (Q : Nat) : (dg Q 0 % 2 == 1) = decide (Q % 2 = 1) := by
  unfold dg
  simp only [Nat.pow_zero, Nat.div_one]
  rw [Bool.eq_iff_iff]
  simp only [beq_iff_eq, decide_eq_true_eq]
  omega
theorem up_any (h : Int) (o : Bool) (Q R D : Nat) (hh : 0 ≤ h ∧ h ≤ 5) (f1 : R + R < 4294967296 ^ 6) (f2 : D < 4294967296 ^ 6) (w : World) :
    Calls Tryz.prog 242 #[.int .i64 h, .bool o, wv Q, wv R, wv D] w fun e w' => e = .returned (.bool (awayB h o Q R D)) ∧ Below w.heap.size w w' := by
  have : h = 0 ∨ h = 1 ∨ h = 2 ∨ h = 3 ∨ h = 4 ∨ h = 5 := by omega
  rcases this with rfl | rfl | rfl | rfl | rfl | rfl
  · exact up0 o Q R D _ _ _ rfl rfl rfl f1 f2 w
  · exact up1 o Q R D _ _ _ rfl rfl rfl f1 f2 w
  · exact up2 o Q R D _ _ _ rfl rfl rfl f1 f2 w
  · exact up3 o Q R D _ _ _ rfl rfl rfl f1 f2 w
  · exact up4 o Q R D _ _ _ rfl rfl rfl f1 f2 w
  · have := up5 o Q R D _ _ _ rfl rfl (odd_dg Q) f1 f2 w
    exact this
theorem rq_zero {h : Int} {o : Bool} {T D : Nat} (hz : T % D = 0) : rq h o T D = T / D := by simp [rq, stepB, hz]
theorem rq_stay {h : Int} {o : Bool} {T D : Nat} (ha : awayB h o (T / D) (T % D) D = false) : rq h o T D = T / D := by simp [rq, stepB, ha]
theorem rq_away {h : Int} {o : Bool} {T D : Nat} (hz : ¬ T % D = 0) (ha : awayB h o (T / D) (T % D) D = true) : rq h o T D = T / D + 1 := by simp [rq, stepB, ha, hz]
set_option maxHeartbeats 1000000 in
theorem rratio_any (a n d h : Int) (w : World) (ha : -9223372036854775808 ≤ a) (hn : -9223372036854775808 ≤ n) (ha' : a ≤ 9223372036854775807) (hn' : n ≤ 9223372036854775807) (hd' : d ≤ 9223372036854775807) :
    Calls Tryz.prog 195 #[.int .i64 a, .int .i64 n, .int .i64 d, .int .i64 h] w fun e w' => e = .returned (.tuple #[.int .i64 (ratioSpec a n d h).1, .int .i64 (ratioSpec a n d h).2]) ∧ Below w.heap.size w w' := by
  by_cases hc : d < 1 ∨ h < 0 ∨ 5 < h
  · rw [ratioSpec_arg hc]
    exact (rratio_arg a n d h w (by omega)).mono fun e w' hh => ⟨hh.1, same_below hh.2⟩
  · have hb : 0 ≤ h ∧ h ≤ 5 := by omega
    by_cases h1 : a = -9223372036854775808
    · rw [ratioSpec_bad hc (Or.inl (isMin_yes h1))]
      subst h1
      by_cases h2 : n = -9223372036854775808
      · subst h2
        exact (rratio_no3 d h w hb (by omega)).mono fun e w' hh => ⟨hh.1, same_below hh.2⟩
      · exact (rratio_no1 n (by omega) d h w hb (by omega)).mono fun e w' hh => ⟨hh.1, same_below hh.2⟩
    · by_cases h2 : n = -9223372036854775808
      · rw [ratioSpec_bad hc (Or.inr (isMin_yes h2))]
        subst h2
        exact (rratio_no2 a (by omega) d h w hb (by omega)).mono fun e w' hh => ⟨hh.1, same_below hh.2⟩
      · have B1 : -9223372036854775807 ≤ a := by omega
        have B2 : -9223372036854775807 ≤ n := by omega
        have B3 : 1 ≤ d := by omega
        have m1 := isMin_no h1
        have m2 := isMin_no h2
        obtain ⟨T, hT⟩ : ∃ T, a.natAbs * n.natAbs = T := ⟨_, rfl⟩
        obtain ⟨D, hD⟩ : ∃ D, d.natAbs = D := ⟨_, rfl⟩
        have hD0 : 0 < D := by omega
        have hrl : T % D < D := Nat.mod_lt _ hD0
        have xa : a.natAbs < 4294967296 ^ 6 := by rw [p6n]; omega
        have xb : n.natAbs < 4294967296 ^ 6 := by rw [p6n]; omega
        have hTb : T ≤ 9223372036854775807 * 9223372036854775807 := by rw [← hT]; exact Nat.mul_le_mul (by omega) (by omega)
        have xm : T < 4294967296 ^ 6 := by rw [p6n]; exact Nat.lt_of_le_of_lt hTb (by decide)
        have xr : T % D < 4294967296 ^ 6 := by rw [p6n]; omega
        have hTD : T / D ≤ T := Nat.div_le_self _ _
        have xq : T / D + 1 < 4294967296 ^ 6 := by
          rw [p6n]
          have h3 : T + 1 < 6277101735386680763835789423207666416102355444464034512896 := Nat.lt_of_le_of_lt (Nat.add_le_add_right hTb 1) (by decide)
          omega
        have x2 : T % D + T % D < 4294967296 ^ 6 := by rw [p6n]; omega
        have xD : D < 4294967296 ^ 6 := by rw [p6n]; omega
        have hq1 : a.natAbs * n.natAbs / d.natAbs = T / D := by rw [hT, hD]
        have hr1 : a.natAbs * n.natAbs % d.natAbs = T % D := by rw [hT, hD]
        have xm' : a.natAbs * n.natAbs < 4294967296 ^ 6 := by rw [hT]; exact xm
        have hup := fun W => up_any h (opp a n) (T / D) (T % D) d.natAbs hb x2 (by rw [hD]; exact xD) W
        have keyT : ∀ v, (∀ W, Calls Tryz.prog 148 #[wv (rq h (opp a n) T D), .bool (opp a n)] W fun e w' => e = .returned (.tuple #[.int .i64 v, .bool true]) ∧ Below W.heap.size W w') → Calls Tryz.prog 195 #[.int .i64 a, .int .i64 n, .int .i64 d, .int .i64 h] w fun e w' => e = .returned (.tuple #[.int .i64 v, .int .i64 0]) ∧ Below w.heap.size w w' := by
          intro v ham
          by_cases hz : T % D = 0
          · rw [rq_zero hz] at ham
            exact rratio_zero_t a n d h _ _ (T / D) (T % D) v w hb.1 hb.2 B1 B2 ha' hn' B3 hd' xa xb xm' xr xq rfl rfl (opp a n) rfl hq1 hr1 hz ham
          · cases haw : awayB h (opp a n) (T / D) (T % D) D
            · rw [rq_stay haw] at ham
              have haw' : awayB h (opp a n) (T / D) (T % D) d.natAbs = false := by rw [hD]; exact haw
              simp only [haw'] at hup
              exact rratio_stay_t a n d h _ _ (T / D) (T % D) v w hb.1 hb.2 B1 B2 ha' hn' B3 hd' xa xb xm' xr xq rfl rfl (opp a n) rfl hq1 hr1 hz hup ham
            · rw [rq_away hz haw] at ham
              have haw' : awayB h (opp a n) (T / D) (T % D) d.natAbs = true := by rw [hD]; exact haw
              simp only [haw'] at hup
              exact rratio_away_t a n d h _ _ (T / D) (T % D) v w hb.1 hb.2 B1 B2 ha' hn' B3 hd' xa xb xm' xr xq rfl rfl (opp a n) rfl hq1 hr1 hz hup ham
        have keyF : (∀ W, Calls Tryz.prog 148 #[wv (rq h (opp a n) T D), .bool (opp a n)] W fun e w' => e = .returned (.tuple #[.int .i64 0, .bool false]) ∧ Below W.heap.size W w') → Calls Tryz.prog 195 #[.int .i64 a, .int .i64 n, .int .i64 d, .int .i64 h] w fun e w' => e = .returned (.tuple #[.int .i64 0, .int .i64 11]) ∧ Below w.heap.size w w' := by
          intro ham
          by_cases hz : T % D = 0
          · rw [rq_zero hz] at ham
            exact rratio_zero_f a n d h _ _ (T / D) (T % D) 0 w hb.1 hb.2 B1 B2 ha' hn' B3 hd' xa xb xm' xr xq rfl rfl (opp a n) rfl hq1 hr1 hz ham
          · cases haw : awayB h (opp a n) (T / D) (T % D) D
            · rw [rq_stay haw] at ham
              have haw' : awayB h (opp a n) (T / D) (T % D) d.natAbs = false := by rw [hD]; exact haw
              simp only [haw'] at hup
              exact rratio_stay_f a n d h _ _ (T / D) (T % D) 0 w hb.1 hb.2 B1 B2 ha' hn' B3 hd' xa xb xm' xr xq rfl rfl (opp a n) rfl hq1 hr1 hz hup ham
            · rw [rq_away hz haw] at ham
              have haw' : awayB h (opp a n) (T / D) (T % D) d.natAbs = true := by rw [hD]; exact haw
              simp only [haw'] at hup
              exact rratio_away_f a n d h _ _ (T / D) (T % D) 0 w hb.1 hb.2 B1 B2 ha' hn' B3 hd' xa xb xm' xr xq rfl rfl (opp a n) rfl hq1 hr1 hz hup ham
        by_cases hf : rq h (opp a n) T D < 9223372036854775808
        · rw [ratioSpec_fits hc m1 m2 _ (by rw [hT, hD]) hf]
          exact keyT _ (fun W => amount_fits _ hf _ W)
        · rw [ratioSpec_over hc m1 m2 (by rw [hT, hD]; omega)]
          refine keyF (fun W => amount_over _ ?_ (by omega) _ W)
          have : rq h (opp a n) T D ≤ T / D + 1 := by unfold rq; split <;> omega
          omega
end Go.Proofs.YtcafhmlpmbkhkaaGreatDoor.Mw
