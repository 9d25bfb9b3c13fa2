import Derived.Test.YtddpladmkmpoaaaRatE
namespace Go.Proofs.Ytddpladmkmpoaaa
open Go.ChangeShapes Go.WideShapes Go.ChangeAt Go.RowKit
set_option linter.unusedVariables false

theorem odd_dg (Q : Nat) : (dg Q 0 % 2 == 1) = decide (Q % 2 = 1) := by
  unfold dg
  simp only [Nat.pow_zero, Nat.div_one]
  rw [Bool.eq_iff_iff]
  simp only [beq_iff_eq, decide_eq_true_eq]
  omega
theorem up_any (h : Int) (o : Bool) (Q R D : Nat) (hh : 0 ≤ h ∧ h ≤ 5) (f1 : R + R < 4294967296 ^ 6) (f2 : D < 4294967296 ^ 6) (w : World) :
    Calls Try.prog 43 #[.int .i64 h, .bool o, wv Q, wv R, wv D] w fun e w' => e = .returned (.bool (awayB h o Q R D)) ∧ Below w.heap.size w w' := by
  have : h = 0 ∨ h = 1 ∨ h = 2 ∨ h = 3 ∨ h = 4 ∨ h = 5 := by omega
  rcases this with rfl | rfl | rfl | rfl | rfl | rfl
  · exact up0 o Q R D _ _ _ rfl rfl rfl f1 f2 w
  · exact up1 o Q R D _ _ _ rfl rfl rfl f1 f2 w
  · exact up2 o Q R D _ _ _ rfl rfl rfl f1 f2 w
  · exact up3 o Q R D _ _ _ rfl rfl rfl f1 f2 w
  · exact up4 o Q R D _ _ _ rfl rfl rfl f1 f2 w
  · have := up5 o Q R D _ _ _ rfl rfl (odd_dg Q) f1 f2 w
    exact this

theorem rq_zero {h : Int} {o : Bool} {T D : Nat} (hz : T % D = 0) : rq h o T D = T / D := by simp [rq, stepB, hz]
theorem rq_stay {h : Int} {o : Bool} {T D : Nat} (ha : awayB h o (T / D) (T % D) D = false) : rq h o T D = T / D := by simp [rq, stepB, ha]
theorem rq_away {h : Int} {o : Bool} {T D : Nat} (hz : ¬ T % D = 0) (ha : awayB h o (T / D) (T % D) D = true) : rq h o T D = T / D + 1 := by simp [rq, stepB, ha, hz]
set_option maxHeartbeats 1000000 in
theorem rratio_any (a n d h : Int) (w : World) (ha : -9223372036854775808 ≤ a) (hn : -9223372036854775808 ≤ n) (ha' : a ≤ 9223372036854775807) (hn' : n ≤ 9223372036854775807) (hd' : d ≤ 9223372036854775807) :
    Calls Try.prog 22 #[.int .i64 a, .int .i64 n, .int .i64 d, .int .i64 h] w fun e w' => e = .returned (.tuple #[.int .i64 (ratioSpec a n d h).1, .int .i64 (ratioSpec a n d h).2]) ∧ Below w.heap.size w w' := by
  by_cases hc : d < 1 ∨ h < 0 ∨ 5 < h
  · rw [ratioSpec_arg hc]
    exact (rratio_arg a n d h w (by omega)).mono fun e w' hh => ⟨hh.1, same_below hh.2⟩
  · have hb : 0 ≤ h ∧ h ≤ 5 := by omega
    by_cases h1 : a = -9223372036854775808
    · rw [ratioSpec_bad hc (Or.inl (isMin_yes h1))]
      subst h1
      by_cases h2 : n = -9223372036854775808
      · subst h2
        exact (rratio_no3 d h w hb (by omega)).mono fun e w' hh => ⟨hh.1, same_below hh.2⟩
      · exact (rratio_no1 n (by omega) d h w hb (by omega)).mono fun e w' hh => ⟨hh.1, same_below hh.2⟩
    · by_cases h2 : n = -9223372036854775808
      · rw [ratioSpec_bad hc (Or.inr (isMin_yes h2))]
        subst h2
        exact (rratio_no2 a (by omega) d h w hb (by omega)).mono fun e w' hh => ⟨hh.1, same_below hh.2⟩
      · have B1 : -9223372036854775807 ≤ a := by omega
        have B2 : -9223372036854775807 ≤ n := by omega
        have B3 : 1 ≤ d := by omega
        have m1 := isMin_no h1
        have m2 := isMin_no h2
        obtain ⟨T, hT⟩ : ∃ T, a.natAbs * n.natAbs = T := ⟨_, rfl⟩
        obtain ⟨D, hD⟩ : ∃ D, d.natAbs = D := ⟨_, rfl⟩
        have hD0 : 0 < D := by omega
        have hrl : T % D < D := Nat.mod_lt _ hD0
        have xa : a.natAbs < 4294967296 ^ 6 := by rw [p6n]; omega
        have xb : n.natAbs < 4294967296 ^ 6 := by rw [p6n]; omega
        have hTb : T ≤ 9223372036854775807 * 9223372036854775807 := by rw [← hT]; exact Nat.mul_le_mul (by omega) (by omega)
        have xm : T < 4294967296 ^ 6 := by rw [p6n]; exact Nat.lt_of_le_of_lt hTb (by decide)
        have xr : T % D < 4294967296 ^ 6 := by rw [p6n]; omega
        have hTD : T / D ≤ T := Nat.div_le_self _ _
        have xq : T / D + 1 < 4294967296 ^ 6 := by
          rw [p6n]
          have h3 : T + 1 < 6277101735386680763835789423207666416102355444464034512896 := Nat.lt_of_le_of_lt (Nat.add_le_add_right hTb 1) (by decide)
          omega
        have x2 : T % D + T % D < 4294967296 ^ 6 := by rw [p6n]; omega
        have xD : D < 4294967296 ^ 6 := by rw [p6n]; omega
        have hq1 : a.natAbs * n.natAbs / d.natAbs = T / D := by rw [hT, hD]
        have hr1 : a.natAbs * n.natAbs % d.natAbs = T % D := by rw [hT, hD]
        have xm' : a.natAbs * n.natAbs < 4294967296 ^ 6 := by rw [hT]; exact xm
        have hup := fun W => up_any h (opp a n) (T / D) (T % D) d.natAbs hb x2 (by rw [hD]; exact xD) W
        have keyT : ∀ v, (∀ W, Calls Try.prog 33 #[wv (rq h (opp a n) T D), .bool (opp a n)] W fun e w' => e = .returned (.tuple #[.int .i64 v, .bool true]) ∧ Below W.heap.size W w') → Calls Try.prog 22 #[.int .i64 a, .int .i64 n, .int .i64 d, .int .i64 h] w fun e w' => e = .returned (.tuple #[.int .i64 v, .int .i64 0]) ∧ Below w.heap.size w w' := by
          intro v ham
          by_cases hz : T % D = 0
          · rw [rq_zero hz] at ham
            exact rratio_zero_t a n d h _ _ (T / D) (T % D) v w hb.1 hb.2 B1 B2 ha' hn' B3 hd' xa xb xm' xr xq rfl rfl (opp a n) rfl hq1 hr1 hz ham
          · cases haw : awayB h (opp a n) (T / D) (T % D) D
            · rw [rq_stay haw] at ham
              have haw' : awayB h (opp a n) (T / D) (T % D) d.natAbs = false := by rw [hD]; exact haw
              simp only [haw'] at hup
              exact rratio_stay_t a n d h _ _ (T / D) (T % D) v w hb.1 hb.2 B1 B2 ha' hn' B3 hd' xa xb xm' xr xq rfl rfl (opp a n) rfl hq1 hr1 hz hup ham
            · rw [rq_away hz haw] at ham
              have haw' : awayB h (opp a n) (T / D) (T % D) d.natAbs = true := by rw [hD]; exact haw
              simp only [haw'] at hup
              exact rratio_away_t a n d h _ _ (T / D) (T % D) v w hb.1 hb.2 B1 B2 ha' hn' B3 hd' xa xb xm' xr xq rfl rfl (opp a n) rfl hq1 hr1 hz hup ham
        have keyF : (∀ W, Calls Try.prog 33 #[wv (rq h (opp a n) T D), .bool (opp a n)] W fun e w' => e = .returned (.tuple #[.int .i64 0, .bool false]) ∧ Below W.heap.size W w') → Calls Try.prog 22 #[.int .i64 a, .int .i64 n, .int .i64 d, .int .i64 h] w fun e w' => e = .returned (.tuple #[.int .i64 0, .int .i64 11]) ∧ Below w.heap.size w w' := by
          intro ham
          by_cases hz : T % D = 0
          · rw [rq_zero hz] at ham
            exact rratio_zero_f a n d h _ _ (T / D) (T % D) 0 w hb.1 hb.2 B1 B2 ha' hn' B3 hd' xa xb xm' xr xq rfl rfl (opp a n) rfl hq1 hr1 hz ham
          · cases haw : awayB h (opp a n) (T / D) (T % D) D
            · rw [rq_stay haw] at ham
              have haw' : awayB h (opp a n) (T / D) (T % D) d.natAbs = false := by rw [hD]; exact haw
              simp only [haw'] at hup
              exact rratio_stay_f a n d h _ _ (T / D) (T % D) 0 w hb.1 hb.2 B1 B2 ha' hn' B3 hd' xa xb xm' xr xq rfl rfl (opp a n) rfl hq1 hr1 hz hup ham
            · rw [rq_away hz haw] at ham
              have haw' : awayB h (opp a n) (T / D) (T % D) d.natAbs = true := by rw [hD]; exact haw
              simp only [haw'] at hup
              exact rratio_away_f a n d h _ _ (T / D) (T % D) 0 w hb.1 hb.2 B1 B2 ha' hn' B3 hd' xa xb xm' xr xq rfl rfl (opp a n) rfl hq1 hr1 hz hup ham
        by_cases hf : rq h (opp a n) T D < 9223372036854775808
        · rw [ratioSpec_fits hc m1 m2 _ (by rw [hT, hD]) hf]
          exact keyT _ (fun W => amount_fits _ hf _ W)
        · rw [ratioSpec_over hc m1 m2 (by rw [hT, hD]; omega)]
          refine keyF (fun W => amount_over _ ?_ (by omega) _ W)
          have : rq h (opp a n) T D ≤ T / D + 1 := by unfold rq; split <;> omega
          omega

/-- the law's walk -/
theorem ret_bx {a b : Bool} (h : a = b) : Ending.returned (.bool a) = .returned (.bool b) := by rw [h]
set_option maxHeartbeats 2000000 in
theorem ratios_walk (a n d h : Int) (w : World) (ha : -9223372036854775808 ≤ a) (hn : -9223372036854775808 ≤ n) (ha' : a ≤ 9223372036854775807) (hn' : n ≤ 9223372036854775807) (hd' : d ≤ 9223372036854775807) (hh : -9223372036854775808 ≤ h ∧ h ≤ 9223372036854775807) :
    Calls Try.prog 5 #[.agg #[.int .i64 a, .int .i64 n, .int .i64 d, .int .i64 h]] w fun e w' => e = .returned (.bool true) ∧ Below w.heap.size w w' := by
  have HH := hide hh
  clear hh
  go_enter Try.func5, Try.ntmps5
  go_wp2_with fail
  refine (mratio_any a n d h _ (by omega) (by omega) (by omega) (by omega) (by omega) (unhide HH)).mono ?_
  rintro e w1 ⟨rfl, hb1⟩
  have c1 := bal (Below.refl w.heap.size w) (.cells #[.int .i64 a, .int .i64 n, .int .i64 d, .int .i64 h] 34)
  have C1 := hide (c1.trans (hb1.mono c1.size))
  have k0 : w1.cell? ⟨w.heap.size, 0, none⟩ = some (.int .i64 a) := keep1 hb1 (by simp) (by simp)
  have k1 : w1.cell? ⟨w.heap.size, 1, none⟩ = some (.int .i64 n) := keep1 hb1 (by simp) (by simp)
  have k2 : w1.cell? ⟨w.heap.size, 2, none⟩ = some (.int .i64 d) := keep1 hb1 (by simp) (by simp)
  have k3 : w1.cell? ⟨w.heap.size, 3, none⟩ = some (.int .i64 h) := keep1 hb1 (by simp) (by simp)
  clear c1 hb1
  go_wp2_with fail
  refine (rratio_any a n d h _ (by omega) (by omega) (by omega) (by omega) (by omega)).mono ?_
  rintro e w2 ⟨rfl, hb2⟩
  go_wp2
  go_ret
  exact ⟨ret_bx (by simp), (unhide C1).trans (hb2.mono (unhide C1).size)⟩
end Go.Proofs.Ytddpladmkmpoaaa
