import Derived.Test.YtcafhmlpmbkhkaaGreatDoorWideB
namespace Go.Proofs.YtcafhmlpmbkhkaaGreatDoor.Mw
open Go.ChangeShapes Go.WideShapes Go.ChangeAt Go.RowKit
set_option linter.unusedVariables false
attribute [local go_sem] setCell_drewN alloc_drewN

theorem hide {p : Prop} (h : p) : Hid p := h
theorem unhide {p : Prop} (h : Hid p) : p := h
theorem uw_id (a : Int) (h0 : 0 ≤ a) (h1 : a < 18446744073709551616) : IntKind.u64.wrap a = a := by
  simp only [IntKind.wrap, IntKind.bits, IntKind.signed, Bool.false_and, Bool.false_eq_true, if_false]
  omega
theorem uw_neg (a : Int) (h0 : a < 0) (h1 : -9223372036854775808 ≤ a) : IntKind.u64.wrap (-IntKind.u64.wrap a) = -a := by
  simp only [IntKind.wrap, IntKind.bits, IntKind.signed, Bool.false_and, Bool.false_eq_true, if_false]
  omega

theorem wv_small (n : Nat) (h : n < 18446744073709551616) : wv n = .agg #[.int .u64 ((n : Int) % 4294967296), .int .u64 ((n : Int) / 4294967296), .int .u64 0, .int .u64 0, .int .u64 0, .int .u64 0] := by
  have e : ∀ i, 2 ≤ i → dg n i = 0 := by
    intro i hi
    unfold dg
    have h2 : 4294967296 ^ 2 ≤ 4294967296 ^ i := Nat.pow_le_pow_right (by decide) hi
    have h3 : n < 4294967296 ^ i := by
      have : (4294967296 : Nat) ^ 2 = 18446744073709551616 := by decide
      omega
    rw [Nat.div_eq_of_lt h3]
    rfl
  have e0 : dg n 0 = (n : Int) % 4294967296 := by unfold dg; simp
  have e1 : dg n 1 = (n : Int) / 4294967296 := by unfold dg; simp only [Nat.pow_one]; omega
  unfold wv
  rw [e0, e1, e 2 (by omega), e 3 (by omega), e 4 (by omega), e 5 (by omega)]

theorem of_math (v : Int) (n : Nat) (h0 : v = n) (h1 : n < 18446744073709551616) : Value.agg #[.int .u64 (v.tmod 4294967296), .int .u64 (IntKind.u64.wrap (v.tdiv 4294967296)), .int .u64 0, .int .u64 0, .int .u64 0, .int .u64 0] = wv n := by
  subst h0
  rw [wv_small n h1]
  have e1 : ((n : Int)).tmod 4294967296 = (n : Int) % 4294967296 := Int.tmod_eq_emod_of_nonneg (by omega)
  have e2 : ((n : Int)).tdiv 4294967296 = (n : Int) / 4294967296 := Int.tdiv_eq_ediv_of_nonneg (by omega)
  rw [e1, e2, uw_id _ (by omega) (by omega)]

set_option maxHeartbeats 400000 in
theorem of_any (a : Int) (w : World) (h0 : -9223372036854775808 ≤ a) (h1 : a ≤ 9223372036854775807) :
    Calls Tryz.prog 145 #[.int .i64 a] w fun e w' => e = .returned (wv a.natAbs) ∧ Below w.heap.size w w' := by
  by_cases hn : a < 0
  · have e := of_math (IntKind.u64.wrap (-IntKind.u64.wrap a)) a.natAbs (by rw [uw_neg a hn h0]; omega) (by omega)
    have E := hide e
    clear e
    go_enter Tryz.func145, Tryz.ntmps145
    go_wp2
    exact bodyPost_ret (v := .agg #[.int .u64 ((IntKind.u64.wrap (-IntKind.u64.wrap a)).tmod 4294967296), .int .u64 (IntKind.u64.wrap ((IntKind.u64.wrap (-IntKind.u64.wrap a)).tdiv 4294967296)), .int .u64 0, .int .u64 0, .int .u64 0, .int .u64 0]) (by simp [results, Tryz.results145, go_sem]) rfl ⟨by rw [unhide E], by repeat (first | exact Below.refl _ _ | apply below_drewN | apply bal)⟩
  · have e : Value.agg #[.int .u64 (a % 4294967296), .int .u64 (a / 4294967296), .int .u64 0, .int .u64 0, .int .u64 0, .int .u64 0] = wv a.natAbs := by
      rw [wv_small a.natAbs (by omega)]
      have : ((a.natAbs : Nat) : Int) = a := by omega
      rw [this]
    have E := hide e
    clear e
    go_enter Tryz.func145, Tryz.ntmps145
    go_wp2
    exact bodyPost_ret (v := .agg #[.int .u64 (a % 4294967296), .int .u64 (a / 4294967296), .int .u64 0, .int .u64 0, .int .u64 0, .int .u64 0]) (by simp [results, Tryz.results145, go_sem]) rfl ⟨by rw [unhide E], by repeat (first | exact Below.refl _ _ | apply below_drewN | apply bal)⟩

/-- the digits of what fits -/
theorem dg_fits (n : Nat) (h : n < 9223372036854775808) : dg n 1 < 2147483648 ∧ dg n 2 = 0 ∧ dg n 3 = 0 ∧ dg n 4 = 0 ∧ dg n 5 = 0 ∧ dg n 1 * 4294967296 + dg n 0 = n := by
  have e := wv_small n (by omega)
  unfold wv at e
  injection e with e
  injection e with e
  simp only [List.cons.injEq, Value.int.injEq, true_and, and_true] at e
  obtain ⟨e0, e1, e2, e3, e4, e5⟩ := e
  refine ⟨?_, e2, e3, e4, e5, ?_⟩ <;> omega

/-- .. and of what does not -/
theorem dg_over (n : Nat) (hn : n < 4294967296 ^ 6) (h : 9223372036854775808 ≤ n) (h1 : dg n 1 < 2147483648) (h2 : dg n 2 = 0) (h3 : dg n 3 = 0) (h4 : dg n 4 = 0) (h5 : dg n 5 = 0) : False := by
  have e := sm_dg6 n hn
  have d0 := digs_dg n 0
  have d1 := digs_dg n 1
  simp only [sm, h2, h3, h4, h5, Int.zero_mul, Int.add_zero, show (4294967296 : Int) ^ 0 = 1 from rfl, show (4294967296 : Int) ^ 1 = 4294967296 from by decide] at e
  omega

set_option maxHeartbeats 1000000 in
theorem amount_raw (x : Nat → Int) (m : Bool) (hx : digs x) (w : World) (h1 : x 1 < 2147483648) (h2 : (x 2 != 0) = false) (h3 : (x 3 != 0) = false) (h4 : (x 4 != 0) = false) (h5 : (x 5 != 0) = false) :
    Calls Tryz.prog 148 #[.agg #[.int .u64 (x 0), .int .u64 (x 1), .int .u64 (x 2), .int .u64 (x 3), .int .u64 (x 4), .int .u64 (x 5)], .bool m] w fun e w' => e = .returned (.tuple #[.int .i64 (if m then -(x 1 * 4294967296 + x 0) else x 1 * 4294967296 + x 0), .bool true]) ∧ Below w.heap.size w w' := by
  have ⟨a0, b0⟩ := hx 0
  have ⟨a1, b1⟩ := hx 1
  cases m
  · go_enter Tryz.func148, Tryz.ntmps148
    go_wp2
    go_ret2
    exact ⟨rfl, by repeat (first | exact Below.refl _ _ | apply below_drewN | apply bal)⟩
  · go_enter Tryz.func148, Tryz.ntmps148
    go_wp2
    go_ret2
    exact ⟨rfl, by repeat (first | exact Below.refl _ _ | apply below_drewN | apply bal)⟩

theorem amount_fits (n : Nat) (h : n < 9223372036854775808) (m : Bool) (w : World) :
    Calls Tryz.prog 148 #[wv n, .bool m] w fun e w' => e = .returned (.tuple #[.int .i64 (if m then -(n : Int) else n), .bool true]) ∧ Below w.heap.size w w' := by
  obtain ⟨h1, h2, h3, h4, h5, e⟩ := dg_fits n h
  unfold wv
  refine (amount_raw (dg n) m (digs_dg n) w h1 (by rw [h2]; rfl) (by rw [h3]; rfl) (by rw [h4]; rfl) (by rw [h5]; rfl)).mono fun e' w' hh => ?_
  rw [e] at hh
  exact hh

set_option maxHeartbeats 2000000 in
theorem amount_over (n : Nat) (hn : n < 4294967296 ^ 6) (h : 9223372036854775808 ≤ n) (m : Bool) (w : World) :
    Calls Tryz.prog 148 #[wv n, .bool m] w fun e w' => e = .returned (.tuple #[.int .i64 0, .bool false]) ∧ Below w.heap.size w w' := by
  have H := hide (dg_over n hn h)
  unfold wv
  clear h hn
  have ⟨a0, b0⟩ := digs_dg n 0
  have ⟨a1, b1⟩ := digs_dg n 1
  by_cases h1 : dg n 1 < 2147483648
  · by_cases h2 : dg n 2 = 0
    · by_cases h3 : dg n 3 = 0
      · by_cases h4 : dg n 4 = 0
        · by_cases h5 : dg n 5 = 0
          · exact ((unhide H) h1 h2 h3 h4 h5).elim
          · have g2 : (dg n 2 != 0) = false := by rw [h2]; rfl
            have g3 : (dg n 3 != 0) = false := by rw [h3]; rfl
            have g4 : (dg n 4 != 0) = false := by rw [h4]; rfl
            have g5 : (dg n 5 != 0) = true := by rw [bne_iff_ne]; exact h5
            clear h2 h3 h4 h5 H
            go_enter Tryz.func148, Tryz.ntmps148
            go_wp2
            go_ret2
            exact ⟨rfl, by repeat (first | exact Below.refl _ _ | apply below_drewN | apply bal)⟩
        · have g2 : (dg n 2 != 0) = false := by rw [h2]; rfl
          have g3 : (dg n 3 != 0) = false := by rw [h3]; rfl
          have g4 : (dg n 4 != 0) = true := by rw [bne_iff_ne]; exact h4
          clear h2 h3 h4 H
          go_enter Tryz.func148, Tryz.ntmps148
          go_wp2
          go_ret2
          exact ⟨rfl, by repeat (first | exact Below.refl _ _ | apply below_drewN | apply bal)⟩
      · have g2 : (dg n 2 != 0) = false := by rw [h2]; rfl
        have g3 : (dg n 3 != 0) = true := by rw [bne_iff_ne]; exact h3
        clear h2 h3 H
        go_enter Tryz.func148, Tryz.ntmps148
        go_wp2
        go_ret2
        exact ⟨rfl, by repeat (first | exact Below.refl _ _ | apply below_drewN | apply bal)⟩
    · have g2 : (dg n 2 != 0) = true := by rw [bne_iff_ne]; exact h2
      clear h2 H
      go_enter Tryz.func148, Tryz.ntmps148
      go_wp2
      go_ret2
      exact ⟨rfl, by repeat (first | exact Below.refl _ _ | apply below_drewN | apply bal)⟩
  · clear H
    go_enter Tryz.func148, Tryz.ntmps148
    go_wp2
    go_ret2
    exact ⟨rfl, by repeat (first | exact Below.refl _ _ | apply below_drewN | apply bal)⟩
end Go.Proofs.YtcafhmlpmbkhkaaGreatDoor.Mw
