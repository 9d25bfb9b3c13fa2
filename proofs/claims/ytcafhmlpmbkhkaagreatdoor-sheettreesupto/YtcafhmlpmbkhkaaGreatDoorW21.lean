import Derived.Test.YtcafhmlpmbkhkaaGreatDoorW20
namespace Go.Proofs.YtcafhmlpmbkhkaaGreatDoor.Mw
open Go.ChangeShapes Go.WideShapes Go.ChangeAt Go.RowKit
set_option linter.unusedVariables false
attribute [local go_sem] setCell_drewN alloc_drewN

theorem ret_bool {a b : Bool} (h : a = b) : Ending.returned (.bool a) = .returned (.bool b) := by rw [h]
theorem ret_ib {a b : Int} {c d : Bool} (h : a = b) (k : c = d) : Ending.returned (.tuple #[.int .i64 a, .bool c]) = .returned (.tuple #[.int .i64 b, .bool d]) := by rw [h, k]
theorem p6 : (4294967296 : Int) ^ 6 = 6277101735386680763835789423207666416102355444464034512896 := by decide
theorem p6n : 4294967296 ^ 6 = 6277101735386680763835789423207666416102355444464034512896 := by decide

set_option maxHeartbeats 2000000 in
theorem minus_raw (x y : Nat → Int) (hx : digs x) (hy : digs y) (w : World) :
    Calls Tryz.prog 147 #[.agg #[.int .u64 (x 0), .int .u64 (x 1), .int .u64 (x 2), .int .u64 (x 3), .int .u64 (x 4), .int .u64 (x 5)], .agg #[.int .u64 (y 0), .int .u64 (y 1), .int .u64 (y 2), .int .u64 (y 3), .int .u64 (y 4), .int .u64 (y 5)]] w fun e w' => ∃ (z : Nat → Int) (b : Int), e = .returned (.agg #[.int .u64 (z 0), .int .u64 (z 1), .int .u64 (z 2), .int .u64 (z 3), .int .u64 (z 4), .int .u64 (z 5)]) ∧ 0 ≤ b ∧ b ≤ 1 ∧ digs z ∧ minusRel x y z 6 b ∧ Below w.heap.size w w' := by
  go_enter Tryz.func147, Tryz.ntmps147
  go_wp2
  go_loopw [6, 7] (fun c i wr => ∃ (k : Nat) (c' : Int) (n : Nat) (z : Nat → Int), k ≤ 6 ∧ i = .int .i64 k ∧ c = .int .u64 c' ∧ 0 ≤ c' ∧ c' ≤ 1 ∧ digs z ∧ minusRel x y z k c' ∧ wr = ((((w.alloc (.cells #[.int .u64 (x 0), .int .u64 (x 1), .int .u64 (x 2), .int .u64 (x 3), .int .u64 (x 4), .int .u64 (x 5)] 202)).alloc (.cells #[.int .u64 (y 0), .int .u64 (y 1), .int .u64 (y 2), .int .u64 (y 3), .int .u64 (y 4), .int .u64 (y 5)] 202)).alloc (.cells #[.int .u64 0, .int .u64 0, .int .u64 0, .int .u64 0, .int .u64 0, .int .u64 0] 202)).alloc (.cells #[.int .u64 (z 0), .int .u64 (z 1), .int .u64 (z 2), .int .u64 (z 3), .int .u64 (z 4), .int .u64 (z 5)] 202)).drewN n) (fun _ i _ => 6 - (intOf i).toNat)
  case atStart => exact ⟨0, 0, 0, fun _ => 0, by omega, rfl, rfl, by omega, by omega, fun _ => by simp, minusRel_zero x y, rfl⟩
  case round =>
    obtain ⟨k, c', n, z, hk, rfl, rfl, hc0, hc1, hz, hr, rfl⟩ := hrel
    have hk' : k = 6 ∨ k = 0 ∨ k = 1 ∨ k = 2 ∨ k = 3 ∨ k = 4 ∨ k = 5 := by omega
    rcases hk' with rfl | hk'
    · go_wp2
      exact bodyPost_ret (v := .agg #[.int .u64 (z 0), .int .u64 (z 1), .int .u64 (z 2), .int .u64 (z 3), .int .u64 (z 4), .int .u64 (z 5)]) (by simp [results, Tryz.results147, go_sem]) rfl ⟨z, c', rfl, hc0, hc1, hz, hr, by repeat (first | exact Below.refl _ _ | apply below_drewN | apply bal)⟩
    rcases hk' with rfl | rfl | rfl | rfl | rfl | rfl
    · obtain ⟨hx0, hx1⟩ := hx 0
      obtain ⟨hy0, hy1⟩ := hy 0
      go_wp2
      go_quiet (fail)
      go_wp2
      exact ⟨⟨1, 1 - (x 0 + 4294967296 - y 0 - c') / 4294967296, n + nq, upd z 0 ((x 0 + 4294967296 - y 0 - c') % 4294967296), by omega, rfl, rfl, by omega, by omega, digs_upd hz _ _ (by omega) (by omega), minusRel_step hr _ _ _ (by omega) rfl, by simp [upd]⟩, by simp [intOf]⟩
    · obtain ⟨hx0, hx1⟩ := hx 1
      obtain ⟨hy0, hy1⟩ := hy 1
      go_wp2
      go_quiet (fail)
      go_wp2
      exact ⟨⟨2, 1 - (x 1 + 4294967296 - y 1 - c') / 4294967296, n + nq, upd z 1 ((x 1 + 4294967296 - y 1 - c') % 4294967296), by omega, rfl, rfl, by omega, by omega, digs_upd hz _ _ (by omega) (by omega), minusRel_step hr _ _ _ (by omega) rfl, by simp [upd]⟩, by simp [intOf]⟩
    · obtain ⟨hx0, hx1⟩ := hx 2
      obtain ⟨hy0, hy1⟩ := hy 2
      go_wp2
      go_quiet (fail)
      go_wp2
      exact ⟨⟨3, 1 - (x 2 + 4294967296 - y 2 - c') / 4294967296, n + nq, upd z 2 ((x 2 + 4294967296 - y 2 - c') % 4294967296), by omega, rfl, rfl, by omega, by omega, digs_upd hz _ _ (by omega) (by omega), minusRel_step hr _ _ _ (by omega) rfl, by simp [upd]⟩, by simp [intOf]⟩
    · obtain ⟨hx0, hx1⟩ := hx 3
      obtain ⟨hy0, hy1⟩ := hy 3
      go_wp2
      go_quiet (fail)
      go_wp2
      exact ⟨⟨4, 1 - (x 3 + 4294967296 - y 3 - c') / 4294967296, n + nq, upd z 3 ((x 3 + 4294967296 - y 3 - c') % 4294967296), by omega, rfl, rfl, by omega, by omega, digs_upd hz _ _ (by omega) (by omega), minusRel_step hr _ _ _ (by omega) rfl, by simp [upd]⟩, by simp [intOf]⟩
    · obtain ⟨hx0, hx1⟩ := hx 4
      obtain ⟨hy0, hy1⟩ := hy 4
      go_wp2
      go_quiet (fail)
      go_wp2
      exact ⟨⟨5, 1 - (x 4 + 4294967296 - y 4 - c') / 4294967296, n + nq, upd z 4 ((x 4 + 4294967296 - y 4 - c') % 4294967296), by omega, rfl, rfl, by omega, by omega, digs_upd hz _ _ (by omega) (by omega), minusRel_step hr _ _ _ (by omega) rfl, by simp [upd]⟩, by simp [intOf]⟩
    · obtain ⟨hx0, hx1⟩ := hx 5
      obtain ⟨hy0, hy1⟩ := hy 5
      go_wp2
      go_quiet (fail)
      go_wp2
      exact ⟨⟨6, 1 - (x 5 + 4294967296 - y 5 - c') / 4294967296, n + nq, upd z 5 ((x 5 + 4294967296 - y 5 - c') % 4294967296), by omega, rfl, rfl, by omega, by omega, digs_upd hz _ _ (by omega) (by omega), minusRel_step hr _ _ _ (by omega) rfl, by simp [upd]⟩, by simp [intOf]⟩

theorem minus_any (m n : Nat) (hm : m < 4294967296 ^ 6) (h : n ≤ m) (w : World) :
    Calls Tryz.prog 147 #[wv m, wv n] w fun e w' => e = .returned (wv (m - n)) ∧ Below w.heap.size w w' := by
  unfold wv
  refine (minus_raw (dg m) (dg n) (digs_dg m) (digs_dg n) w).mono fun e w' hh => ?_
  obtain ⟨z, c, rfl, hc0, hc1, hz, hr, hb⟩ := hh
  refine ⟨?_, hb⟩
  have hn : n < 4294967296 ^ 6 := by omega
  unfold minusRel at hr
  rw [sm_dg6 m hm, sm_dg6 n hn] at hr
  have hs := sm_nonneg hz 6
  exact ret_wv hz _ (by
    rw [p6] at hr hs
    rw [p6n] at hm
    omega)

theorem below_dec {x y : Nat → Int} (hx : digs x) (hy : digs y) (k : Nat) (hk : k < 6) (he : ∀ i, k < i → i < 6 → x i = y i) (hne : x k ≠ y k) : decide (x k < y k) = decide (sm x 6 < sm y 6) := by
  by_cases h : x k < y k
  · have := below_high hx hy k hk he h
    simp [h, this]
  · have := below_high hy hx k hk (fun i a b => (he i a b).symm) (by omega)
    have h2 : ¬ sm x 6 < sm y 6 := by omega
    simp [h, h2]

/-- is m below n? (a name that the walk does not open) -/
def ltB (m n : Nat) : Bool := decide (m < n)
def eqFrom (x y : Nat → Int) (k : Nat) : Prop := ∀ i, k ≤ i → i < 6 → x i = y i

set_option maxHeartbeats 2000000 in
theorem below_raw (x y : Nat → Int) (hx : digs x) (hy : digs y) (w : World) :
    Calls Tryz.prog 146 #[.agg #[.int .u64 (x 0), .int .u64 (x 1), .int .u64 (x 2), .int .u64 (x 3), .int .u64 (x 4), .int .u64 (x 5)], .agg #[.int .u64 (y 0), .int .u64 (y 1), .int .u64 (y 2), .int .u64 (y 3), .int .u64 (y 4), .int .u64 (y 5)]] w fun e w' => e = .returned (.bool (decide (sm x 6 < sm y 6))) ∧ Below w.heap.size w w' := by
  go_enter Tryz.func146, Tryz.ntmps146
  go_wp2
  go_loopw [5] (fun i wr => ∃ (k : Nat) (n : Nat), k ≤ 6 ∧ i = .int .i64 ((k : Int) - 1) ∧ eqFrom x y k ∧ wr = ((w.alloc (.cells #[.int .u64 (x 0), .int .u64 (x 1), .int .u64 (x 2), .int .u64 (x 3), .int .u64 (x 4), .int .u64 (x 5)] 202)).alloc (.cells #[.int .u64 (y 0), .int .u64 (y 1), .int .u64 (y 2), .int .u64 (y 3), .int .u64 (y 4), .int .u64 (y 5)] 202)).drewN n) (fun i _ => (intOf i + 1).toNat)
  case atStart => exact ⟨6, 0, by omega, rfl, fun i _ _ => by omega, rfl⟩
  case round =>
    obtain ⟨k, n, hk, rfl, hr, rfl⟩ := hrel
    have hk' : k = 0 ∨ k = 1 ∨ k = 2 ∨ k = 3 ∨ k = 4 ∨ k = 5 ∨ k = 6 := by omega
    rcases hk' with rfl | hk'
    · have he := below_same (fun i hi => hr i (by omega) hi)
      go_wp2
      go_ret
      refine ⟨ret_bool (by rw [he]; simp), by repeat (first | exact Below.refl _ _ | apply below_drewN | apply bal)⟩
    rcases hk' with rfl | rfl | rfl | rfl | rfl | rfl
    · by_cases hq : x 0 = y 0
      · have H : Hid (x 0 = y 0) := hq
        have hb : (x 0 != y 0) = false := by rw [bne_eq_false_iff_eq]; exact hq
        clear hq
        go_wp2
        go_quiet (fail)
        go_wp2
        exact ⟨⟨0, n + nq, by omega, rfl, fun j h1 h2 => by
          by_cases ej : j = 0
          · subst ej; exact H.out
          · exact hr j (by omega) h2, rfl⟩, by simp [intOf]⟩
      · have H : Hid (x 0 ≠ y 0) := hq
        have hb : (x 0 != y 0) = true := by rw [bne_iff_ne]; exact hq
        clear hq
        go_wp2
        go_quiet (fail)
        go_wp2
        go_quiet (fail)
        go_wp2
        go_ret
        refine ⟨ret_bool ?_, by repeat (first | exact Below.refl _ _ | apply below_drewN | apply bal)⟩
        exact below_dec hx hy 0 (by omega) (fun j h1 h2 => hr j (by omega) h2) H.out
    · by_cases hq : x 1 = y 1
      · have H : Hid (x 1 = y 1) := hq
        have hb : (x 1 != y 1) = false := by rw [bne_eq_false_iff_eq]; exact hq
        clear hq
        go_wp2
        go_quiet (fail)
        go_wp2
        exact ⟨⟨1, n + nq, by omega, rfl, fun j h1 h2 => by
          by_cases ej : j = 1
          · subst ej; exact H.out
          · exact hr j (by omega) h2, rfl⟩, by simp [intOf]⟩
      · have H : Hid (x 1 ≠ y 1) := hq
        have hb : (x 1 != y 1) = true := by rw [bne_iff_ne]; exact hq
        clear hq
        go_wp2
        go_quiet (fail)
        go_wp2
        go_quiet (fail)
        go_wp2
        go_ret
        refine ⟨ret_bool ?_, by repeat (first | exact Below.refl _ _ | apply below_drewN | apply bal)⟩
        exact below_dec hx hy 1 (by omega) (fun j h1 h2 => hr j (by omega) h2) H.out
    · by_cases hq : x 2 = y 2
      · have H : Hid (x 2 = y 2) := hq
        have hb : (x 2 != y 2) = false := by rw [bne_eq_false_iff_eq]; exact hq
        clear hq
        go_wp2
        go_quiet (fail)
        go_wp2
        exact ⟨⟨2, n + nq, by omega, rfl, fun j h1 h2 => by
          by_cases ej : j = 2
          · subst ej; exact H.out
          · exact hr j (by omega) h2, rfl⟩, by simp [intOf]⟩
      · have H : Hid (x 2 ≠ y 2) := hq
        have hb : (x 2 != y 2) = true := by rw [bne_iff_ne]; exact hq
        clear hq
        go_wp2
        go_quiet (fail)
        go_wp2
        go_quiet (fail)
        go_wp2
        go_ret
        refine ⟨ret_bool ?_, by repeat (first | exact Below.refl _ _ | apply below_drewN | apply bal)⟩
        exact below_dec hx hy 2 (by omega) (fun j h1 h2 => hr j (by omega) h2) H.out
    · by_cases hq : x 3 = y 3
      · have H : Hid (x 3 = y 3) := hq
        have hb : (x 3 != y 3) = false := by rw [bne_eq_false_iff_eq]; exact hq
        clear hq
        go_wp2
        go_quiet (fail)
        go_wp2
        exact ⟨⟨3, n + nq, by omega, rfl, fun j h1 h2 => by
          by_cases ej : j = 3
          · subst ej; exact H.out
          · exact hr j (by omega) h2, rfl⟩, by simp [intOf]⟩
      · have H : Hid (x 3 ≠ y 3) := hq
        have hb : (x 3 != y 3) = true := by rw [bne_iff_ne]; exact hq
        clear hq
        go_wp2
        go_quiet (fail)
        go_wp2
        go_quiet (fail)
        go_wp2
        go_ret
        refine ⟨ret_bool ?_, by repeat (first | exact Below.refl _ _ | apply below_drewN | apply bal)⟩
        exact below_dec hx hy 3 (by omega) (fun j h1 h2 => hr j (by omega) h2) H.out
    · by_cases hq : x 4 = y 4
      · have H : Hid (x 4 = y 4) := hq
        have hb : (x 4 != y 4) = false := by rw [bne_eq_false_iff_eq]; exact hq
        clear hq
        go_wp2
        go_quiet (fail)
        go_wp2
        exact ⟨⟨4, n + nq, by omega, rfl, fun j h1 h2 => by
          by_cases ej : j = 4
          · subst ej; exact H.out
          · exact hr j (by omega) h2, rfl⟩, by simp [intOf]⟩
      · have H : Hid (x 4 ≠ y 4) := hq
        have hb : (x 4 != y 4) = true := by rw [bne_iff_ne]; exact hq
        clear hq
        go_wp2
        go_quiet (fail)
        go_wp2
        go_quiet (fail)
        go_wp2
        go_ret
        refine ⟨ret_bool ?_, by repeat (first | exact Below.refl _ _ | apply below_drewN | apply bal)⟩
        exact below_dec hx hy 4 (by omega) (fun j h1 h2 => hr j (by omega) h2) H.out
    · by_cases hq : x 5 = y 5
      · have H : Hid (x 5 = y 5) := hq
        have hb : (x 5 != y 5) = false := by rw [bne_eq_false_iff_eq]; exact hq
        clear hq
        go_wp2
        go_quiet (fail)
        go_wp2
        exact ⟨⟨5, n + nq, by omega, rfl, fun j h1 h2 => by
          by_cases ej : j = 5
          · subst ej; exact H.out
          · exact hr j (by omega) h2, rfl⟩, by simp [intOf]⟩
      · have H : Hid (x 5 ≠ y 5) := hq
        have hb : (x 5 != y 5) = true := by rw [bne_iff_ne]; exact hq
        clear hq
        go_wp2
        go_quiet (fail)
        go_wp2
        go_quiet (fail)
        go_wp2
        go_ret
        refine ⟨ret_bool ?_, by repeat (first | exact Below.refl _ _ | apply below_drewN | apply bal)⟩
        exact below_dec hx hy 5 (by omega) (fun j h1 h2 => hr j (by omega) h2) H.out

theorem below_any (m n : Nat) (hm : m < 4294967296 ^ 6) (hn : n < 4294967296 ^ 6) (w : World) :
    Calls Tryz.prog 146 #[wv m, wv n] w fun e w' => e = .returned (.bool (ltB m n)) ∧ Below w.heap.size w w' := by
  unfold wv
  refine (below_raw (dg m) (dg n) (digs_dg m) (digs_dg n) w).mono fun e w' hh => ?_
  obtain ⟨rfl, hb⟩ := hh
  refine ⟨ret_bool ?_, hb⟩
  rw [sm_dg6 m hm, sm_dg6 n hn]
  unfold ltB
  by_cases h : m < n
  · simp [h]
  · simp [h]
end Go.Proofs.YtcafhmlpmbkhkaaGreatDoor.Mw
namespace Go.Proofs.YtcafhmlpmbkhkaaGreatDoor.Mw
open Go.ChangeShapes Go.WideShapes Go.ChangeAt Go.RowKit
set_option linter.unusedVariables false
attribute [local go_sem] setCell_drewN alloc_drewN

theorem hide {p : Prop} (h : p) : Hid p := h
theorem unhide {p : Prop} (h : Hid p) : p := h
theorem uw_id (a : Int) (h0 : 0 ≤ a) (h1 : a < 18446744073709551616) : IntKind.u64.wrap a = a := by
  simp only [IntKind.wrap, IntKind.bits, IntKind.signed, Bool.false_and, Bool.false_eq_true, if_false]
  omega
theorem uw_neg (a : Int) (h0 : a < 0) (h1 : -9223372036854775808 ≤ a) : IntKind.u64.wrap (-IntKind.u64.wrap a) = -a := by
  simp only [IntKind.wrap, IntKind.bits, IntKind.signed, Bool.false_and, Bool.false_eq_true, if_false]
  omega

theorem wv_small (n : Nat) (h : n < 18446744073709551616) : wv n = .agg #[.int .u64 ((n : Int) % 4294967296), .int .u64 ((n : Int) / 4294967296), .int .u64 0, .int .u64 0, .int .u64 0, .int .u64 0] := by
  have e : ∀ i, 2 ≤ i → dg n i = 0 := by
    intro i hi
    unfold dg
    have h2 : 4294967296 ^ 2 ≤ 4294967296 ^ i := Nat.pow_le_pow_right (by decide) hi
    have h3 : n < 4294967296 ^ i := by
      have : (4294967296 : Nat) ^ 2 = 18446744073709551616 := by decide
      omega
    rw [Nat.div_eq_of_lt h3]
    rfl
  have e0 : dg n 0 = (n : Int) % 4294967296 := by unfold dg; simp
  have e1 : dg n 1 = (n : Int) / 4294967296 := by unfold dg; simp only [Nat.pow_one]; omega
  unfold wv
  rw [e0, e1, e 2 (by omega), e 3 (by omega), e 4 (by omega), e 5 (by omega)]

theorem of_math (v : Int) (n : Nat) (h0 : v = n) (h1 : n < 18446744073709551616) : Value.agg #[.int .u64 (v.tmod 4294967296), .int .u64 (IntKind.u64.wrap (v.tdiv 4294967296)), .int .u64 0, .int .u64 0, .int .u64 0, .int .u64 0] = wv n := by
  subst h0
  rw [wv_small n h1]
  have e1 : ((n : Int)).tmod 4294967296 = (n : Int) % 4294967296 := Int.tmod_eq_emod_of_nonneg (by omega)
  have e2 : ((n : Int)).tdiv 4294967296 = (n : Int) / 4294967296 := Int.tdiv_eq_ediv_of_nonneg (by omega)
  rw [e1, e2, uw_id _ (by omega) (by omega)]

set_option maxHeartbeats 400000 in
theorem of_any (a : Int) (w : World) (h0 : -9223372036854775808 ≤ a) (h1 : a ≤ 9223372036854775807) :
    Calls Tryz.prog 145 #[.int .i64 a] w fun e w' => e = .returned (wv a.natAbs) ∧ Below w.heap.size w w' := by
  by_cases hn : a < 0
  · have e := of_math (IntKind.u64.wrap (-IntKind.u64.wrap a)) a.natAbs (by rw [uw_neg a hn h0]; omega) (by omega)
    have E := hide e
    clear e
    go_enter Tryz.func145, Tryz.ntmps145
    go_wp2
    exact bodyPost_ret (v := .agg #[.int .u64 ((IntKind.u64.wrap (-IntKind.u64.wrap a)).tmod 4294967296), .int .u64 (IntKind.u64.wrap ((IntKind.u64.wrap (-IntKind.u64.wrap a)).tdiv 4294967296)), .int .u64 0, .int .u64 0, .int .u64 0, .int .u64 0]) (by simp [results, Tryz.results145, go_sem]) rfl ⟨by rw [unhide E], by repeat (first | exact Below.refl _ _ | apply below_drewN | apply bal)⟩
  · have e : Value.agg #[.int .u64 (a % 4294967296), .int .u64 (a / 4294967296), .int .u64 0, .int .u64 0, .int .u64 0, .int .u64 0] = wv a.natAbs := by
      rw [wv_small a.natAbs (by omega)]
      have : ((a.natAbs : Nat) : Int) = a := by omega
      rw [this]
    have E := hide e
    clear e
    go_enter Tryz.func145, Tryz.ntmps145
    go_wp2
    exact bodyPost_ret (v := .agg #[.int .u64 (a % 4294967296), .int .u64 (a / 4294967296), .int .u64 0, .int .u64 0, .int .u64 0, .int .u64 0]) (by simp [results, Tryz.results145, go_sem]) rfl ⟨by rw [unhide E], by repeat (first | exact Below.refl _ _ | apply below_drewN | apply bal)⟩

/-- the digits of what fits -/
theorem dg_fits (n : Nat) (h : n < 9223372036854775808) : dg n 1 < 2147483648 ∧ dg n 2 = 0 ∧ dg n 3 = 0 ∧ dg n 4 = 0 ∧ dg n 5 = 0 ∧ dg n 1 * 4294967296 + dg n 0 = n := by
  have e := wv_small n (by omega)
  unfold wv at e
  injection e with e
  injection e with e
  simp only [List.cons.injEq, Value.int.injEq, true_and, and_true] at e
  obtain ⟨e0, e1, e2, e3, e4, e5⟩ := e
  refine ⟨?_, e2, e3, e4, e5, ?_⟩ <;> omega

/-- .. and of what does not -/
theorem dg_over (n : Nat) (hn : n < 4294967296 ^ 6) (h : 9223372036854775808 ≤ n) (h1 : dg n 1 < 2147483648) (h2 : dg n 2 = 0) (h3 : dg n 3 = 0) (h4 : dg n 4 = 0) (h5 : dg n 5 = 0) : False := by
  have e := sm_dg6 n hn
  have d0 := digs_dg n 0
  have d1 := digs_dg n 1
  simp only [sm, h2, h3, h4, h5, Int.zero_mul, Int.add_zero, show (4294967296 : Int) ^ 0 = 1 from rfl, show (4294967296 : Int) ^ 1 = 4294967296 from by decide] at e
  omega

set_option maxHeartbeats 1000000 in
theorem amount_raw (x : Nat → Int) (m : Bool) (hx : digs x) (w : World) (h1 : x 1 < 2147483648) (h2 : (x 2 != 0) = false) (h3 : (x 3 != 0) = false) (h4 : (x 4 != 0) = false) (h5 : (x 5 != 0) = false) :
    Calls Tryz.prog 148 #[.agg #[.int .u64 (x 0), .int .u64 (x 1), .int .u64 (x 2), .int .u64 (x 3), .int .u64 (x 4), .int .u64 (x 5)], .bool m] w fun e w' => e = .returned (.tuple #[.int .i64 (if m then -(x 1 * 4294967296 + x 0) else x 1 * 4294967296 + x 0), .bool true]) ∧ Below w.heap.size w w' := by
  have ⟨a0, b0⟩ := hx 0
  have ⟨a1, b1⟩ := hx 1
  cases m
  · go_enter Tryz.func148, Tryz.ntmps148
    go_wp2
    go_ret2
    exact ⟨rfl, by repeat (first | exact Below.refl _ _ | apply below_drewN | apply bal)⟩
  · go_enter Tryz.func148, Tryz.ntmps148
    go_wp2
    go_ret2
    exact ⟨rfl, by repeat (first | exact Below.refl _ _ | apply below_drewN | apply bal)⟩

theorem amount_fits (n : Nat) (h : n < 9223372036854775808) (m : Bool) (w : World) :
    Calls Tryz.prog 148 #[wv n, .bool m] w fun e w' => e = .returned (.tuple #[.int .i64 (if m then -(n : Int) else n), .bool true]) ∧ Below w.heap.size w w' := by
  obtain ⟨h1, h2, h3, h4, h5, e⟩ := dg_fits n h
  unfold wv
  refine (amount_raw (dg n) m (digs_dg n) w h1 (by rw [h2]; rfl) (by rw [h3]; rfl) (by rw [h4]; rfl) (by rw [h5]; rfl)).mono fun e' w' hh => ?_
  rw [e] at hh
  exact hh

set_option maxHeartbeats 2000000 in
theorem amount_over (n : Nat) (hn : n < 4294967296 ^ 6) (h : 9223372036854775808 ≤ n) (m : Bool) (w : World) :
    Calls Tryz.prog 148 #[wv n, .bool m] w fun e w' => e = .returned (.tuple #[.int .i64 0, .bool false]) ∧ Below w.heap.size w w' := by
  have H := hide (dg_over n hn h)
  unfold wv
  clear h hn
  have ⟨a0, b0⟩ := digs_dg n 0
  have ⟨a1, b1⟩ := digs_dg n 1
  by_cases h1 : dg n 1 < 2147483648
  · by_cases h2 : dg n 2 = 0
    · by_cases h3 : dg n 3 = 0
      · by_cases h4 : dg n 4 = 0
        · by_cases h5 : dg n 5 = 0
          · exact ((unhide H) h1 h2 h3 h4 h5).elim
          · have g2 : (dg n 2 != 0) = false := by rw [h2]; rfl
            have g3 : (dg n 3 != 0) = false := by rw [h3]; rfl
            have g4 : (dg n 4 != 0) = false := by rw [h4]; rfl
            have g5 : (dg n 5 != 0) = true := by rw [bne_iff_ne]; exact h5
            clear h2 h3 h4 h5 H
            go_enter Tryz.func148, Tryz.ntmps148
            go_wp2
            go_ret2
            exact ⟨rfl, by repeat (first | exact Below.refl _ _ | apply below_drewN | apply bal)⟩
        · have g2 : (dg n 2 != 0) = false := by rw [h2]; rfl
          have g3 : (dg n 3 != 0) = false := by rw [h3]; rfl
          have g4 : (dg n 4 != 0) = true := by rw [bne_iff_ne]; exact h4
          clear h2 h3 h4 H
          go_enter Tryz.func148, Tryz.ntmps148
          go_wp2
          go_ret2
          exact ⟨rfl, by repeat (first | exact Below.refl _ _ | apply below_drewN | apply bal)⟩
      · have g2 : (dg n 2 != 0) = false := by rw [h2]; rfl
        have g3 : (dg n 3 != 0) = true := by rw [bne_iff_ne]; exact h3
        clear h2 h3 H
        go_enter Tryz.func148, Tryz.ntmps148
        go_wp2
        go_ret2
        exact ⟨rfl, by repeat (first | exact Below.refl _ _ | apply below_drewN | apply bal)⟩
    · have g2 : (dg n 2 != 0) = true := by rw [bne_iff_ne]; exact h2
      clear h2 H
      go_enter Tryz.func148, Tryz.ntmps148
      go_wp2
      go_ret2
      exact ⟨rfl, by repeat (first | exact Below.refl _ _ | apply below_drewN | apply bal)⟩
  · clear H
    go_enter Tryz.func148, Tryz.ntmps148
    go_wp2
    go_ret2
    exact ⟨rfl, by repeat (first | exact Below.refl _ _ | apply below_drewN | apply bal)⟩
end Go.Proofs.YtcafhmlpmbkhkaaGreatDoor.Mw
