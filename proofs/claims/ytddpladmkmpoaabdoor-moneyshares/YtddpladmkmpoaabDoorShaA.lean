import Derived.Test.YtddpladmkmpoaabDoorShaM
import Derived.Test.YtddpladmkmpoaabDoorFirD
namespace Go.Proofs.YtddpladmkmpoaabDoor
open Go.ChangeShapes Go.WideShapes Go.ChangeAt Go.RowKit
set_option linter.unusedVariables false
set_option maxHeartbeats 1000000 in
theorem mmul_bad (a b : Int) (w : World) (ha : -9223372036854775808 ≤ a) (hb : -9223372036854775808 ≤ b) (h : isMin a = true ∨ isMin b = true) :
    Calls Tryd.prog 14 #[.int .i64 a, .int .i64 b] w fun e w' => e = .returned (.tuple #[.int .i64 0, .int .i64 10]) ∧ w' = w := by
  have H := hide h
  clear h
  go_enter Tryd.func14, Tryd.ntmps14
  go_wp2_with (go_at_call 22; refine (both_bad _ _ _ (by omega) (by omega) (unhide H)).mono ?_; rintro e w' ⟨rfl, hw⟩; subst hw)
  go_ret2
  exact ⟨rfl, rfl⟩
theorem mmul_high (a b : Int) (hi lo : Nat) (w : World) (ha : -9223372036854775807 ≤ a) (hb : -9223372036854775807 ≤ b) (ha' : a ≤ 9223372036854775807) (hb' : b ≤ 9223372036854775807) (h1 : Hid (a.natAbs * b.natAbs / 18446744073709551616 = hi)) (h2 : Hid (a.natAbs * b.natAbs % 18446744073709551616 = lo)) (h3 : ((hi : Int) != 0) = true) :
    Calls Tryd.prog 14 #[.int .i64 a, .int .i64 b] w fun e w' => e = .returned (.tuple #[.int .i64 0, .int .i64 11]) ∧ w' = w := by
  have xa : a.natAbs < 18446744073709551616 := by omega
  have xb : b.natAbs < 18446744073709551616 := by omega
  have XA := hide xa
  have XB := hide xb
  clear xa xb
  go_enter Tryd.func14, Tryd.ntmps14
  go_wp2_with (first | (go_at_call 22; refine (both_yes _ _ _ (by omega) (by omega)).mono ?_; rintro e w' ⟨rfl, hw⟩; subst hw) | (go_at_call 25; refine (size_any _ _ (by omega) (by omega)).mono ?_; rintro e w' ⟨rfl, hw⟩; subst hw) | (go_at_call 33; refine (mul64_any a.natAbs b.natAbs hi lo (unhide XA) (unhide XB) (unhide h1) (unhide h2) _).mono ?_; rintro e w' ⟨rfl, hw⟩; subst hw))
  go_ret2
  exact ⟨rfl, rfl⟩
theorem mmul_low (a b : Int) (lo : Nat) (r s : Int) (w : World) (ha : -9223372036854775807 ≤ a) (hb : -9223372036854775807 ≤ b) (ha' : a ≤ 9223372036854775807) (hb' : b ≤ 9223372036854775807) (h1 : Hid (a.natAbs * b.natAbs / 18446744073709551616 = 0)) (h2 : Hid (a.natAbs * b.natAbs % 18446744073709551616 = lo))
    (hs : Hid (∀ w, Calls Tryd.prog 32 #[.int .u64 lo, .bool (opp a b)] w fun e w' => e = .returned (.tuple #[.int .i64 r, .int .i64 s]) ∧ w' = w)) :
    Calls Tryd.prog 14 #[.int .i64 a, .int .i64 b] w fun e w' => e = .returned (.tuple #[.int .i64 r, .int .i64 s]) ∧ w' = w := by
  have xa : a.natAbs < 18446744073709551616 := by omega
  have xb : b.natAbs < 18446744073709551616 := by omega
  have XA := hide xa
  have XB := hide xb
  clear xa xb
  go_enter Tryd.func14, Tryd.ntmps14
  go_wp2_with (first | (go_at_call 22; refine (both_yes _ _ _ (by omega) (by omega)).mono ?_; rintro e w' ⟨rfl, hw⟩; subst hw) | (go_at_call 25; refine (size_any _ _ (by omega) (by omega)).mono ?_; rintro e w' ⟨rfl, hw⟩; subst hw) | (go_at_call 33; refine (mul64_any a.natAbs b.natAbs 0 lo (unhide XA) (unhide XB) (unhide h1) (unhide h2) _).mono ?_; rintro e w' ⟨rfl, hw⟩; subst hw) | (go_at_call 31; refine (opp_any _ _ _).mono ?_; rintro e w' ⟨rfl, hw⟩; subst hw) | (go_at_call 32; refine ((unhide hs) _).mono ?_; rintro e w' ⟨rfl, hw⟩; subst hw))
  go_ret2
  exact ⟨rfl, rfl⟩
theorem mmul_any (a b : Int) (w : World) (ha : -9223372036854775808 ≤ a) (hb : -9223372036854775808 ≤ b) (ha' : a ≤ 9223372036854775807) (hb' : b ≤ 9223372036854775807) :
    Calls Tryd.prog 14 #[.int .i64 a, .int .i64 b] w fun e w' => e = .returned (.tuple #[.int .i64 (mulSpec a b).1, .int .i64 (mulSpec a b).2]) ∧ w' = w := by
  rcases minCases a b with h | ⟨m1, m2⟩
  · rw [mulSpec_bad a b h]
    exact mmul_bad a b w ha hb h
  · have n1 := noMin m1
    have n2 := noMin m2
    have key : ∀ M : Nat, a.natAbs * b.natAbs = M → Calls Tryd.prog 14 #[.int .i64 a, .int .i64 b] w fun e w' => e = .returned (.tuple #[.int .i64 (mulSpec a b).1, .int .i64 (mulSpec a b).2]) ∧ w' = w := by
      intro M hM
      by_cases hh : M / 18446744073709551616 = 0
      · have hlow : M % 18446744073709551616 = M := by omega
        refine mmul_low a b M _ _ w (by omega) (by omega) ha' hb' (by rw [hM]; exact hh) (by rw [hM]; exact hlow) ?_
        intro w2
        by_cases hf : M < 9223372036854775808
        · rw [mulSpec_fits a b (opp a b) m1 m2 (by rw [hM]; exact hf) rfl, hM]
          exact signed_fits M _ w2 (by omega)
        · rw [mulSpec_over a b m1 m2 (by rw [hM]; omega)]
          exact signed_over M _ w2 (by omega)
      · rw [mulSpec_over a b m1 m2 (by rw [hM]; omega)]
        exact mmul_high a b _ _ w (by omega) (by omega) ha' hb' rfl rfl (by rw [bne_iff_ne]; rw [hM]; omega)
    exact key _ rfl
section
variable {T S n : Nat} {zs : Nat → Int}
theorem opp_pos (a z : Int) (hz : 0 ≤ z) : opp a z = decide (a < 0) := by
  unfold opp
  have : decide (z < 0) = false := decide_eq_false (by omega)
  rw [this]
  simp
theorem up_fits {z : Nat} (hz : z ≤ S) (S0 : 0 < S) (h : 0 < T * z % S) : T * z / S + 1 ≤ T := by
  have h1 := Nat.div_add_mod (T * z) S
  have h2 : T * z ≤ T * S := Nat.mul_le_mul_left _ hz
  have h3 : S * (T * z / S) < S * T := by rw [Nat.mul_comm S T]; omega
  have := Nat.lt_of_mul_lt_mul_left h3
  omega
theorem ratio_down (total : Int) (hT : total.natAbs = T) (hT63 : T ≤ 9223372036854775807) {z : Nat} (hz : z ≤ S) (S0 : 0 < S) (hS63 : S ≤ 9223372036854775807) : ratioSpec total (z : Int) (S : Int) 0 = (if decide (total < 0) then -((T * z / S : Nat) : Int) else ((T * z / S : Nat) : Int), 0) := by
  have hq : T * z / S ≤ T := Nat.div_le_of_le_mul (by rw [Nat.mul_comm S]; exact Nat.mul_le_mul_left _ hz)
  have e : rq 0 (opp total (z : Int)) (T * z) S = T * z / S := by unfold rq stepB awayB; simp
  unfold ratioSpec
  rw [if_neg (by omega), isMin_no (by omega), isMin_no (by omega), hT, Int.natAbs_natCast, Int.natAbs_natCast, e, if_neg (by simp), if_pos (by omega), opp_pos total z (by omega)]
theorem ratio_up (total : Int) (hT : total.natAbs = T) (hT63 : T ≤ 9223372036854775807) {z : Nat} (hz : z ≤ S) (S0 : 0 < S) (hS63 : S ≤ 9223372036854775807) (u : Nat) (hu : u = T * z / S + if 0 < T * z % S then 1 else 0) : ratioSpec total (z : Int) (S : Int) 1 = (if decide (total < 0) then -(u : Int) else (u : Int), 0) := by
  have hq : T * z / S ≤ T := Nat.div_le_of_le_mul (by rw [Nat.mul_comm S]; exact Nat.mul_le_mul_left _ hz)
  have e : rq 1 (opp total (z : Int)) (T * z) S = u := by
    unfold rq stepB awayB
    rw [hu]
    by_cases h : 0 < T * z % S
    · have : ¬ T * z % S = 0 := by omega
      simp [h, this]
    · have : T * z % S = 0 := by omega
      simp [this]
  have hu63 : u ≤ T := by
    rw [hu]
    by_cases h : 0 < T * z % S
    · rw [if_pos h]; exact up_fits hz S0 h
    · rw [if_neg h]; omega
  unfold ratioSpec
  rw [if_neg (by omega), isMin_no (by omega), isMin_no (by omega), hT, Int.natAbs_natCast, Int.natAbs_natCast, e, if_neg (by simp), if_pos (by omega), opp_pos total z (by omega)]
/-- all weights times k -/
theorem scale_q (ks : Nat) (hk : 0 < ks) (i : Nat) (h0 : 0 ≤ zs i) : qf T (S * ks) (fun j => zs j * (ks : Int)) i = qf T S zs i := by
  unfold qf
  have e : (zs i * (ks : Int)).toNat = (zs i).toNat * ks := by
    obtain ⟨z, hz⟩ : ∃ z : Nat, zs i = z := ⟨(zs i).toNat, by omega⟩
    rw [hz, ← Int.natCast_mul, Int.toNat_natCast, Int.toNat_natCast]
  show T * (zs i * (ks : Int)).toNat / (S * ks) = _
  rw [e, ← Nat.mul_assoc, Nat.mul_div_mul_right _ _ hk]
theorem scale_r (ks : Nat) (hk : 0 < ks) (i : Nat) (h0 : 0 ≤ zs i) : rf T (S * ks) (fun j => zs j * (ks : Int)) i = rf T S zs i * ks := by
  unfold rf
  have e : (zs i * (ks : Int)).toNat = (zs i).toNat * ks := by
    obtain ⟨z, hz⟩ : ∃ z : Nat, zs i = z := ⟨(zs i).toNat, by omega⟩
    rw [hz, ← Int.natCast_mul, Int.toNat_natCast, Int.toNat_natCast]
  show T * (zs i * (ks : Int)).toNat % (S * ks) = _
  rw [e, ← Nat.mul_assoc, Nat.mul_mod_mul_right]
theorem scale_cum (ks : Nat) (hk : 0 < ks) : ∀ m, (∀ i, i < m → 0 ≤ zs i) → cumQ T (S * ks) (fun j => zs j * (ks : Int)) m = cumQ T S zs m
  | 0, _ => rfl
  | m + 1, h => by simp only [cumQ, scale_cum ks hk m (fun i hi => h i (by omega)), scale_q ks hk m (h m (by omega))]
theorem scale_part (ks : Nat) (hk : 0 < ks) (h : ∀ i, i < n → 0 ≤ zs i) {i : Nat} (hi : i < n) : part T (S * ks) (fun j => zs j * (ks : Int)) n i = part T S zs n i := by
  have e1 : left T (S * ks) (fun j => zs j * (ks : Int)) n = left T S zs n := by unfold left; rw [scale_cum ks hk n h]
  have e2 : cnt T (S * ks) (fun j => zs j * (ks : Int)) n i = cnt T S zs n i := by
    unfold cnt ahd allS
    rw [List.countP_map, List.countP_map]
    apply List.countP_congr
    intro j hj
    have hj' : j < n := by simpa using hj
    show decide (lts (shf T (S * ks) _ j) (shf T (S * ks) _ i)) = true ↔ decide (lts (shf T S zs j) (shf T S zs i)) = true
    rw [decide_eq_true_eq, decide_eq_true_eq]
    unfold lts shf
    simp only
    rw [scale_r ks hk j (h j hj'), scale_r ks hk i (h i hi)]
    have a1 : rf T S zs i * ks < rf T S zs j * ks ↔ rf T S zs i < rf T S zs j := ⟨fun h => Nat.lt_of_mul_lt_mul_right h, fun h => Nat.mul_lt_mul_of_pos_right h hk⟩
    have a2 : rf T S zs j * ks = rf T S zs i * ks ↔ rf T S zs j = rf T S zs i := ⟨fun h => Nat.eq_of_mul_eq_mul_right hk h, fun h => by rw [h]⟩
    rw [a1, a2]
  unfold part
  rw [scale_q ks hk i (h i hi), e1, e2]
theorem scale_sum (ks : Nat) : ∀ m, (∀ i, i < m → 0 ≤ zs i) → sumN (fun j => zs j * (ks : Int)) m = sumN zs m * ks
  | 0, _ => by simp [sumN]
  | m + 1, h => by
    have e : (zs m * (ks : Int)).toNat = (zs m).toNat * ks := by
      obtain ⟨z, hz⟩ : ∃ z : Nat, zs m = z := ⟨(zs m).toNat, by have := h m (by omega); omega⟩
      rw [hz, ← Int.natCast_mul, Int.toNat_natCast, Int.toNat_natCast]
    simp only [sumN, scale_sum ks m (fun i hi => h i (by omega)), e, Nat.add_mul]
end
end Go.Proofs.YtddpladmkmpoaabDoor
