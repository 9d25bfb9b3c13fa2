import GoSem.Claim
import Derived.Test.YtcafhmlpmbkhkaaGreatDoorW07
import Derived.Test.YtcafhmlpmbkhkaaGreatDoorW03
import Derived.Laws.Bits64b
import Derived.Lib.ItoaNum
import Derived.Deep.QuietTactic
import Derived.BigQuiet
namespace Go.Proofs.YtcafhmlpmbkhkaaGreatDoor.Mw
structure DivBy (U V1 V0 Y x : Int) : Prop where
  hY : Y = V1 * 4294967296 + V0
  v1 : 2147483648 ≤ V1 ∧ V1 < 4294967296
  v0 : 0 ≤ V0 ∧ V0 < 4294967296
  u : 0 ≤ U ∧ U < Y
  x : 0 ≤ x ∧ x < 4294967296
structure Guess (U V1 V0 Y x q r : Int) : Prop where
  eq : q * V1 + r = U
  hi : U * 4294967296 + x < q * Y + Y
  q0 : 0 ≤ q
  q1 : q ≤ 4294967297
  r0 : 0 ≤ r
theorem DivBy.mulY {U V1 V0 Y x : Int} (h : DivBy U V1 V0 Y x) (q : Int) : q * Y = q * V1 * 4294967296 + q * V0 := by
  rw [h.hY, Int.mul_add, ← Int.mul_assoc]
theorem DivBy.start {U V1 V0 Y x : Int} (h : DivBy U V1 V0 Y x) : Guess U V1 V0 Y x (U / V1) (U % V1) ∧ U % V1 < 4294967296 := by
  have e : U / V1 * V1 + U % V1 = U := by rw [Int.mul_comm]; exact Int.mul_ediv_add_emod U V1
  have r0 := Int.emod_nonneg U (show V1 ≠ 0 by have := h.v1; omega)
  have r1 := Int.emod_lt_of_pos U (show 0 < V1 by have := h.v1; omega)
  have q0 : 0 ≤ U / V1 := Int.ediv_nonneg h.u.1 (by have := h.v1; omega)
  have hv := h.v1
  have hv0 := h.v0
  have hu := h.u
  have hx := h.x
  have m := h.mulY (U / V1)
  have hY := h.hY
  generalize U / V1 = q at *
  generalize U % V1 = r at *
  refine ⟨⟨e, ?_, q0, ?_, r0⟩, by omega⟩
  · rw [m]
    have h1 : 0 ≤ q * V0 := Int.mul_nonneg q0 hv0.1
    omega
  · by_cases hq : q ≤ 4294967297
    · exact hq
    · have h1 : 4294967298 * V1 ≤ q * V1 := Int.mul_le_mul_of_nonneg_right (by omega) (by omega)
      omega
theorem Guess.low {U V1 V0 Y x q r : Int} (g : Guess U V1 V0 Y x q r) (h : DivBy U V1 V0 Y x) : 0 ≤ q * V0 ∧ q * V0 < 18446744073709551616 := by
  have hv0 := h.v0
  refine ⟨Int.mul_nonneg g.q0 hv0.1, ?_⟩
  have h1 : q * V0 ≤ 4294967297 * V0 := Int.mul_le_mul_of_nonneg_right g.q1 hv0.1
  omega
theorem Guess.step {U V1 V0 Y x q r : Int} (g : Guess U V1 V0 Y x q r) (h : DivBy U V1 V0 Y x) (hc : 4294967296 ≤ q ∨ 4294967296 * r + x < q * V0) : Guess U V1 V0 Y x (q - 1) (r + V1) ∧ 1 ≤ q := by
  have hv := h.v1
  have hv0 := h.v0
  have hu := h.u
  have hx := h.x
  have m := h.mulY q
  have e := g.eq
  have q0 := g.q0
  have r0 := g.r0
  have q1 := g.q1
  have lo := g.low h
  have hq : 1 ≤ q := by
    rcases hc with hc | hc
    · omega
    · by_cases hz : q = 0
      · subst hz; rw [Int.zero_mul] at hc; omega
      · omega
  have e1 : (q - 1) * V1 = q * V1 - V1 := by rw [Int.sub_mul, Int.one_mul]
  have e2 : (q - 1) * Y = q * Y - Y := by rw [Int.sub_mul, Int.one_mul]
  refine ⟨⟨by omega, ?_, by omega, by omega, by omega⟩, hq⟩
  rw [e2]
  rcases hc with hc | hc
  · have h1 : 4294967296 * Y ≤ q * Y := Int.mul_le_mul_of_nonneg_right hc (by omega)
    omega
  · omega
theorem Guess.stop {U V1 V0 Y x q r : Int} (g : Guess U V1 V0 Y x q r) (h : DivBy U V1 V0 Y x) (hb : 4294967296 ≤ r + V1) : q - 1 < 4294967296 ∧ (q - 1) * Y ≤ U * 4294967296 + x ∧ q ≤ 4294967296 := by
  have hv := h.v1
  have hv0 := h.v0
  have hu := h.u
  have hx := h.x
  have m := h.mulY q
  have e := g.eq
  have q1 := g.q1
  have hY := h.hY
  have hq : q ≤ 4294967296 := by
    by_cases hz : q = 4294967297
    · subst hz; omega
    · omega
  have e2 : (q - 1) * Y = q * Y - Y := by rw [Int.sub_mul, Int.one_mul]
  have e3 : (q - 1) * V0 = q * V0 - V0 := by rw [Int.sub_mul, Int.one_mul]
  have h1 : (q - 1) * V0 ≤ 4294967295 * V0 := Int.mul_le_mul_of_nonneg_right (by omega) hv0.1
  refine ⟨by omega, ?_, hq⟩
  rw [e2]
  omega
theorem Guess.done {U V1 V0 Y x q r : Int} (g : Guess U V1 V0 Y x q r) (h : DivBy U V1 V0 Y x) (hc : ¬ 4294967296 * r + x < q * V0) : q * Y ≤ U * 4294967296 + x := by
  have m := h.mulY q
  have e := g.eq
  omega
theorem div_both (hi lo y P Y U L L1 L0 q1 R q0 R2 : Int) (hP : 0 < P) (hy : 0 < y) (eY : Y = y * P) (eU : U * 18446744073709551616 + L = (hi * 18446744073709551616 + lo) * P) (eL : L = L1 * 4294967296 + L0)
    (eR : R = U * 4294967296 + L1 - q1 * Y) (eR2 : R2 = R * 4294967296 + L0 - q0 * Y) (h0 : 0 ≤ R2) (h1 : R2 < Y) :
    (hi * 18446744073709551616 + lo) / y = q1 * 4294967296 + q0 ∧ R2 / P = (hi * 18446744073709551616 + lo) % y := by
  generalize hi * 18446744073709551616 + lo = N at *
  have key : N * P = (q1 * 4294967296 + q0) * Y + R2 := by
    rw [← eU, Int.add_mul]
    have : q1 * 4294967296 * Y = q1 * Y * 4294967296 := by rw [Int.mul_assoc, Int.mul_comm 4294967296 Y, ← Int.mul_assoc]
    rw [this]
    omega
  generalize q1 * 4294967296 + q0 = Q at *
  have e1 : Q * Y = Q * y * P := by rw [eY, Int.mul_assoc]
  have e2 : R2 = (N - Q * y) * P := by rw [Int.sub_mul]; omega
  have e3 : R2 / P = N - Q * y := by rw [e2]; exact Int.mul_ediv_cancel _ (by omega)
  have r0 : 0 ≤ N - Q * y := by rw [← e3]; exact Int.ediv_nonneg h0 (by omega)
  have r1 : N - Q * y < y := by
    by_cases hh : N - Q * y < y
    · exact hh
    · have : y * P ≤ (N - Q * y) * P := Int.mul_le_mul_of_nonneg_right (by omega) (by omega)
      omega
  have e4 : N = (N - Q * y) + y * Q := by rw [Int.mul_comm y Q]; omega
  refine ⟨?_, ?_⟩
  · rw [e4, Int.add_mul_ediv_left _ _ (by omega), Int.ediv_eq_zero_of_lt (by omega) (by omega)]
    omega
  · rw [e3]
    conv => rhs; rw [e4]
    rw [Int.add_mul_emod_self_left, Int.emod_eq_of_lt (by omega) (by omega)]
end Go.Proofs.YtcafhmlpmbkhkaaGreatDoor.Mw
namespace Go.Proofs.YtcafhmlpmbkhkaaGreatDoor.Mw
open Go.ChangeShapes Go.WideShapes Go.ChangeAt Go.RowKit
set_option linter.unusedVariables false
theorem ret_uu {a b c d : Int} (h : a = b) (k : c = d) : Ending.returned (.tuple #[.int .u64 a, .int .u64 c]) = .returned (.tuple #[.int .u64 b, .int .u64 d]) := by rw [h, k]
theorem wrap_rest (U x q Y R : Int) (h : R = U * 4294967296 + x - q * Y) (h0 : 0 ≤ R) (h1 : R < 18446744073709551616) : IntKind.u64.wrap (IntKind.u64.wrap (IntKind.u64.wrap (U * 4294967296) + x) - IntKind.u64.wrap (q * Y)) = R := by
  simp only [uw_mod]
  generalize q * Y = P at *
  omega
theorem wrap_small (U q V1 r : Int) (h : q * V1 + r = U) (h0 : 0 ≤ r) (h1 : r < 18446744073709551616) (hU : 0 ≤ U ∧ U < 18446744073709551616) (hq : 0 ≤ q * V1) : IntKind.u64.wrap (U - IntKind.u64.wrap (q * V1)) = r := by
  simp only [uw_mod]
  omega
set_option maxHeartbeats 8000000 in
theorem div64_walk (hi lo y : Int) (s : Nat) (w : World) (h1 : 0 ≤ lo ∧ lo < 18446744073709551616) (h2 : 0 < y ∧ y < 18446744073709551616) (h3 : 0 < hi ∧ hi < y) (hs : s < 64)
   (Y V1 V0 U L L1 L0 : Int) (eY : IntKind.u64.wrap (y * 2 ^ s) = Y) (bY : 9223372036854775808 ≤ Y ∧ Y < 18446744073709551616) (e1 : Y / 4294967296 = V1) (b1 : 2147483648 ≤ V1 ∧ V1 < 4294967296) (e0 : bits BinOp.and IntKind.u64 Y 4294967295 = V0) (b0 : 0 ≤ V0 ∧ V0 < 4294967296)
   (eU : bits BinOp.or IntKind.u64 (IntKind.u64.wrap (hi * 2 ^ s)) (lo / 2 ^ (64 - s)) = U) (bU : 0 ≤ U ∧ U < Y) (eL : IntKind.u64.wrap (lo * 2 ^ s) = L) (bL : 0 ≤ L ∧ L < 18446744073709551616) (eL1 : L / 4294967296 = L1) (bL1 : 0 ≤ L1 ∧ L1 < 4294967296) (eL0 : bits BinOp.and IntKind.u64 L 4294967295 = L0) (bL0 : 0 ≤ L0 ∧ L0 < 4294967296)
   (hlz : Hid (∀ w, Calls Tryz.prog 301 #[.int .u64 y] w fun e w' => e = .returned (.int .i64 s) ∧ w' = w))
   (D : Hid (DivBy U V1 V0 Y L1)) (quo rem : Int)
   (hend : Hid (∀ q1 R q0 R2 : Int, R = U * 4294967296 + L1 - q1 * Y → R2 = R * 4294967296 + L0 - q0 * Y → 0 ≤ R2 → R2 < Y → q1 * 4294967296 + q0 = quo ∧ R2 / 2 ^ s = rem)) :
   Calls Tryz.prog 278 #[.int .u64 hi, .int .u64 lo, .int .u64 y] w fun e w' => e = .returned (.tuple #[.int .u64 quo, .int .u64 rem]) ∧ w' = w := by
  have eS := wrap_small U (U / V1) V1 (U % V1) (unhide D).start.1.eq (unhide D).start.1.r0 (by have := (unhide D).start.2; omega) (by omega) (Int.mul_nonneg (unhide D).start.1.q0 (by omega))
  go_enter Tryz.func278, Tryz.ntmps278
  go_wp2_with (go_at_call 301; refine ((unhide hlz) _).mono ?_; rintro e w' ⟨rfl, hw⟩; subst hw)
  go_loop [15, 16] (fun tq tr => ∃ q r : Int, tq = .int .u64 q ∧ tr = .int .u64 r ∧ r < 4294967296 ∧ Guess U V1 V0 Y L1 q r) (fun tq _ => (intOf tq).toNat)
  case atStart => exact ⟨_, _, rfl, rfl, (unhide D).start.2, (unhide D).start.1⟩
  case round =>
    obtain ⟨q, r, rfl, rfl, br1, hin⟩ := hrel
    clear eS eU eL eY eL1 eL0 e1 e0
    have bp := hin.low (unhide D)
    have bq0 := hin.q0
    have bq1 := hin.q1
    have br0 := hin.r0
    have HIN := hide hin
    clear hin
    by_cases hc : 4294967296 ≤ q
    · by_cases hr : 4294967296 ≤ r + V1
      · have st := (unhide HIN).stop (unhide D) hr
        have sp1 := ((unhide HIN).step (unhide D) (Or.inl hc)).1.hi
        obtain ⟨q1, hq1⟩ : ∃ q1, q - 1 = q1 := ⟨_, rfl⟩
        rw [hq1] at st sp1
        have bq : 0 ≤ q1 ∧ q1 < 4294967296 := by omega
        obtain ⟨R, hR⟩ : ∃ R, R = U * 4294967296 + L1 - q1 * Y := ⟨_, rfl⟩
        have bR : 0 ≤ R ∧ R < Y := by have := st.2.1; omega
        have eR := wrap_rest U L1 q1 Y R hR bR.1 (by omega)
        have D2 : Hid (DivBy R V1 V0 Y L0) := ⟨(unhide D).hY, (unhide D).v1, (unhide D).v0, bR, bL0⟩
        have eS := wrap_small R (R / V1) V1 (R % V1) (unhide D2).start.1.eq (unhide D2).start.1.r0 (by have := (unhide D2).start.2; omega) (by omega) (Int.mul_nonneg (unhide D2).start.1.q0 (by omega))
        have HR := hide hR
        clear hR st sp1 HIN
        go_wp2
        clear eR eS bp
        go_loop [16, 18] (fun tr tq => ∃ q r : Int, tq = .int .u64 q ∧ tr = .int .u64 r ∧ r < 4294967296 ∧ Guess R V1 V0 Y L0 q r) (fun _ tq => (intOf tq).toNat)
        case atStart => exact ⟨_, _, rfl, rfl, (unhide D2).start.2, (unhide D2).start.1⟩
        case round =>
          obtain ⟨q, r, rfl, rfl, br1, hin⟩ := hrel
          have bp := hin.low (unhide D2)
          have bq0 := hin.q0
          have bq1 := hin.q1
          have br0 := hin.r0
          have HIN := hide hin
          clear hin
          by_cases hc : 4294967296 ≤ q
          · by_cases hr : 4294967296 ≤ r + V1
            · have st := (unhide HIN).stop (unhide D2) hr
              have sp := (unhide HIN).step (unhide D2) (Or.inl hc)
              have sp1 := sp.1.hi
              obtain ⟨q0, hq0⟩ : ∃ q0, q - 1 = q0 := ⟨_, rfl⟩
              rw [hq0] at st sp1
              have bq : 0 ≤ q0 ∧ q0 < 4294967296 := by omega
              obtain ⟨R2, hR2⟩ : ∃ R2, R2 = R * 4294967296 + L0 - q0 * Y := ⟨_, rfl⟩
              have bR2 : 0 ≤ R2 ∧ R2 < Y := by have := st.2.1; omega
              have eR2 := wrap_rest R L0 q0 Y R2 hR2 bR2.1 (by omega)
              have FIN := hide ((unhide hend) _ _ _ _ (unhide HR) hR2 bR2.1 bR2.2)
              clear st sp sp1 HIN hR2
              go_wp2
              go_ret2
              exact ⟨ret_uu (unhide FIN).1 (unhide FIN).2, rfl⟩
            · have sp := hide ((unhide HIN).step (unhide D2) (Or.inl hc))
              go_wp2
              go_round
              case rel => exact ⟨_, _, rfl, rfl, by omega, (unhide sp).1⟩
              case measure => simp [intOf]; omega
          · by_cases hd : 4294967296 * r + L0 < q * V0
            · have s1 := ((unhide HIN).step (unhide D2) (Or.inr hd)).2
              by_cases hr : 4294967296 ≤ r + V1
              · have st := (unhide HIN).stop (unhide D2) hr
                have sp := (unhide HIN).step (unhide D2) (Or.inr hd)
                have sp1 := sp.1.hi
                obtain ⟨q0, hq0⟩ : ∃ q0, q - 1 = q0 := ⟨_, rfl⟩
                rw [hq0] at st sp1
                have bq : 0 ≤ q0 ∧ q0 < 4294967296 := by omega
                obtain ⟨R2, hR2⟩ : ∃ R2, R2 = R * 4294967296 + L0 - q0 * Y := ⟨_, rfl⟩
                have bR2 : 0 ≤ R2 ∧ R2 < Y := by have := st.2.1; omega
                have eR2 := wrap_rest R L0 q0 Y R2 hR2 bR2.1 (by omega)
                have FIN := hide ((unhide hend) _ _ _ _ (unhide HR) hR2 bR2.1 bR2.2)
                clear st sp sp1 HIN hR2
                go_wp2
                go_ret2
                exact ⟨ret_uu (unhide FIN).1 (unhide FIN).2, rfl⟩
              · have sp := hide ((unhide HIN).step (unhide D2) (Or.inr hd))
                go_wp2
                go_round
                case rel => exact ⟨_, _, rfl, rfl, by omega, (unhide sp).1⟩
                case measure => simp [intOf]; omega
            · have st := (unhide HIN).done (unhide D2) hd
              have sp1 := (unhide HIN).hi
              obtain ⟨R2, hR2⟩ : ∃ R2, R2 = R * 4294967296 + L0 - q * Y := ⟨_, rfl⟩
              have bR2 : 0 ≤ R2 ∧ R2 < Y := by omega
              have eR2 := wrap_rest R L0 q Y R2 hR2 bR2.1 (by omega)
              have FIN := hide ((unhide hend) _ _ _ _ (unhide HR) hR2 bR2.1 bR2.2)
              clear st sp1 HIN hR2
              go_wp2
              go_ret2
              exact ⟨ret_uu (unhide FIN).1 (unhide FIN).2, rfl⟩
      · have sp := hide ((unhide HIN).step (unhide D) (Or.inl hc))
        go_wp2
        go_round
        case rel => exact ⟨_, _, rfl, rfl, by omega, (unhide sp).1⟩
        case measure => simp [intOf]; omega
    · by_cases hd : 4294967296 * r + L1 < q * V0
      · have s1 := ((unhide HIN).step (unhide D) (Or.inr hd)).2
        by_cases hr : 4294967296 ≤ r + V1
        · have st := (unhide HIN).stop (unhide D) hr
          have sp1 := ((unhide HIN).step (unhide D) (Or.inr hd)).1.hi
          obtain ⟨q1, hq1⟩ : ∃ q1, q - 1 = q1 := ⟨_, rfl⟩
          rw [hq1] at st sp1
          have bq : 0 ≤ q1 ∧ q1 < 4294967296 := by omega
          obtain ⟨R, hR⟩ : ∃ R, R = U * 4294967296 + L1 - q1 * Y := ⟨_, rfl⟩
          have bR : 0 ≤ R ∧ R < Y := by have := st.2.1; omega
          have eR := wrap_rest U L1 q1 Y R hR bR.1 (by omega)
          have D2 : Hid (DivBy R V1 V0 Y L0) := ⟨(unhide D).hY, (unhide D).v1, (unhide D).v0, bR, bL0⟩
          have eS := wrap_small R (R / V1) V1 (R % V1) (unhide D2).start.1.eq (unhide D2).start.1.r0 (by have := (unhide D2).start.2; omega) (by omega) (Int.mul_nonneg (unhide D2).start.1.q0 (by omega))
          have HR := hide hR
          clear hR st sp1 HIN
          go_wp2
          clear eR eS bp
          go_loop [16, 18] (fun tr tq => ∃ q r : Int, tq = .int .u64 q ∧ tr = .int .u64 r ∧ r < 4294967296 ∧ Guess R V1 V0 Y L0 q r) (fun _ tq => (intOf tq).toNat)
          case atStart => exact ⟨_, _, rfl, rfl, (unhide D2).start.2, (unhide D2).start.1⟩
          case round =>
            obtain ⟨q, r, rfl, rfl, br1, hin⟩ := hrel
            have bp := hin.low (unhide D2)
            have bq0 := hin.q0
            have bq1 := hin.q1
            have br0 := hin.r0
            have HIN := hide hin
            clear hin
            by_cases hc : 4294967296 ≤ q
            · by_cases hr : 4294967296 ≤ r + V1
              · have st := (unhide HIN).stop (unhide D2) hr
                have sp := (unhide HIN).step (unhide D2) (Or.inl hc)
                have sp1 := sp.1.hi
                obtain ⟨q0, hq0⟩ : ∃ q0, q - 1 = q0 := ⟨_, rfl⟩
                rw [hq0] at st sp1
                have bq : 0 ≤ q0 ∧ q0 < 4294967296 := by omega
                obtain ⟨R2, hR2⟩ : ∃ R2, R2 = R * 4294967296 + L0 - q0 * Y := ⟨_, rfl⟩
                have bR2 : 0 ≤ R2 ∧ R2 < Y := by have := st.2.1; omega
                have eR2 := wrap_rest R L0 q0 Y R2 hR2 bR2.1 (by omega)
                have FIN := hide ((unhide hend) _ _ _ _ (unhide HR) hR2 bR2.1 bR2.2)
                clear st sp sp1 HIN hR2
                go_wp2
                go_ret2
                exact ⟨ret_uu (unhide FIN).1 (unhide FIN).2, rfl⟩
              · have sp := hide ((unhide HIN).step (unhide D2) (Or.inl hc))
                go_wp2
                go_round
                case rel => exact ⟨_, _, rfl, rfl, by omega, (unhide sp).1⟩
                case measure => simp [intOf]; omega
            · by_cases hd : 4294967296 * r + L0 < q * V0
              · have s1 := ((unhide HIN).step (unhide D2) (Or.inr hd)).2
                by_cases hr : 4294967296 ≤ r + V1
                · have st := (unhide HIN).stop (unhide D2) hr
                  have sp := (unhide HIN).step (unhide D2) (Or.inr hd)
                  have sp1 := sp.1.hi
                  obtain ⟨q0, hq0⟩ : ∃ q0, q - 1 = q0 := ⟨_, rfl⟩
                  rw [hq0] at st sp1
                  have bq : 0 ≤ q0 ∧ q0 < 4294967296 := by omega
                  obtain ⟨R2, hR2⟩ : ∃ R2, R2 = R * 4294967296 + L0 - q0 * Y := ⟨_, rfl⟩
                  have bR2 : 0 ≤ R2 ∧ R2 < Y := by have := st.2.1; omega
                  have eR2 := wrap_rest R L0 q0 Y R2 hR2 bR2.1 (by omega)
                  have FIN := hide ((unhide hend) _ _ _ _ (unhide HR) hR2 bR2.1 bR2.2)
                  clear st sp sp1 HIN hR2
                  go_wp2
                  go_ret2
                  exact ⟨ret_uu (unhide FIN).1 (unhide FIN).2, rfl⟩
                · have sp := hide ((unhide HIN).step (unhide D2) (Or.inr hd))
                  go_wp2
                  go_round
                  case rel => exact ⟨_, _, rfl, rfl, by omega, (unhide sp).1⟩
                  case measure => simp [intOf]; omega
              · have st := (unhide HIN).done (unhide D2) hd
                have sp1 := (unhide HIN).hi
                obtain ⟨R2, hR2⟩ : ∃ R2, R2 = R * 4294967296 + L0 - q * Y := ⟨_, rfl⟩
                have bR2 : 0 ≤ R2 ∧ R2 < Y := by omega
                have eR2 := wrap_rest R L0 q Y R2 hR2 bR2.1 (by omega)
                have FIN := hide ((unhide hend) _ _ _ _ (unhide HR) hR2 bR2.1 bR2.2)
                clear st sp1 HIN hR2
                go_wp2
                go_ret2
                exact ⟨ret_uu (unhide FIN).1 (unhide FIN).2, rfl⟩
        · have sp := hide ((unhide HIN).step (unhide D) (Or.inr hd))
          go_wp2
          go_round
          case rel => exact ⟨_, _, rfl, rfl, by omega, (unhide sp).1⟩
          case measure => simp [intOf]; omega
      · have st : q < 4294967296 ∧ q * Y ≤ U * 4294967296 + L1 ∧ True := ⟨by omega, (unhide HIN).done (unhide D) hd, trivial⟩
        have sp1 := (unhide HIN).hi
        obtain ⟨q1, hq1⟩ : ∃ q1, q = q1 := ⟨_, rfl⟩
        subst hq1
        obtain ⟨R, hR⟩ : ∃ R, R = U * 4294967296 + L1 - q * Y := ⟨_, rfl⟩
        have bR : 0 ≤ R ∧ R < Y := by have := st.2.1; omega
        have eR := wrap_rest U L1 q Y R hR bR.1 (by omega)
        have D2 : Hid (DivBy R V1 V0 Y L0) := ⟨(unhide D).hY, (unhide D).v1, (unhide D).v0, bR, bL0⟩
        have eS := wrap_small R (R / V1) V1 (R % V1) (unhide D2).start.1.eq (unhide D2).start.1.r0 (by have := (unhide D2).start.2; omega) (by omega) (Int.mul_nonneg (unhide D2).start.1.q0 (by omega))
        have HR := hide hR
        clear hR st sp1 HIN
        go_wp2
        clear eR eS bp
        go_loop [16, 18] (fun tr tq => ∃ q r : Int, tq = .int .u64 q ∧ tr = .int .u64 r ∧ r < 4294967296 ∧ Guess R V1 V0 Y L0 q r) (fun _ tq => (intOf tq).toNat)
        case atStart => exact ⟨_, _, rfl, rfl, (unhide D2).start.2, (unhide D2).start.1⟩
        case round =>
          obtain ⟨q, r, rfl, rfl, br1, hin⟩ := hrel
          have bp := hin.low (unhide D2)
          have bq0 := hin.q0
          have bq1 := hin.q1
          have br0 := hin.r0
          have HIN := hide hin
          clear hin
          by_cases hc : 4294967296 ≤ q
          · by_cases hr : 4294967296 ≤ r + V1
            · have st := (unhide HIN).stop (unhide D2) hr
              have sp := (unhide HIN).step (unhide D2) (Or.inl hc)
              have sp1 := sp.1.hi
              obtain ⟨q0, hq0⟩ : ∃ q0, q - 1 = q0 := ⟨_, rfl⟩
              rw [hq0] at st sp1
              have bq : 0 ≤ q0 ∧ q0 < 4294967296 := by omega
              obtain ⟨R2, hR2⟩ : ∃ R2, R2 = R * 4294967296 + L0 - q0 * Y := ⟨_, rfl⟩
              have bR2 : 0 ≤ R2 ∧ R2 < Y := by have := st.2.1; omega
              have eR2 := wrap_rest R L0 q0 Y R2 hR2 bR2.1 (by omega)
              have FIN := hide ((unhide hend) _ _ _ _ (unhide HR) hR2 bR2.1 bR2.2)
              clear st sp sp1 HIN hR2
              go_wp2
              go_ret2
              exact ⟨ret_uu (unhide FIN).1 (unhide FIN).2, rfl⟩
            · have sp := hide ((unhide HIN).step (unhide D2) (Or.inl hc))
              go_wp2
              go_round
              case rel => exact ⟨_, _, rfl, rfl, by omega, (unhide sp).1⟩
              case measure => simp [intOf]; omega
          · by_cases hd : 4294967296 * r + L0 < q * V0
            · have s1 := ((unhide HIN).step (unhide D2) (Or.inr hd)).2
              by_cases hr : 4294967296 ≤ r + V1
              · have st := (unhide HIN).stop (unhide D2) hr
                have sp := (unhide HIN).step (unhide D2) (Or.inr hd)
                have sp1 := sp.1.hi
                obtain ⟨q0, hq0⟩ : ∃ q0, q - 1 = q0 := ⟨_, rfl⟩
                rw [hq0] at st sp1
                have bq : 0 ≤ q0 ∧ q0 < 4294967296 := by omega
                obtain ⟨R2, hR2⟩ : ∃ R2, R2 = R * 4294967296 + L0 - q0 * Y := ⟨_, rfl⟩
                have bR2 : 0 ≤ R2 ∧ R2 < Y := by have := st.2.1; omega
                have eR2 := wrap_rest R L0 q0 Y R2 hR2 bR2.1 (by omega)
                have FIN := hide ((unhide hend) _ _ _ _ (unhide HR) hR2 bR2.1 bR2.2)
                clear st sp sp1 HIN hR2
                go_wp2
                go_ret2
                exact ⟨ret_uu (unhide FIN).1 (unhide FIN).2, rfl⟩
              · have sp := hide ((unhide HIN).step (unhide D2) (Or.inr hd))
                go_wp2
                go_round
                case rel => exact ⟨_, _, rfl, rfl, by omega, (unhide sp).1⟩
                case measure => simp [intOf]; omega
            · have st := (unhide HIN).done (unhide D2) hd
              have sp1 := (unhide HIN).hi
              obtain ⟨R2, hR2⟩ : ∃ R2, R2 = R * 4294967296 + L0 - q * Y := ⟨_, rfl⟩
              have bR2 : 0 ≤ R2 ∧ R2 < Y := by omega
              have eR2 := wrap_rest R L0 q Y R2 hR2 bR2.1 (by omega)
              have FIN := hide ((unhide hend) _ _ _ _ (unhide HR) hR2 bR2.1 bR2.2)
              clear st sp1 HIN hR2
              go_wp2
              go_ret2
              exact ⟨ret_uu (unhide FIN).1 (unhide FIN).2, rfl⟩
end Go.Proofs.YtcafhmlpmbkhkaaGreatDoor.Mw
namespace Go.Proofs.YtcafhmlpmbkhkaaGreatDoor.Mw
open Go.ChangeShapes Go.WideShapes Go.ChangeAt Go.RowKit
set_option linter.unusedVariables false
theorem shift_top (y : Nat) (h0 : y ≠ 0) (h1 : y < 18446744073709551616) : ∃ s : Nat, s < 64 ∧ (64 - (Lib.bitLen y : Int)) = (s : Int) ∧ 9223372036854775808 ≤ y * 2 ^ s ∧ y * 2 ^ s < 18446744073709551616 := by
  obtain ⟨a, b, c⟩ := Lib.bitLenAux_bounds 64 y h1 h0
  have hle : Lib.bitLenAux 64 y ≤ 64 := Lib.bitLenAux_le 64 y 64 h1
  have e : Lib.bitLen y = Lib.bitLenAux 64 y := rfl
  rw [e]
  generalize Lib.bitLenAux 64 y = L at *
  refine ⟨64 - L, by omega, by omega, ?_, ?_⟩
  · have h2 : 2 ^ (L - 1) * 2 ^ (64 - L) ≤ y * 2 ^ (64 - L) := Nat.mul_le_mul_right _ b
    rw [← Nat.pow_add, show L - 1 + (64 - L) = 63 by omega] at h2
    exact h2
  · have h2 : y * 2 ^ (64 - L) < 2 ^ L * 2 ^ (64 - L) := Nat.mul_lt_mul_of_pos_right c (Nat.pow_pos (by decide))
    rw [← Nat.pow_add, show L + (64 - L) = 64 by omega] at h2
    exact h2
theorem maskN (a : Nat) (ha : a < 18446744073709551616) : bits .and .u64 (a : Int) 4294967295 = ((a % 4294967296 : Nat) : Int) := Mul64.maskN a ha
theorem shift_words (hi lo y s : Nat) (hs : s < 64) (h1 : lo < 18446744073709551616) (h3 : hi < y) (hY : y * 2 ^ s < 18446744073709551616) :
    bits BinOp.or IntKind.u64 (IntKind.u64.wrap ((hi : Int) * 2 ^ s)) ((lo : Int) / 2 ^ (64 - s)) = ((hi * 2 ^ s + lo / 2 ^ (64 - s) : Nat) : Int) ∧ hi * 2 ^ s + lo / 2 ^ (64 - s) < y * 2 ^ s ∧
    IntKind.u64.wrap ((lo : Int) * 2 ^ s) = ((lo * 2 ^ s % 18446744073709551616 : Nat) : Int) ∧ (hi * 2 ^ s + lo / 2 ^ (64 - s)) * 18446744073709551616 + lo * 2 ^ s % 18446744073709551616 = (hi * 18446744073709551616 + lo) * 2 ^ s := by
  have hp : 2 ^ (64 - s) * 2 ^ s = 18446744073709551616 := by rw [← Nat.pow_add, show 64 - s + s = 64 by omega]
  have hps : 0 < 2 ^ s := Nat.pow_pos (by decide)
  have hpt : 0 < 2 ^ (64 - s) := Nat.pow_pos (by decide)
  have c1 : ((hi : Int) * 2 ^ s) = ((hi * 2 ^ s : Nat) : Int) := by rw [Int.natCast_mul, Int.natCast_pow]; rfl
  have c2 : ((lo : Int) * 2 ^ s) = ((lo * 2 ^ s : Nat) : Int) := by rw [Int.natCast_mul, Int.natCast_pow]; rfl
  have c3 : ((lo : Int) / 2 ^ (64 - s)) = ((lo / 2 ^ (64 - s) : Nat) : Int) := by rw [Int.natCast_ediv, Int.natCast_pow]; rfl
  have hlow : lo / 2 ^ (64 - s) < 2 ^ s := by
    rw [Nat.div_lt_iff_lt_mul hpt, Nat.mul_comm, hp]
    exact h1
  have hup : (hi + 1) * 2 ^ s ≤ y * 2 ^ s := Nat.mul_le_mul_right _ h3
  rw [Nat.add_mul, Nat.one_mul] at hup
  have hsp : (2 : Nat) ^ s ≤ 18446744073709551616 := by
    rw [← hp]; exact Nat.le_mul_of_pos_left _ hpt
  have hq : lo * 2 ^ s / 18446744073709551616 = lo / 2 ^ (64 - s) := by
    rw [← hp]; exact Nat.mul_div_mul_right _ _ hps
  refine ⟨?_, by omega, ?_, ?_⟩
  · rw [c1, c3, uw_mod]
    have e : ((hi * 2 ^ s : Nat) : Int) % 18446744073709551616 = ((hi * 2 ^ s : Nat) : Int) := by omega
    rw [e, bits_or_u64_nat _ _ (by omega) (by omega)]
    have := Nat.two_pow_add_eq_or_of_lt hlow hi
    rw [Nat.mul_comm hi, ← this]
  · rw [c2, uw_mod]
    omega
  · have hd := Nat.div_add_mod (lo * 2 ^ s) 18446744073709551616
    rw [hq] at hd
    rw [Nat.add_mul, Nat.add_mul]
    have e : hi * 18446744073709551616 * 2 ^ s = hi * 2 ^ s * 18446744073709551616 := by rw [Nat.mul_assoc, Nat.mul_comm 18446744073709551616, ← Nat.mul_assoc]
    rw [e]
    omega
theorem div64_pos (hi lo y : Nat) (w : World) (h1 : lo < 18446744073709551616) (h2 : y < 18446744073709551616) (h0 : 0 < hi) (h3 : hi < y) :
    Calls Tryz.prog 278 #[.int .u64 hi, .int .u64 lo, .int .u64 y] w fun e w' => e = .returned (.tuple #[.int .u64 (((hi * 18446744073709551616 + lo) / y : Nat) : Int), .int .u64 (((hi * 18446744073709551616 + lo) % y : Nat) : Int)]) ∧ w' = w := by
  obtain ⟨s, hs, hlz, y1, y2⟩ := shift_top y (by omega) h2
  obtain ⟨eU, bU, eL, key⟩ := shift_words hi lo y s hs h1 h3 y2
  have cY : ((y : Int) * 2 ^ s) = ((y * 2 ^ s : Nat) : Int) := by rw [Int.natCast_mul, Int.natCast_pow]; rfl
  have cP : ((2 ^ s : Nat) : Int) = 2 ^ s := by rw [Int.natCast_pow]; rfl
  have hP : (0 : Int) < 2 ^ s := by rw [← cP]; exact Int.natCast_pos.2 (Nat.pow_pos (by decide))
  have eY : IntKind.u64.wrap ((y : Int) * 2 ^ s) = ((y * 2 ^ s : Nat) : Int) := by rw [cY, uw_mod]; omega
  have bL : lo * 2 ^ s % 18446744073709551616 < 18446744073709551616 := Nat.mod_lt _ (by decide)
  have keyI : ((hi * 2 ^ s + lo / 2 ^ (64 - s) : Nat) : Int) * 18446744073709551616 + ((lo * 2 ^ s % 18446744073709551616 : Nat) : Int) = ((hi : Int) * 18446744073709551616 + lo) * 2 ^ s := by
    rw [← cP]
    have := congrArg (fun n : Nat => (n : Int)) key
    simp only [Int.natCast_add, Int.natCast_mul] at this ⊢
    exact this
  generalize hUU : hi * 2 ^ s + lo / 2 ^ (64 - s) = U at *
  generalize hLL : lo * 2 ^ s % 18446744073709551616 = L at *
  generalize hYY : y * 2 ^ s = Y at *
  have eYI : ((Y : Nat) : Int) = (y : Int) * 2 ^ s := cY.symm
  refine (div64_walk hi lo y s w (by omega) (by omega) (by omega) hs Y ((Y / 4294967296 : Nat) : Int) ((Y % 4294967296 : Nat) : Int) U L ((L / 4294967296 : Nat) : Int) ((L % 4294967296 : Nat) : Int) eY (by omega) (by omega) (by omega) (maskN Y y2) (by omega) eU (by omega) eL (by omega) (by omega) (by omega) (maskN L bL) (by omega) ?_ ?_ (((hi : Int) * 18446744073709551616 + lo) / y) (((hi : Int) * 18446744073709551616 + lo) % y) ?_).mono ?_
  · intro w2
    have := Tryz.bits_LeadingZeros64 (y : Int) w2 (by omega) (by omega)
    rw [Int.toNat_natCast, hlz] at this
    exact this
  · exact ⟨by omega, by omega, by omega, by omega, by omega⟩
  · intro q1 R q0 R2 hR hR2 r0 r1
    have := div_both hi lo y (2 ^ s) Y U L _ _ q1 R q0 R2 hP (by omega) eYI keyI (by omega) hR hR2 r0 r1
    exact ⟨this.1.symm, this.2⟩
  · intro e w' hh
    refine ⟨?_, hh.2⟩
    rw [hh.1, Int.natCast_ediv, Int.natCast_emod, Int.natCast_add, Int.natCast_mul]
    rfl
set_option maxHeartbeats 1000000 in
theorem div64_zero (lo y : Int) (w : World) (h1 : 0 ≤ lo ∧ lo < 18446744073709551616) (h2 : 0 < y ∧ y < 18446744073709551616) :
    Calls Tryz.prog 278 #[.int .u64 0, .int .u64 lo, .int .u64 y] w fun e w' => e = .returned (.tuple #[.int .u64 (lo / y), .int .u64 (lo % y)]) ∧ ∃ n, w' = w.drewN n := by
  have hy0 : (y == 0) = false := by rw [beq_eq_false_iff_ne]; omega
  go_enter Tryz.func278, Tryz.ntmps278
  go_wp2
  go_quiet (fail)
  go_wp2
  go_ret2
  exact ⟨ret_uu rfl rfl, _, rfl⟩
end Go.Proofs.YtcafhmlpmbkhkaaGreatDoor.Mw
