import Derived.Test.YtddpladmkmpoaaaShelf
import Derived.Test.YtddpladmkmpoaaaSumM
import Derived.Test.YtddpladmkmpoaaaDivN
import Derived.Laws.Bits64b
import Derived.Lib.ItoaNum
namespace Go.Proofs.Ytddpladmkmpoaaa
open Go.ChangeShapes Go.WideShapes Go.ChangeAt Go.RowKit
set_option linter.unusedVariables false

theorem ret_uu {a b c d : Int} (h : a = b) (k : c = d) : Ending.returned (.tuple #[.int .u64 a, .int .u64 c]) = .returned (.tuple #[.int .u64 b, .int .u64 d]) := by rw [h, k]

/-- a rest that was reckoned word by word -/
theorem wrap_rest (U x q Y R : Int) (h : R = U * 4294967296 + x - q * Y) (h0 : 0 ≤ R) (h1 : R < 18446744073709551616) : IntKind.u64.wrap (IntKind.u64.wrap (IntKind.u64.wrap (U * 4294967296) + x) - IntKind.u64.wrap (q * Y)) = R := by
  simp only [uw_mod]
  generalize q * Y = P at *
  omega
theorem wrap_small (U q V1 r : Int) (h : q * V1 + r = U) (h0 : 0 ≤ r) (h1 : r < 18446744073709551616) (hU : 0 ≤ U ∧ U < 18446744073709551616) (hq : 0 ≤ q * V1) : IntKind.u64.wrap (U - IntKind.u64.wrap (q * V1)) = r := by
  simp only [uw_mod]
  omega

set_option maxHeartbeats 8000000 in
theorem div64_walk (hi lo y : Int) (s : Nat) (w : World) (h1 : 0 ≤ lo ∧ lo < 18446744073709551616) (h2 : 0 < y ∧ y < 18446744073709551616) (h3 : 0 < hi ∧ hi < y) (hs : s < 64)
   (Y V1 V0 U L L1 L0 : Int) (eY : IntKind.u64.wrap (y * 2 ^ s) = Y) (bY : 9223372036854775808 ≤ Y ∧ Y < 18446744073709551616) (e1 : Y / 4294967296 = V1) (b1 : 2147483648 ≤ V1 ∧ V1 < 4294967296) (e0 : bits BinOp.and IntKind.u64 Y 4294967295 = V0) (b0 : 0 ≤ V0 ∧ V0 < 4294967296)
   (eU : bits BinOp.or IntKind.u64 (IntKind.u64.wrap (hi * 2 ^ s)) (lo / 2 ^ (64 - s)) = U) (bU : 0 ≤ U ∧ U < Y) (eL : IntKind.u64.wrap (lo * 2 ^ s) = L) (bL : 0 ≤ L ∧ L < 18446744073709551616) (eL1 : L / 4294967296 = L1) (bL1 : 0 ≤ L1 ∧ L1 < 4294967296) (eL0 : bits BinOp.and IntKind.u64 L 4294967295 = L0) (bL0 : 0 ≤ L0 ∧ L0 < 4294967296)
   (hlz : Hid (∀ w, Calls Try.prog 59 #[.int .u64 y] w fun e w' => e = .returned (.int .i64 s) ∧ w' = w))
   (D : Hid (DivBy U V1 V0 Y L1)) (quo rem : Int)
   (hend : Hid (∀ q1 R q0 R2 : Int, R = U * 4294967296 + L1 - q1 * Y → R2 = R * 4294967296 + L0 - q0 * Y → 0 ≤ R2 → R2 < Y → q1 * 4294967296 + q0 = quo ∧ R2 / 2 ^ s = rem)) :
   Calls Try.prog 56 #[.int .u64 hi, .int .u64 lo, .int .u64 y] w fun e w' => e = .returned (.tuple #[.int .u64 quo, .int .u64 rem]) ∧ w' = w := by
  have eS := wrap_small U (U / V1) V1 (U % V1) (unhide D).start.1.eq (unhide D).start.1.r0 (by have := (unhide D).start.2; omega) (by omega) (Int.mul_nonneg (unhide D).start.1.q0 (by omega))
  go_enter Try.func56, Try.ntmps56
  go_wp2_with (go_at_call 59; refine ((unhide hlz) _).mono ?_; rintro e w' ⟨rfl, hw⟩; subst hw)
  go_loop [15, 16] (fun tq tr => ∃ q r : Int, tq = .int .u64 q ∧ tr = .int .u64 r ∧ r < 4294967296 ∧ Guess U V1 V0 Y L1 q r) (fun tq _ => (intOf tq).toNat)
  case atStart => exact ⟨_, _, rfl, rfl, (unhide D).start.2, (unhide D).start.1⟩
  case round =>
    obtain ⟨q, r, rfl, rfl, br1, hin⟩ := hrel
    clear eS eU eL eY eL1 eL0 e1 e0
    have bp := hin.low (unhide D)
    have bq0 := hin.q0
    have bq1 := hin.q1
    have br0 := hin.r0
    have HIN := hide hin
    clear hin
    by_cases hc : 4294967296 ≤ q
    · by_cases hr : 4294967296 ≤ r + V1
      · have st := (unhide HIN).stop (unhide D) hr
        have sp1 := ((unhide HIN).step (unhide D) (Or.inl hc)).1.hi
        obtain ⟨q1, hq1⟩ : ∃ q1, q - 1 = q1 := ⟨_, rfl⟩
        rw [hq1] at st sp1
        have bq : 0 ≤ q1 ∧ q1 < 4294967296 := by omega
        obtain ⟨R, hR⟩ : ∃ R, R = U * 4294967296 + L1 - q1 * Y := ⟨_, rfl⟩
        have bR : 0 ≤ R ∧ R < Y := by have := st.2.1; omega
        have eR := wrap_rest U L1 q1 Y R hR bR.1 (by omega)
        have D2 : Hid (DivBy R V1 V0 Y L0) := ⟨(unhide D).hY, (unhide D).v1, (unhide D).v0, bR, bL0⟩
        have eS := wrap_small R (R / V1) V1 (R % V1) (unhide D2).start.1.eq (unhide D2).start.1.r0 (by have := (unhide D2).start.2; omega) (by omega) (Int.mul_nonneg (unhide D2).start.1.q0 (by omega))
        have HR := hide hR
        clear hR st sp1 HIN
        go_wp2
        clear eR eS bp
        go_loop [16, 18] (fun tr tq => ∃ q r : Int, tq = .int .u64 q ∧ tr = .int .u64 r ∧ r < 4294967296 ∧ Guess R V1 V0 Y L0 q r) (fun _ tq => (intOf tq).toNat)
        case atStart => exact ⟨_, _, rfl, rfl, (unhide D2).start.2, (unhide D2).start.1⟩
        case round =>
          obtain ⟨q, r, rfl, rfl, br1, hin⟩ := hrel
          have bp := hin.low (unhide D2)
          have bq0 := hin.q0
          have bq1 := hin.q1
          have br0 := hin.r0
          have HIN := hide hin
          clear hin
          by_cases hc : 4294967296 ≤ q
          · by_cases hr : 4294967296 ≤ r + V1
            · have st := (unhide HIN).stop (unhide D2) hr
              have sp := (unhide HIN).step (unhide D2) (Or.inl hc)
              have sp1 := sp.1.hi
              obtain ⟨q0, hq0⟩ : ∃ q0, q - 1 = q0 := ⟨_, rfl⟩
              rw [hq0] at st sp1
              have bq : 0 ≤ q0 ∧ q0 < 4294967296 := by omega
              obtain ⟨R2, hR2⟩ : ∃ R2, R2 = R * 4294967296 + L0 - q0 * Y := ⟨_, rfl⟩
              have bR2 : 0 ≤ R2 ∧ R2 < Y := by have := st.2.1; omega
              have eR2 := wrap_rest R L0 q0 Y R2 hR2 bR2.1 (by omega)
              have FIN := hide ((unhide hend) _ _ _ _ (unhide HR) hR2 bR2.1 bR2.2)
              clear st sp sp1 HIN hR2
              go_wp2
              go_ret2
              exact ⟨ret_uu (unhide FIN).1 (unhide FIN).2, rfl⟩
            · have sp := hide ((unhide HIN).step (unhide D2) (Or.inl hc))
              go_wp2
              go_round
              case rel => exact ⟨_, _, rfl, rfl, by omega, (unhide sp).1⟩
              case measure => simp [intOf]; omega
          · by_cases hd : 4294967296 * r + L0 < q * V0
            · have s1 := ((unhide HIN).step (unhide D2) (Or.inr hd)).2
              by_cases hr : 4294967296 ≤ r + V1
              · have st := (unhide HIN).stop (unhide D2) hr
                have sp := (unhide HIN).step (unhide D2) (Or.inr hd)
                have sp1 := sp.1.hi
                obtain ⟨q0, hq0⟩ : ∃ q0, q - 1 = q0 := ⟨_, rfl⟩
                rw [hq0] at st sp1
                have bq : 0 ≤ q0 ∧ q0 < 4294967296 := by omega
                obtain ⟨R2, hR2⟩ : ∃ R2, R2 = R * 4294967296 + L0 - q0 * Y := ⟨_, rfl⟩
                have bR2 : 0 ≤ R2 ∧ R2 < Y := by have := st.2.1; omega
                have eR2 := wrap_rest R L0 q0 Y R2 hR2 bR2.1 (by omega)
                have FIN := hide ((unhide hend) _ _ _ _ (unhide HR) hR2 bR2.1 bR2.2)
                clear st sp sp1 HIN hR2
                go_wp2
                go_ret2
                exact ⟨ret_uu (unhide FIN).1 (unhide FIN).2, rfl⟩
              · have sp := hide ((unhide HIN).step (unhide D2) (Or.inr hd))
                go_wp2
                go_round
                case rel => exact ⟨_, _, rfl, rfl, by omega, (unhide sp).1⟩
                case measure => simp [intOf]; omega
            · have st := (unhide HIN).done (unhide D2) hd
              have sp1 := (unhide HIN).hi
              obtain ⟨R2, hR2⟩ : ∃ R2, R2 = R * 4294967296 + L0 - q * Y := ⟨_, rfl⟩
              have bR2 : 0 ≤ R2 ∧ R2 < Y := by omega
              have eR2 := wrap_rest R L0 q Y R2 hR2 bR2.1 (by omega)
              have FIN := hide ((unhide hend) _ _ _ _ (unhide HR) hR2 bR2.1 bR2.2)
              clear st sp1 HIN hR2
              go_wp2
              go_ret2
              exact ⟨ret_uu (unhide FIN).1 (unhide FIN).2, rfl⟩
      · have sp := hide ((unhide HIN).step (unhide D) (Or.inl hc))
        go_wp2
        go_round
        case rel => exact ⟨_, _, rfl, rfl, by omega, (unhide sp).1⟩
        case measure => simp [intOf]; omega
    · by_cases hd : 4294967296 * r + L1 < q * V0
      · have s1 := ((unhide HIN).step (unhide D) (Or.inr hd)).2
        by_cases hr : 4294967296 ≤ r + V1
        · have st := (unhide HIN).stop (unhide D) hr
          have sp1 := ((unhide HIN).step (unhide D) (Or.inr hd)).1.hi
          obtain ⟨q1, hq1⟩ : ∃ q1, q - 1 = q1 := ⟨_, rfl⟩
          rw [hq1] at st sp1
          have bq : 0 ≤ q1 ∧ q1 < 4294967296 := by omega
          obtain ⟨R, hR⟩ : ∃ R, R = U * 4294967296 + L1 - q1 * Y := ⟨_, rfl⟩
          have bR : 0 ≤ R ∧ R < Y := by have := st.2.1; omega
          have eR := wrap_rest U L1 q1 Y R hR bR.1 (by omega)
          have D2 : Hid (DivBy R V1 V0 Y L0) := ⟨(unhide D).hY, (unhide D).v1, (unhide D).v0, bR, bL0⟩
          have eS := wrap_small R (R / V1) V1 (R % V1) (unhide D2).start.1.eq (unhide D2).start.1.r0 (by have := (unhide D2).start.2; omega) (by omega) (Int.mul_nonneg (unhide D2).start.1.q0 (by omega))
          have HR := hide hR
          clear hR st sp1 HIN
          go_wp2
          clear eR eS bp
          go_loop [16, 18] (fun tr tq => ∃ q r : Int, tq = .int .u64 q ∧ tr = .int .u64 r ∧ r < 4294967296 ∧ Guess R V1 V0 Y L0 q r) (fun _ tq => (intOf tq).toNat)
          case atStart => exact ⟨_, _, rfl, rfl, (unhide D2).start.2, (unhide D2).start.1⟩
          case round =>
            obtain ⟨q, r, rfl, rfl, br1, hin⟩ := hrel
            have bp := hin.low (unhide D2)
            have bq0 := hin.q0
            have bq1 := hin.q1
            have br0 := hin.r0
            have HIN := hide hin
            clear hin
            by_cases hc : 4294967296 ≤ q
            · by_cases hr : 4294967296 ≤ r + V1
              · have st := (unhide HIN).stop (unhide D2) hr
                have sp := (unhide HIN).step (unhide D2) (Or.inl hc)
                have sp1 := sp.1.hi
                obtain ⟨q0, hq0⟩ : ∃ q0, q - 1 = q0 := ⟨_, rfl⟩
                rw [hq0] at st sp1
                have bq : 0 ≤ q0 ∧ q0 < 4294967296 := by omega
                obtain ⟨R2, hR2⟩ : ∃ R2, R2 = R * 4294967296 + L0 - q0 * Y := ⟨_, rfl⟩
                have bR2 : 0 ≤ R2 ∧ R2 < Y := by have := st.2.1; omega
                have eR2 := wrap_rest R L0 q0 Y R2 hR2 bR2.1 (by omega)
                have FIN := hide ((unhide hend) _ _ _ _ (unhide HR) hR2 bR2.1 bR2.2)
                clear st sp sp1 HIN hR2
                go_wp2
                go_ret2
                exact ⟨ret_uu (unhide FIN).1 (unhide FIN).2, rfl⟩
              · have sp := hide ((unhide HIN).step (unhide D2) (Or.inl hc))
                go_wp2
                go_round
                case rel => exact ⟨_, _, rfl, rfl, by omega, (unhide sp).1⟩
                case measure => simp [intOf]; omega
            · by_cases hd : 4294967296 * r + L0 < q * V0
              · have s1 := ((unhide HIN).step (unhide D2) (Or.inr hd)).2
                by_cases hr : 4294967296 ≤ r + V1
                · have st := (unhide HIN).stop (unhide D2) hr
                  have sp := (unhide HIN).step (unhide D2) (Or.inr hd)
                  have sp1 := sp.1.hi
                  obtain ⟨q0, hq0⟩ : ∃ q0, q - 1 = q0 := ⟨_, rfl⟩
                  rw [hq0] at st sp1
                  have bq : 0 ≤ q0 ∧ q0 < 4294967296 := by omega
                  obtain ⟨R2, hR2⟩ : ∃ R2, R2 = R * 4294967296 + L0 - q0 * Y := ⟨_, rfl⟩
                  have bR2 : 0 ≤ R2 ∧ R2 < Y := by have := st.2.1; omega
                  have eR2 := wrap_rest R L0 q0 Y R2 hR2 bR2.1 (by omega)
                  have FIN := hide ((unhide hend) _ _ _ _ (unhide HR) hR2 bR2.1 bR2.2)
                  clear st sp sp1 HIN hR2
                  go_wp2
                  go_ret2
                  exact ⟨ret_uu (unhide FIN).1 (unhide FIN).2, rfl⟩
                · have sp := hide ((unhide HIN).step (unhide D2) (Or.inr hd))
                  go_wp2
                  go_round
                  case rel => exact ⟨_, _, rfl, rfl, by omega, (unhide sp).1⟩
                  case measure => simp [intOf]; omega
              · have st := (unhide HIN).done (unhide D2) hd
                have sp1 := (unhide HIN).hi
                obtain ⟨R2, hR2⟩ : ∃ R2, R2 = R * 4294967296 + L0 - q * Y := ⟨_, rfl⟩
                have bR2 : 0 ≤ R2 ∧ R2 < Y := by omega
                have eR2 := wrap_rest R L0 q Y R2 hR2 bR2.1 (by omega)
                have FIN := hide ((unhide hend) _ _ _ _ (unhide HR) hR2 bR2.1 bR2.2)
                clear st sp1 HIN hR2
                go_wp2
                go_ret2
                exact ⟨ret_uu (unhide FIN).1 (unhide FIN).2, rfl⟩
        · have sp := hide ((unhide HIN).step (unhide D) (Or.inr hd))
          go_wp2
          go_round
          case rel => exact ⟨_, _, rfl, rfl, by omega, (unhide sp).1⟩
          case measure => simp [intOf]; omega
      · have st : q < 4294967296 ∧ q * Y ≤ U * 4294967296 + L1 ∧ True := ⟨by omega, (unhide HIN).done (unhide D) hd, trivial⟩
        have sp1 := (unhide HIN).hi
        obtain ⟨q1, hq1⟩ : ∃ q1, q = q1 := ⟨_, rfl⟩
        subst hq1
        obtain ⟨R, hR⟩ : ∃ R, R = U * 4294967296 + L1 - q * Y := ⟨_, rfl⟩
        have bR : 0 ≤ R ∧ R < Y := by have := st.2.1; omega
        have eR := wrap_rest U L1 q Y R hR bR.1 (by omega)
        have D2 : Hid (DivBy R V1 V0 Y L0) := ⟨(unhide D).hY, (unhide D).v1, (unhide D).v0, bR, bL0⟩
        have eS := wrap_small R (R / V1) V1 (R % V1) (unhide D2).start.1.eq (unhide D2).start.1.r0 (by have := (unhide D2).start.2; omega) (by omega) (Int.mul_nonneg (unhide D2).start.1.q0 (by omega))
        have HR := hide hR
        clear hR st sp1 HIN
        go_wp2
        clear eR eS bp
        go_loop [16, 18] (fun tr tq => ∃ q r : Int, tq = .int .u64 q ∧ tr = .int .u64 r ∧ r < 4294967296 ∧ Guess R V1 V0 Y L0 q r) (fun _ tq => (intOf tq).toNat)
        case atStart => exact ⟨_, _, rfl, rfl, (unhide D2).start.2, (unhide D2).start.1⟩
        case round =>
          obtain ⟨q, r, rfl, rfl, br1, hin⟩ := hrel
          have bp := hin.low (unhide D2)
          have bq0 := hin.q0
          have bq1 := hin.q1
          have br0 := hin.r0
          have HIN := hide hin
          clear hin
          by_cases hc : 4294967296 ≤ q
          · by_cases hr : 4294967296 ≤ r + V1
            · have st := (unhide HIN).stop (unhide D2) hr
              have sp := (unhide HIN).step (unhide D2) (Or.inl hc)
              have sp1 := sp.1.hi
              obtain ⟨q0, hq0⟩ : ∃ q0, q - 1 = q0 := ⟨_, rfl⟩
              rw [hq0] at st sp1
              have bq : 0 ≤ q0 ∧ q0 < 4294967296 := by omega
              obtain ⟨R2, hR2⟩ : ∃ R2, R2 = R * 4294967296 + L0 - q0 * Y := ⟨_, rfl⟩
              have bR2 : 0 ≤ R2 ∧ R2 < Y := by have := st.2.1; omega
              have eR2 := wrap_rest R L0 q0 Y R2 hR2 bR2.1 (by omega)
              have FIN := hide ((unhide hend) _ _ _ _ (unhide HR) hR2 bR2.1 bR2.2)
              clear st sp sp1 HIN hR2
              go_wp2
              go_ret2
              exact ⟨ret_uu (unhide FIN).1 (unhide FIN).2, rfl⟩
            · have sp := hide ((unhide HIN).step (unhide D2) (Or.inl hc))
              go_wp2
              go_round
              case rel => exact ⟨_, _, rfl, rfl, by omega, (unhide sp).1⟩
              case measure => simp [intOf]; omega
          · by_cases hd : 4294967296 * r + L0 < q * V0
            · have s1 := ((unhide HIN).step (unhide D2) (Or.inr hd)).2
              by_cases hr : 4294967296 ≤ r + V1
              · have st := (unhide HIN).stop (unhide D2) hr
                have sp := (unhide HIN).step (unhide D2) (Or.inr hd)
                have sp1 := sp.1.hi
                obtain ⟨q0, hq0⟩ : ∃ q0, q - 1 = q0 := ⟨_, rfl⟩
                rw [hq0] at st sp1
                have bq : 0 ≤ q0 ∧ q0 < 4294967296 := by omega
                obtain ⟨R2, hR2⟩ : ∃ R2, R2 = R * 4294967296 + L0 - q0 * Y := ⟨_, rfl⟩
                have bR2 : 0 ≤ R2 ∧ R2 < Y := by have := st.2.1; omega
                have eR2 := wrap_rest R L0 q0 Y R2 hR2 bR2.1 (by omega)
                have FIN := hide ((unhide hend) _ _ _ _ (unhide HR) hR2 bR2.1 bR2.2)
                clear st sp sp1 HIN hR2
                go_wp2
                go_ret2
                exact ⟨ret_uu (unhide FIN).1 (unhide FIN).2, rfl⟩
              · have sp := hide ((unhide HIN).step (unhide D2) (Or.inr hd))
                go_wp2
                go_round
                case rel => exact ⟨_, _, rfl, rfl, by omega, (unhide sp).1⟩
                case measure => simp [intOf]; omega
            · have st := (unhide HIN).done (unhide D2) hd
              have sp1 := (unhide HIN).hi
              obtain ⟨R2, hR2⟩ : ∃ R2, R2 = R * 4294967296 + L0 - q * Y := ⟨_, rfl⟩
              have bR2 : 0 ≤ R2 ∧ R2 < Y := by omega
              have eR2 := wrap_rest R L0 q Y R2 hR2 bR2.1 (by omega)
              have FIN := hide ((unhide hend) _ _ _ _ (unhide HR) hR2 bR2.1 bR2.2)
              clear st sp1 HIN hR2
              go_wp2
              go_ret2
              exact ⟨ret_uu (unhide FIN).1 (unhide FIN).2, rfl⟩
end Go.Proofs.Ytddpladmkmpoaaa
