import Derived.Test.YtddpladmkmpoaaaDivW
import Derived.Deep.QuietTactic
import Derived.BigQuiet
namespace Go.Proofs.Ytddpladmkmpoaaa
open Go.ChangeShapes Go.WideShapes Go.ChangeAt Go.RowKit
set_option linter.unusedVariables false

/-- a shift that puts the top bit up -/
theorem shift_top (y : Nat) (h0 : y ≠ 0) (h1 : y < 18446744073709551616) : ∃ s : Nat, s < 64 ∧ (64 - (Lib.bitLen y : Int)) = (s : Int) ∧ 9223372036854775808 ≤ y * 2 ^ s ∧ y * 2 ^ s < 18446744073709551616 := by
  obtain ⟨a, b, c⟩ := Lib.bitLenAux_bounds 64 y h1 h0
  have hle : Lib.bitLenAux 64 y ≤ 64 := Lib.bitLenAux_le 64 y 64 h1
  have e : Lib.bitLen y = Lib.bitLenAux 64 y := rfl
  rw [e]
  generalize Lib.bitLenAux 64 y = L at *
  refine ⟨64 - L, by omega, by omega, ?_, ?_⟩
  · have h2 : 2 ^ (L - 1) * 2 ^ (64 - L) ≤ y * 2 ^ (64 - L) := Nat.mul_le_mul_right _ b
    rw [← Nat.pow_add, show L - 1 + (64 - L) = 63 by omega] at h2
    exact h2
  · have h2 : y * 2 ^ (64 - L) < 2 ^ L * 2 ^ (64 - L) := Nat.mul_lt_mul_of_pos_right c (Nat.pow_pos (by decide))
    rw [← Nat.pow_add, show L + (64 - L) = 64 by omega] at h2
    exact h2

theorem maskN (a : Nat) (ha : a < 18446744073709551616) : bits .and .u64 (a : Int) 4294967295 = ((a % 4294967296 : Nat) : Int) := Mul64.maskN a ha

/-- the dividend, shifted: its upper word and its lower -/
theorem shift_words (hi lo y s : Nat) (hs : s < 64) (h1 : lo < 18446744073709551616) (h3 : hi < y) (hY : y * 2 ^ s < 18446744073709551616) :
    bits BinOp.or IntKind.u64 (IntKind.u64.wrap ((hi : Int) * 2 ^ s)) ((lo : Int) / 2 ^ (64 - s)) = ((hi * 2 ^ s + lo / 2 ^ (64 - s) : Nat) : Int) ∧ hi * 2 ^ s + lo / 2 ^ (64 - s) < y * 2 ^ s ∧
    IntKind.u64.wrap ((lo : Int) * 2 ^ s) = ((lo * 2 ^ s % 18446744073709551616 : Nat) : Int) ∧ (hi * 2 ^ s + lo / 2 ^ (64 - s)) * 18446744073709551616 + lo * 2 ^ s % 18446744073709551616 = (hi * 18446744073709551616 + lo) * 2 ^ s := by
  have hp : 2 ^ (64 - s) * 2 ^ s = 18446744073709551616 := by rw [← Nat.pow_add, show 64 - s + s = 64 by omega]
  have hps : 0 < 2 ^ s := Nat.pow_pos (by decide)
  have hpt : 0 < 2 ^ (64 - s) := Nat.pow_pos (by decide)
  have c1 : ((hi : Int) * 2 ^ s) = ((hi * 2 ^ s : Nat) : Int) := by rw [Int.natCast_mul, Int.natCast_pow]; rfl
  have c2 : ((lo : Int) * 2 ^ s) = ((lo * 2 ^ s : Nat) : Int) := by rw [Int.natCast_mul, Int.natCast_pow]; rfl
  have c3 : ((lo : Int) / 2 ^ (64 - s)) = ((lo / 2 ^ (64 - s) : Nat) : Int) := by rw [Int.natCast_ediv, Int.natCast_pow]; rfl
  have hlow : lo / 2 ^ (64 - s) < 2 ^ s := by
    rw [Nat.div_lt_iff_lt_mul hpt, Nat.mul_comm, hp]
    exact h1
  have hup : (hi + 1) * 2 ^ s ≤ y * 2 ^ s := Nat.mul_le_mul_right _ h3
  rw [Nat.add_mul, Nat.one_mul] at hup
  have hsp : (2 : Nat) ^ s ≤ 18446744073709551616 := by
    rw [← hp]; exact Nat.le_mul_of_pos_left _ hpt
  have hq : lo * 2 ^ s / 18446744073709551616 = lo / 2 ^ (64 - s) := by
    rw [← hp]; exact Nat.mul_div_mul_right _ _ hps
  refine ⟨?_, by omega, ?_, ?_⟩
  · rw [c1, c3, uw_mod]
    have e : ((hi * 2 ^ s : Nat) : Int) % 18446744073709551616 = ((hi * 2 ^ s : Nat) : Int) := by omega
    rw [e, bits_or_u64_nat _ _ (by omega) (by omega)]
    have := Nat.two_pow_add_eq_or_of_lt hlow hi
    rw [Nat.mul_comm hi, ← this]
  · rw [c2, uw_mod]
    omega
  · have hd := Nat.div_add_mod (lo * 2 ^ s) 18446744073709551616
    rw [hq] at hd
    rw [Nat.add_mul, Nat.add_mul]
    have e : hi * 18446744073709551616 * 2 ^ s = hi * 2 ^ s * 18446744073709551616 := by rw [Nat.mul_assoc, Nat.mul_comm 18446744073709551616, ← Nat.mul_assoc]
    rw [e]
    omega

theorem div64_pos (hi lo y : Nat) (w : World) (h1 : lo < 18446744073709551616) (h2 : y < 18446744073709551616) (h0 : 0 < hi) (h3 : hi < y) :
    Calls Try.prog 56 #[.int .u64 hi, .int .u64 lo, .int .u64 y] w fun e w' => e = .returned (.tuple #[.int .u64 (((hi * 18446744073709551616 + lo) / y : Nat) : Int), .int .u64 (((hi * 18446744073709551616 + lo) % y : Nat) : Int)]) ∧ w' = w := by
  obtain ⟨s, hs, hlz, y1, y2⟩ := shift_top y (by omega) h2
  obtain ⟨eU, bU, eL, key⟩ := shift_words hi lo y s hs h1 h3 y2
  have cY : ((y : Int) * 2 ^ s) = ((y * 2 ^ s : Nat) : Int) := by rw [Int.natCast_mul, Int.natCast_pow]; rfl
  have cP : ((2 ^ s : Nat) : Int) = 2 ^ s := by rw [Int.natCast_pow]; rfl
  have hP : (0 : Int) < 2 ^ s := by rw [← cP]; exact Int.natCast_pos.2 (Nat.pow_pos (by decide))
  have eY : IntKind.u64.wrap ((y : Int) * 2 ^ s) = ((y * 2 ^ s : Nat) : Int) := by rw [cY, uw_mod]; omega
  have bL : lo * 2 ^ s % 18446744073709551616 < 18446744073709551616 := Nat.mod_lt _ (by decide)
  have keyI : ((hi * 2 ^ s + lo / 2 ^ (64 - s) : Nat) : Int) * 18446744073709551616 + ((lo * 2 ^ s % 18446744073709551616 : Nat) : Int) = ((hi : Int) * 18446744073709551616 + lo) * 2 ^ s := by
    rw [← cP]
    have := congrArg (fun n : Nat => (n : Int)) key
    simp only [Int.natCast_add, Int.natCast_mul] at this ⊢
    exact this
  generalize hUU : hi * 2 ^ s + lo / 2 ^ (64 - s) = U at *
  generalize hLL : lo * 2 ^ s % 18446744073709551616 = L at *
  generalize hYY : y * 2 ^ s = Y at *
  have eYI : ((Y : Nat) : Int) = (y : Int) * 2 ^ s := cY.symm
  refine (div64_walk hi lo y s w (by omega) (by omega) (by omega) hs Y ((Y / 4294967296 : Nat) : Int) ((Y % 4294967296 : Nat) : Int) U L ((L / 4294967296 : Nat) : Int) ((L % 4294967296 : Nat) : Int) eY (by omega) (by omega) (by omega) (maskN Y y2) (by omega) eU (by omega) eL (by omega) (by omega) (by omega) (maskN L bL) (by omega) ?_ ?_ (((hi : Int) * 18446744073709551616 + lo) / y) (((hi : Int) * 18446744073709551616 + lo) % y) ?_).mono ?_
  · intro w2
    have := Try.bits_LeadingZeros64 (y : Int) w2 (by omega) (by omega)
    rw [Int.toNat_natCast, hlz] at this
    exact this
  · exact ⟨by omega, by omega, by omega, by omega, by omega⟩
  · intro q1 R q0 R2 hR hR2 r0 r1
    have := div_both hi lo y (2 ^ s) Y U L _ _ q1 R q0 R2 hP (by omega) eYI keyI (by omega) hR hR2 r0 r1
    exact ⟨this.1.symm, this.2⟩
  · intro e w' hh
    refine ⟨?_, hh.2⟩
    rw [hh.1, Int.natCast_ediv, Int.natCast_emod, Int.natCast_add, Int.natCast_mul]
    rfl

set_option maxHeartbeats 1000000 in
theorem div64_zero (lo y : Int) (w : World) (h1 : 0 ≤ lo ∧ lo < 18446744073709551616) (h2 : 0 < y ∧ y < 18446744073709551616) :
    Calls Try.prog 56 #[.int .u64 0, .int .u64 lo, .int .u64 y] w fun e w' => e = .returned (.tuple #[.int .u64 (lo / y), .int .u64 (lo % y)]) ∧ ∃ n, w' = w.drewN n := by
  have hy0 : (y == 0) = false := by rw [beq_eq_false_iff_ne]; omega
  go_enter Try.func56, Try.ntmps56
  go_wp2
  go_quiet (fail)
  go_wp2
  go_ret2
  exact ⟨ret_uu rfl rfl, _, rfl⟩
end Go.Proofs.Ytddpladmkmpoaaa
