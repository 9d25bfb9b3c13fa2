/- Plain numbers: long division bit by bit, in words of 32 bits. Nothing of the program. -/
import Derived.Test.YtddpladmkmpoaaaNum
namespace Go.Proofs.Ytddpladmkmpoaaa
set_option linter.unusedVariables false

theorem B_is : (4294967296 : Nat) = 2 ^ 32 := by decide
theorem Bpow (j : Nat) : (4294967296 : Nat) ^ j = 2 ^ (32 * j) := by rw [B_is, ← Nat.pow_mul]

theorem dg_bit0 (n b : Nat) (h : n % 2 = 0) (hb : b ≤ 1) : dg (n + b) 0 = dg n 0 + b := by
  unfold dg
  simp only [Nat.pow_zero, Nat.div_one]
  omega
theorem dg_bitS (n b i : Nat) (h : n % 2 = 0) (hb : b ≤ 1) (hi : 1 ≤ i) : dg (n + b) i = dg n i := by
  obtain ⟨k, rfl⟩ : ∃ k, i = k + 1 := ⟨i - 1, by omega⟩
  unfold dg
  have e : ∀ m : Nat, m / 4294967296 ^ (k + 1) = m / 4294967296 / 4294967296 ^ k := fun m => by
    rw [Nat.pow_succ, Nat.mul_comm, Nat.div_div_eq_div_mul]
  rw [e, e, show (n + b) / 4294967296 = n / 4294967296 by omega]

/-- the bit at place 32 j + t -/
theorem bit_at (M j t : Nat) (ht : t < 32) : M / 4294967296 ^ j % 4294967296 / 2 ^ t % 2 = M / 2 ^ (32 * j + t) % 2 := by
  have e : (4294967296 : Nat) = 2 ^ t * 2 ^ (32 - t) := by rw [← Nat.pow_add, show t + (32 - t) = 32 by omega]
  have e2 : M / 2 ^ (32 * j + t) = M / 4294967296 ^ j / 2 ^ t := by rw [Nat.pow_add, ← Bpow, Nat.div_div_eq_div_mul]
  rw [e2]
  generalize M / 4294967296 ^ j = a
  conv => lhs; rw [e, Nat.mod_mul_right_div_self]
  obtain ⟨c, hc⟩ : ∃ c, 2 ^ (32 - t) = 2 * c := ⟨2 ^ (31 - t), by rw [← Nat.pow_succ', show (31 - t).succ = 32 - t by omega]⟩
  rw [hc, Nat.mod_mul_right_mod]

/-- a multiple of 2^(t+1) below a half word's end leaves room for 2^t -/
theorem add_bit (a t : Nat) (ht : t < 32) (h : a % 2 ^ (t + 1) = 0) : (a + 2 ^ t) % 4294967296 = a % 4294967296 + 2 ^ t := by
  have e : (4294967296 : Nat) = 2 ^ (t + 1) * 2 ^ (31 - t) := by rw [← Nat.pow_add, show t + 1 + (31 - t) = 32 by omega]
  obtain ⟨c, hc⟩ : ∃ c, a = 2 ^ (t + 1) * c := ⟨a / 2 ^ (t + 1), by have := Nat.div_add_mod a (2 ^ (t + 1)); omega⟩
  have hp : 2 ^ (t + 1) = 2 * 2 ^ t := by rw [Nat.pow_succ, Nat.mul_comm]
  have hpos : 0 < 2 ^ t := Nat.pow_pos (by decide)
  have hm : a % 4294967296 = 2 ^ (t + 1) * (c % 2 ^ (31 - t)) := by rw [hc, e, Nat.mul_mod_mul_left]
  have hlt : c % 2 ^ (31 - t) + 1 ≤ 2 ^ (31 - t) := Nat.mod_lt _ (Nat.pow_pos (by decide))
  have hle : 2 ^ (t + 1) * (c % 2 ^ (31 - t) + 1) ≤ 4294967296 := by
    rw [e]; exact Nat.mul_le_mul_left _ hlt
  rw [Nat.mul_add, Nat.mul_one] at hle
  rw [Nat.add_mod, hm]
  have h2 : 2 ^ t < 4294967296 := by omega
  rw [Nat.mod_eq_of_lt h2, Nat.mod_eq_of_lt (by omega)]

theorem dg_setJ (Q j t : Nat) (ht : t < 32) (h : Q % 2 ^ (32 * j + t + 1) = 0) : dg (Q + 2 ^ (32 * j + t)) j = dg Q j + ((2 ^ t : Nat) : Int) := by
  unfold dg
  have e : (2 : Nat) ^ (32 * j + t) = 4294967296 ^ j * 2 ^ t := by rw [Nat.pow_add, ← Bpow]
  have hpos : 0 < (4294967296 : Nat) ^ j := Nat.pow_pos (by decide)
  rw [e, Nat.add_mul_div_left _ _ hpos]
  have ha : Q / 4294967296 ^ j % 2 ^ (t + 1) = 0 := by
    have e3 : (2 : Nat) ^ (32 * j + t + 1) = 4294967296 ^ j * 2 ^ (t + 1) := by rw [Nat.add_assoc, Nat.pow_add, ← Bpow]
    rw [e3] at h
    rw [← Nat.mod_mul_right_div_self, h, Nat.zero_div]
  rw [add_bit _ t ht ha]
  omega
theorem dg_setL (Q j t l : Nat) (ht : t < 32) (hl : l < j) : dg (Q + 2 ^ (32 * j + t)) l = dg Q l := by
  unfold dg
  have hpos : 0 < (4294967296 : Nat) ^ l := Nat.pow_pos (by decide)
  have e : (2 : Nat) ^ (32 * j + t) = 4294967296 ^ l * (4294967296 * 2 ^ (32 * (j - l - 1) + t)) := by
    rw [Bpow, B_is, ← Nat.pow_add, ← Nat.pow_add]
    congr 1
    omega
  rw [e, Nat.add_mul_div_left _ _ hpos, Nat.add_mul_mod_self_left]
theorem dg_setH (Q j t l : Nat) (ht : t < 32) (hl : j < l) (h : Q % 2 ^ (32 * j + t + 1) = 0) : dg (Q + 2 ^ (32 * j + t)) l = dg Q l := by
  unfold dg
  have e : (4294967296 : Nat) ^ l = 2 ^ (32 * j + t + 1) * 2 ^ (32 * l - (32 * j + t + 1)) := by
    rw [Bpow, ← Nat.pow_add]
    congr 1
    omega
  rw [e, ← Nat.div_div_eq_div_mul, ← Nat.div_div_eq_div_mul]
  have hp : (2 : Nat) ^ (32 * j + t + 1) = 2 * 2 ^ (32 * j + t) := by rw [Nat.pow_succ, Nat.mul_comm]
  have hpos : 0 < (2 : Nat) ^ (32 * j + t) := Nat.pow_pos (by decide)
  have hq : (Q + 2 ^ (32 * j + t)) / 2 ^ (32 * j + t + 1) = Q / 2 ^ (32 * j + t + 1) := by
    obtain ⟨c, hc⟩ : ∃ c, Q = 2 ^ (32 * j + t + 1) * c := ⟨Q / 2 ^ (32 * j + t + 1), by have := Nat.div_add_mod Q (2 ^ (32 * j + t + 1)); omega⟩
    rw [hc, Nat.mul_add_div (by omega), Nat.mul_div_cancel_left _ (by omega), Nat.div_eq_of_lt (by omega)]
    rfl
  rw [hq]

/-- how far the division has come with the bits from k on -/
def ovR (M D k : Nat) : Nat := M / 2 ^ k % D
def ovQ (M D k : Nat) : Nat := M / 2 ^ k / D * 2 ^ k

theorem half_step (M i : Nat) : M / 2 ^ i = 2 * (M / 2 ^ (i + 1)) + M / 2 ^ i % 2 := by
  rw [Nat.pow_succ, ← Nat.div_div_eq_div_mul]
  omega
theorem ov_less (M D i : Nat) (hD : 0 < D) (h : 2 * ovR M D (i + 1) + M / 2 ^ i % 2 < D) : ovR M D i = 2 * ovR M D (i + 1) + M / 2 ^ i % 2 ∧ ovQ M D i = ovQ M D (i + 1) := by
  unfold ovR ovQ at *
  have hs := half_step M i
  generalize M / 2 ^ i % 2 = b at *
  generalize M / 2 ^ (i + 1) = A at *
  rw [hs]
  have hd := Nat.div_add_mod A D
  generalize A % D = r at *
  generalize A / D = q at *
  have e : 2 * A + b = D * (2 * q) + (2 * r + b) := by
    rw [← hd]
    have : D * (2 * q) = 2 * (D * q) := by rw [Nat.mul_left_comm]
    omega
  rw [e]
  refine ⟨by rw [Nat.mul_add_mod, Nat.mod_eq_of_lt h], ?_⟩
  rw [Nat.mul_add_div hD, Nat.div_eq_of_lt h, Nat.add_zero, Nat.pow_succ]
  rw [Nat.mul_comm 2 q, Nat.mul_assoc, Nat.mul_comm 2]
theorem ov_more (M D i : Nat) (hD : 0 < D) (h : D ≤ 2 * ovR M D (i + 1) + M / 2 ^ i % 2) : ovR M D i = 2 * ovR M D (i + 1) + M / 2 ^ i % 2 - D ∧ ovQ M D i = ovQ M D (i + 1) + 2 ^ i := by
  unfold ovR ovQ at *
  have hs := half_step M i
  have hb : M / 2 ^ i % 2 < 2 := Nat.mod_lt _ (by decide)
  generalize M / 2 ^ i % 2 = b at *
  have hr : M / 2 ^ (i + 1) % D < D := Nat.mod_lt _ hD
  generalize M / 2 ^ (i + 1) = A at *
  rw [hs]
  have hd := Nat.div_add_mod A D
  generalize A % D = r at *
  generalize A / D = q at *
  have e : 2 * A + b = D * (2 * q + 1) + (2 * r + b - D) := by
    rw [← hd]
    have : D * (2 * q + 1) = 2 * (D * q) + D := by rw [Nat.mul_add, Nat.mul_left_comm, Nat.mul_one]
    omega
  rw [e]
  refine ⟨by rw [Nat.mul_add_mod, Nat.mod_eq_of_lt (by omega)], ?_⟩
  rw [Nat.mul_add_div hD, Nat.div_eq_of_lt (by omega), Nat.add_zero, Nat.pow_succ, Nat.add_mul, Nat.one_mul]
  rw [Nat.mul_comm 2 q, Nat.mul_assoc, Nat.mul_comm 2]
theorem ovR_lt (M D k : Nat) (hD : 0 < D) : ovR M D k < D := Nat.mod_lt _ hD
theorem ovQ_mod (M D k : Nat) : ovQ M D k % 2 ^ k = 0 := Nat.mul_mod_left _ _
theorem ov_start (M D : Nat) (h : M < 4294967296 ^ 6) : ovR M D 192 = 0 ∧ ovQ M D 192 = 0 := by
  have e : (4294967296 : Nat) ^ 6 = 2 ^ 192 := Bpow 6
  rw [e] at h
  unfold ovR ovQ
  rw [Nat.div_eq_of_lt h]
  simp
theorem ov_end (M D : Nat) : ovR M D 0 = M % D ∧ ovQ M D 0 = M / D := by
  unfold ovR ovQ
  simp
end Go.Proofs.Ytddpladmkmpoaaa
