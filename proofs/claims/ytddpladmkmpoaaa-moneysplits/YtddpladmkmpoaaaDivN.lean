/- Plain numbers: long division of two words by one, half a word at a time. Nothing of the program. -/
import GoSem.Claim
namespace Go.Proofs.Ytddpladmkmpoaaa

/-- the divisor in two halves, its top bit set; the dividend's upper part below it -/
structure DivBy (U V1 V0 Y x : Int) : Prop where
  hY : Y = V1 * 4294967296 + V0
  v1 : 2147483648 ≤ V1 ∧ V1 < 4294967296
  v0 : 0 ≤ V0 ∧ V0 < 4294967296
  u : 0 ≤ U ∧ U < Y
  x : 0 ≤ x ∧ x < 4294967296

/-- a guess q with its rest r: not too small -/
structure Guess (U V1 V0 Y x q r : Int) : Prop where
  eq : q * V1 + r = U
  hi : U * 4294967296 + x < q * Y + Y
  q0 : 0 ≤ q
  q1 : q ≤ 4294967297
  r0 : 0 ≤ r

theorem DivBy.mulY {U V1 V0 Y x : Int} (h : DivBy U V1 V0 Y x) (q : Int) : q * Y = q * V1 * 4294967296 + q * V0 := by
  rw [h.hY, Int.mul_add, ← Int.mul_assoc]

theorem DivBy.start {U V1 V0 Y x : Int} (h : DivBy U V1 V0 Y x) : Guess U V1 V0 Y x (U / V1) (U % V1) ∧ U % V1 < 4294967296 := by
  have e : U / V1 * V1 + U % V1 = U := by rw [Int.mul_comm]; exact Int.mul_ediv_add_emod U V1
  have r0 := Int.emod_nonneg U (show V1 ≠ 0 by have := h.v1; omega)
  have r1 := Int.emod_lt_of_pos U (show 0 < V1 by have := h.v1; omega)
  have q0 : 0 ≤ U / V1 := Int.ediv_nonneg h.u.1 (by have := h.v1; omega)
  have hv := h.v1
  have hv0 := h.v0
  have hu := h.u
  have hx := h.x
  have m := h.mulY (U / V1)
  have hY := h.hY
  generalize U / V1 = q at *
  generalize U % V1 = r at *
  refine ⟨⟨e, ?_, q0, ?_, r0⟩, by omega⟩
  · rw [m]
    have h1 : 0 ≤ q * V0 := Int.mul_nonneg q0 hv0.1
    omega
  · by_cases hq : q ≤ 4294967297
    · exact hq
    · have h1 : 4294967298 * V1 ≤ q * V1 := Int.mul_le_mul_of_nonneg_right (by omega) (by omega)
      omega

theorem Guess.low {U V1 V0 Y x q r : Int} (g : Guess U V1 V0 Y x q r) (h : DivBy U V1 V0 Y x) : 0 ≤ q * V0 ∧ q * V0 < 18446744073709551616 := by
  have hv0 := h.v0
  refine ⟨Int.mul_nonneg g.q0 hv0.1, ?_⟩
  have h1 : q * V0 ≤ 4294967297 * V0 := Int.mul_le_mul_of_nonneg_right g.q1 hv0.1
  omega

theorem Guess.step {U V1 V0 Y x q r : Int} (g : Guess U V1 V0 Y x q r) (h : DivBy U V1 V0 Y x) (hc : 4294967296 ≤ q ∨ 4294967296 * r + x < q * V0) : Guess U V1 V0 Y x (q - 1) (r + V1) ∧ 1 ≤ q := by
  have hv := h.v1
  have hv0 := h.v0
  have hu := h.u
  have hx := h.x
  have m := h.mulY q
  have e := g.eq
  have q0 := g.q0
  have r0 := g.r0
  have q1 := g.q1
  have lo := g.low h
  have hq : 1 ≤ q := by
    rcases hc with hc | hc
    · omega
    · by_cases hz : q = 0
      · subst hz; rw [Int.zero_mul] at hc; omega
      · omega
  have e1 : (q - 1) * V1 = q * V1 - V1 := by rw [Int.sub_mul, Int.one_mul]
  have e2 : (q - 1) * Y = q * Y - Y := by rw [Int.sub_mul, Int.one_mul]
  refine ⟨⟨by omega, ?_, by omega, by omega, by omega⟩, hq⟩
  rw [e2]
  rcases hc with hc | hc
  · have h1 : 4294967296 * Y ≤ q * Y := Int.mul_le_mul_of_nonneg_right hc (by omega)
    omega
  · omega

/-- where the rest has left a half word, the guess is right -/
theorem Guess.stop {U V1 V0 Y x q r : Int} (g : Guess U V1 V0 Y x q r) (h : DivBy U V1 V0 Y x) (hb : 4294967296 ≤ r + V1) : q - 1 < 4294967296 ∧ (q - 1) * Y ≤ U * 4294967296 + x ∧ q ≤ 4294967296 := by
  have hv := h.v1
  have hv0 := h.v0
  have hu := h.u
  have hx := h.x
  have m := h.mulY q
  have e := g.eq
  have q1 := g.q1
  have hY := h.hY
  have hq : q ≤ 4294967296 := by
    by_cases hz : q = 4294967297
    · subst hz; omega
    · omega
  have e2 : (q - 1) * Y = q * Y - Y := by rw [Int.sub_mul, Int.one_mul]
  have e3 : (q - 1) * V0 = q * V0 - V0 := by rw [Int.sub_mul, Int.one_mul]
  have h1 : (q - 1) * V0 ≤ 4294967295 * V0 := Int.mul_le_mul_of_nonneg_right (by omega) hv0.1
  refine ⟨by omega, ?_, hq⟩
  rw [e2]
  omega

theorem Guess.done {U V1 V0 Y x q r : Int} (g : Guess U V1 V0 Y x q r) (h : DivBy U V1 V0 Y x) (hc : ¬ 4294967296 * r + x < q * V0) : q * Y ≤ U * 4294967296 + x := by
  have m := h.mulY q
  have e := g.eq
  omega

/-- the whole: both halves -/
theorem div_both (hi lo y P Y U L L1 L0 q1 R q0 R2 : Int) (hP : 0 < P) (hy : 0 < y) (eY : Y = y * P) (eU : U * 18446744073709551616 + L = (hi * 18446744073709551616 + lo) * P) (eL : L = L1 * 4294967296 + L0)
    (eR : R = U * 4294967296 + L1 - q1 * Y) (eR2 : R2 = R * 4294967296 + L0 - q0 * Y) (h0 : 0 ≤ R2) (h1 : R2 < Y) :
    (hi * 18446744073709551616 + lo) / y = q1 * 4294967296 + q0 ∧ R2 / P = (hi * 18446744073709551616 + lo) % y := by
  generalize hi * 18446744073709551616 + lo = N at *
  have key : N * P = (q1 * 4294967296 + q0) * Y + R2 := by
    rw [← eU, Int.add_mul]
    have : q1 * 4294967296 * Y = q1 * Y * 4294967296 := by rw [Int.mul_assoc, Int.mul_comm 4294967296 Y, ← Int.mul_assoc]
    rw [this]
    omega
  generalize q1 * 4294967296 + q0 = Q at *
  have e1 : Q * Y = Q * y * P := by rw [eY, Int.mul_assoc]
  have e2 : R2 = (N - Q * y) * P := by rw [Int.sub_mul]; omega
  have e3 : R2 / P = N - Q * y := by rw [e2]; exact Int.mul_ediv_cancel _ (by omega)
  have r0 : 0 ≤ N - Q * y := by rw [← e3]; exact Int.ediv_nonneg h0 (by omega)
  have r1 : N - Q * y < y := by
    by_cases hh : N - Q * y < y
    · exact hh
    · have : y * P ≤ (N - Q * y) * P := Int.mul_le_mul_of_nonneg_right (by omega) (by omega)
      omega
  have e4 : N = (N - Q * y) + y * Q := by rw [Int.mul_comm y Q]; omega
  refine ⟨?_, ?_⟩
  · rw [e4, Int.add_mul_ediv_left _ _ (by omega), Int.ediv_eq_zero_of_lt (by omega) (by omega)]
    omega
  · rw [e3]
    conv => rhs; rw [e4]
    rw [Int.add_mul_emod_self_left, Int.emod_eq_of_lt (by omega) (by omega)]
end Go.Proofs.Ytddpladmkmpoaaa
