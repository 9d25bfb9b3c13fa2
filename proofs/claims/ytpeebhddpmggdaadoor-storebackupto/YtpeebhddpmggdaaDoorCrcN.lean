/- Plain numbers: the sum of bytes, bit by bit and by four bits at once. No program in it. -/
import Derived.Test.YtpeebhddpmggdaaDoorProg
namespace Go.Proofs.YtpeebhddpmggdaaDoor
set_option linter.unusedVariables false
def Poly : Nat := 0xEDB88320
def step (s : Nat) : Nat := s / 2 ^^^ (if s % 2 = 1 then Poly else 0)
def steps : Nat → Nat → Nat
  | 0, s => s
  | n + 1, s => steps n (step s)
theorem xor_div2 (a b : Nat) : (a ^^^ b) / 2 = a / 2 ^^^ b / 2 := by
  have h := Nat.shiftRight_xor_distrib (a := a) (b := b) (i := 1)
  simpa only [Nat.shiftRight_eq_div_pow, Nat.pow_one] using h
theorem xor_mod2 (a b : Nat) : (a ^^^ b) % 2 = (a % 2 + b % 2) % 2 := by
  have h : (a ^^^ b) % 2 = (a % 2) ^^^ (b % 2) := by
    have := Nat.xor_mod_two_pow (a := a) (b := b) (n := 1)
    simpa only [Nat.pow_one] using this
  rw [h]
  have ha : a % 2 = 0 ∨ a % 2 = 1 := by omega
  have hb : b % 2 = 0 ∨ b % 2 = 1 := by omega
  rcases ha with ha | ha <;> rcases hb with hb | hb <;> rw [ha, hb] <;> rfl
theorem step_xor (a b : Nat) : step (a ^^^ b) = step a ^^^ step b := by
  unfold step
  rw [xor_div2, xor_mod2]
  have ha : a % 2 = 0 ∨ a % 2 = 1 := by omega
  have hb : b % 2 = 0 ∨ b % 2 = 1 := by omega
  rcases ha with ha | ha <;> rcases hb with hb | hb <;> simp only [ha, hb] <;> simp
  · ac_rfl
  · ac_rfl
  · rw [show a / 2 ^^^ Poly ^^^ (b / 2 ^^^ Poly) = a / 2 ^^^ b / 2 ^^^ (Poly ^^^ Poly) by ac_rfl, Nat.xor_self, Nat.xor_zero]
theorem steps_xor : ∀ (n a b : Nat), steps n (a ^^^ b) = steps n a ^^^ steps n b
  | 0, _, _ => rfl
  | n + 1, a, b => by simp only [steps, step_xor, steps_xor n]
theorem steps_low : ∀ (n h l : Nat), l < 2 ^ n → steps n (2 ^ n * h + l) = h ^^^ steps n l
  | 0, h, l, hl => by
    have : l = 0 := by simpa using hl
    subst this
    simp [steps]
  | n + 1, h, l, hl => by
    rw [Nat.pow_succ] at hl
    have e : step (2 ^ (n + 1) * h + l) = (2 ^ n * h + l / 2) ^^^ (if l % 2 = 1 then Poly else 0) := by
      unfold step
      have h1 : 2 ^ (n + 1) * h = 2 * (2 ^ n * h) := by rw [Nat.pow_succ, Nat.mul_comm (2 ^ n) 2, Nat.mul_assoc]
      rw [h1, show (2 * (2 ^ n * h) + l) / 2 = 2 ^ n * h + l / 2 by omega, show (2 * (2 ^ n * h) + l) % 2 = l % 2 by omega]
    simp only [steps]
    rw [e, steps_xor, steps_low n h (l / 2) (by omega), Nat.xor_assoc, ← steps_xor]
    rfl
def tab (l : Nat) : Nat := [0x00000000, 0x1db71064, 0x3b6e20c8, 0x26d930ac, 0x76dc4190, 0x6b6b51f4, 0x4db26158, 0x5005713c, 0xedb88320, 0xf00f9344, 0xd6d6a3e8, 0xcb61b38c, 0x9b64c2b0, 0x86d3d2d4, 0xa00ae278, 0xbdbdf21c].getD l 0
theorem tab_is : ∀ l, l < 16 → steps 4 l = tab l := by decide
theorem nib (s : Nat) : s / 16 ^^^ tab (s % 16) = steps 4 s := by
  rw [← tab_is _ (Nat.mod_lt _ (by decide)), ← steps_low 4 (s / 16) (s % 16) (Nat.mod_lt _ (by decide))]
  rw [show 2 ^ 4 * (s / 16) + s % 16 = s by omega]
theorem steps_add : ∀ (m n s : Nat), steps n (steps m s) = steps (m + n) s
  | 0, n, s => by simp [steps]
  | m + 1, n, s => by rw [show m + 1 + n = (m + n) + 1 by omega]; simp only [steps]; exact steps_add m n _
/-- a byte more -/
def byte1 (s x : Nat) : Nat := steps 8 (s ^^^ x)
/-- the sum ahead of its last turn, of the first k -/
def crcAt (f : Nat → Nat) : Nat → Nat
  | 0 => 4294967295
  | k + 1 => byte1 (crcAt f k) (f k)
def crc (f : Nat → Nat) (n : Nat) : Nat := crcAt f n ^^^ 4294967295
theorem step_lt {s : Nat} (h : s < 4294967296) : step s < 4294967296 := by
  unfold step
  have e : (4294967296 : Nat) = 2 ^ 32 := by decide
  rw [e] at h ⊢
  refine Nat.xor_lt_two_pow ?_ ?_
  · exact Nat.lt_of_le_of_lt (Nat.div_le_self _ _) h
  · split
    · decide
    · decide
theorem steps_lt : ∀ (n : Nat) {s : Nat}, s < 4294967296 → steps n s < 4294967296
  | 0, _, h => h
  | n + 1, _, h => steps_lt n (step_lt h)
theorem xor_lt32 {a b : Nat} (ha : a < 4294967296) (hb : b < 4294967296) : a ^^^ b < 4294967296 := by
  have e : (4294967296 : Nat) = 2 ^ 32 := by decide
  rw [e] at ha hb ⊢
  exact Nat.xor_lt_two_pow ha hb
theorem crcAt_lt (f : Nat → Nat) (hf : ∀ k, f k < 256) : ∀ k, crcAt f k < 4294967296
  | 0 => by show (4294967295 : Nat) < 4294967296; decide
  | k + 1 => steps_lt 8 (xor_lt32 (crcAt_lt f hf k) (by have := hf k; omega))
theorem tab_lt : ∀ l, l < 16 → tab l < 4294967296 := by decide
theorem nib_two (s : Nat) : (s / 16 ^^^ tab (s % 16)) / 16 ^^^ tab ((s / 16 ^^^ tab (s % 16)) % 16) = steps 8 s := by
  rw [nib s, nib, steps_add]
end Go.Proofs.YtpeebhddpmggdaaDoor
