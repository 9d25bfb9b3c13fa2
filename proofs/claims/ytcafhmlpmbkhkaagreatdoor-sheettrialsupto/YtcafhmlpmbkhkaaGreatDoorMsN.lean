/- Plain numbers: the sums of a list, above and below 0. Nothing of the program. -/
import Derived.Test.YtcafhmlpmbkhkaaGreatDoorMnN
namespace Go.Proofs.YtcafhmlpmbkhkaaGreatDoor.Mw

def sumZ (zs : Nat → Int) : Nat → Int
  | 0 => 0
  | k + 1 => sumZ zs k + zs k
def upN (zs : Nat → Int) : Nat → Nat
  | 0 => 0
  | k + 1 => upN zs k + (if 0 ≤ zs k then (zs k).natAbs else 0)
def dnN (zs : Nat → Int) : Nat → Nat
  | 0 => 0
  | k + 1 => dnN zs k + (if 0 ≤ zs k then 0 else (zs k).natAbs)
def anyMin (zs : Nat → Int) : Nat → Bool
  | 0 => false
  | k + 1 => anyMin zs k || zs k == -9223372036854775808
/-- the document's answer of Sum: the sum and its error -/
def sumSpec (zs : Nat → Int) (len : Nat) : Int × Int :=
  if anyMin zs len then (0, 10)
  else if -9223372036854775808 < sumZ zs len ∧ sumZ zs len < 9223372036854775808 then (sumZ zs len, 0) else (0, 11)

theorem upN_pos {zs : Nat → Int} {k : Nat} (h : 0 ≤ zs k) : upN zs (k + 1) = upN zs k + (zs k).natAbs := by simp [upN, h]
theorem upN_neg {zs : Nat → Int} {k : Nat} (h : ¬ 0 ≤ zs k) : upN zs (k + 1) = upN zs k := by simp [upN, h]
theorem dnN_pos {zs : Nat → Int} {k : Nat} (h : 0 ≤ zs k) : dnN zs (k + 1) = dnN zs k := by simp [dnN, h]
theorem dnN_neg {zs : Nat → Int} {k : Nat} (h : ¬ 0 ≤ zs k) : dnN zs (k + 1) = dnN zs k + (zs k).natAbs := by simp [dnN, h]

theorem up_dn (zs : Nat → Int) : ∀ k, (upN zs k : Int) - dnN zs k = sumZ zs k
  | 0 => rfl
  | k + 1 => by
    have := up_dn zs k
    by_cases h : 0 ≤ zs k
    · rw [upN_pos h, dnN_pos h]; simp only [sumZ]; omega
    · rw [upN_neg h, dnN_neg h]; simp only [sumZ]; omega

theorem up_dn_bd (zs : Nat → Int) (len : Nat) (hz : ∀ k, k < len → -9223372036854775808 ≤ zs k ∧ zs k ≤ 9223372036854775807) : ∀ k, k ≤ len → upN zs k ≤ k * 9223372036854775808 ∧ dnN zs k ≤ k * 9223372036854775808
  | 0, _ => by simp [upN, dnN]
  | k + 1, hk => by
    have h1 := up_dn_bd zs len hz k (by omega)
    have h2 := hz k (by omega)
    have h3 : (zs k).natAbs ≤ 9223372036854775808 := by omega
    have h4 : (k + 1) * 9223372036854775808 = k * 9223372036854775808 + 9223372036854775808 := Nat.succ_mul _ _
    rw [h4]
    clear h2 hz h4
    generalize k * 9223372036854775808 = K at *
    by_cases h : 0 ≤ zs k
    · rw [upN_pos h, dnN_pos h]
      exact ⟨Nat.add_le_add h1.1 h3, Nat.le_trans h1.2 (Nat.le_add_right _ _)⟩
    · rw [upN_neg h, dnN_neg h]
      exact ⟨Nat.le_trans h1.1 (Nat.le_add_right _ _), Nat.add_le_add h1.2 h3⟩

theorem anyMin_mono (zs : Nat → Int) (k : Nat) (h : anyMin zs k = true) : ∀ j, k ≤ j → anyMin zs j = true
  | 0, hj => by
    have : k = 0 := by omega
    subst this
    exact h
  | j + 1, hj => by
    by_cases e : k = j + 1
    · subst e; exact h
    · have := anyMin_mono zs k h j (by omega)
      simp [anyMin, this]

theorem anyMin_ext {zs ys : Nat → Int} (n : Nat) (h : ∀ i, i < n → zs i = ys i) : anyMin zs n = anyMin ys n := by
  induction n with
  | zero => rfl
  | succ n ih => simp only [anyMin, ih (fun i hi => h i (by omega)), h n (by omega)]
theorem sumZ_ext {zs ys : Nat → Int} (n : Nat) (h : ∀ i, i < n → zs i = ys i) : sumZ zs n = sumZ ys n := by
  induction n with
  | zero => rfl
  | succ n ih => simp only [sumZ, ih (fun i hi => h i (by omega)), h n (by omega)]
theorem sumSpec_ext {zs ys : Nat → Int} (n : Nat) (h : ∀ i, i < n → zs i = ys i) : sumSpec zs n = sumSpec ys n := by
  simp only [sumSpec, anyMin_ext n h, sumZ_ext n h]

theorem sumSpec_bad {zs : Nat → Int} {len k : Nat} (hk : k < len) (hb : zs k = -9223372036854775808) : sumSpec zs len = (0, 10) := by
  have h1 : anyMin zs (k + 1) = true := by simp [anyMin, hb]
  have h2 := anyMin_mono zs (k + 1) h1 len (by omega)
  simp [sumSpec, h2]
theorem sumSpec_fits {zs : Nat → Int} {len : Nat} (h : anyMin zs len = false) (h1 : -9223372036854775808 < sumZ zs len) (h2 : sumZ zs len < 9223372036854775808) : sumSpec zs len = (sumZ zs len, 0) := by
  simp [sumSpec, h, h1, h2]
theorem sumSpec_over {zs : Nat → Int} {len : Nat} (h : anyMin zs len = false) (h1 : ¬ (-9223372036854775808 < sumZ zs len ∧ sumZ zs len < 9223372036854775808)) : sumSpec zs len = (0, 11) := by
  simp [sumSpec, h, h1]
theorem anyMin_step {zs : Nat → Int} {k : Nat} (h : anyMin zs k = false) (hk : ¬ zs k = -9223372036854775808) : anyMin zs (k + 1) = false := by
  simp [anyMin, h, hk]

/-- the sum of less than 2^63 numbers, in six words -/
theorem room (zs : Nat → Int) (len : Nat) (hl : len ≤ 9223372036854775807) (hz : ∀ k, k < len → -9223372036854775808 ≤ zs k ∧ zs k ≤ 9223372036854775807) (k : Nat) (hk : k ≤ len) : upN zs k < 340282366920938463463374607431768211456 ∧ dnN zs k < 340282366920938463463374607431768211456 := by
  have h := up_dn_bd zs len hz k hk
  have : k * 9223372036854775808 ≤ 9223372036854775807 * 9223372036854775808 := Nat.mul_le_mul_right _ (by omega)
  omega
end Go.Proofs.YtcafhmlpmbkhkaaGreatDoor.Mw
