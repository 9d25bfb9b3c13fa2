/- Plain arrays: exchanges of runs, rotations, merges of sorted runs. Nothing of the program. -/
import Derived.Sort.LotA
namespace Go.Proofs.Ytddpladmkmpoaaa
open Go.Sort
set_option linter.unusedVariables false
/-- a share: its place, its part, the rest of its division -/
structure Sh where
  p : Int
  q : Int
  r : Nat
  deriving Inhabited
/-- the order that a stable sort by falling rests ends in -/
def lts (x y : Sh) : Prop := y.r < x.r ∨ x.r = y.r ∧ x.p < y.p
theorem lts_trans {x y z : Sh} (h : lts x y) (k : lts y z) : lts x z := by
  unfold lts at *
  omega
/-- one behind the other, each is ahead of all behind it -/
def Srt (d : Array Sh) (a b : Nat) : Prop := ∀ x y, a ≤ x → x < y → y < b → lts d[x]! d[y]!
/-- of equal rests the left run's places are lower -/
def Crs (d : Array Sh) (a m b : Nat) : Prop := ∀ x y, a ≤ x → x < m → m ≤ y → y < b → d[x]!.r = d[y]!.r → d[x]!.p < d[y]!.p
/-- i exchanges: a and b, a + 1 and b + 1, .. -/
def swapR (d : Array Sh) (a b : Nat) : Nat → Array Sh
  | 0 => d
  | i + 1 => swp (swapR d a b i) (a + i) (b + i)
theorem swapR_size (d : Array Sh) (a b : Nat) : ∀ n, (swapR d a b n).size = d.size
  | 0 => rfl
  | i + 1 => by rw [swapR, size_swp, swapR_size d a b i]
theorem swapR_get (d : Array Sh) (a b n : Nat) (hab : a + n ≤ b) (hb : b + n ≤ d.size) : ∀ i, i ≤ n → ∀ x, (swapR d a b i)[x]! = if a ≤ x ∧ x < a + i then d[x - a + b]! else if b ≤ x ∧ x < b + i then d[x - b + a]! else d[x]!
  | 0, _, x => by rw [swapR, if_neg (by omega), if_neg (by omega)]
  | i + 1, hi, x => by
    have ih := swapR_get d a b n hab hb i (by omega)
    rw [swapR, swp_get _ (by rw [swapR_size]; omega) (by rw [swapR_size]; omega), ih, ih, ih]
    (repeat' split) <;> first | rfl | (exfalso; omega) | (congr 1; omega)
theorem swapR_perm (d : Array Sh) (a b n l r : Nat) (hla : l ≤ a) (hab : a ≤ b) (hbr : b + n ≤ r) (hr : r ≤ d.size) : ∀ i, i ≤ n → PermIn l r d (swapR d a b i)
  | 0, _ => permIn_refl d l r
  | i + 1, hi => permIn_trans _ _ _ _ _ (swapR_perm d a b n l r hla hab hbr hr i (by omega)) (swp_permIn _ _ _ _ _ (by omega) (by omega) (by omega) (by omega) (by rw [swapR_size]; exact hr))
/-- where a rotation about m puts what -/
def rotF (d : Array Sh) (l m r x : Nat) : Sh := if l ≤ x ∧ x < l + (r - m) then d[x - l + m]! else if l + (r - m) ≤ x ∧ x < r then d[x - (r - m)]! else d[x]!
theorem rot_more {c : Array Sh} {m i j : Nat} (hi : i ≤ m) (hm : m + j ≤ c.size) (hij : j < i) (h0 : 0 < j) (x : Nat) : rotF (swapR c (m - i) m j) (m - (i - j)) m (m + j) x = rotF c (m - i) m (m + j) x := by
  have g := swapR_get c (m - i) m j (by omega) (by omega) j (Nat.le_refl _)
  unfold rotF
  rw [g, g, g]
  (repeat' split) <;> first | rfl | (exfalso; omega) | (congr 1; omega)
theorem rot_less {c : Array Sh} {m i j : Nat} (hi : i ≤ m) (hm : m + j ≤ c.size) (hij : i < j) (h0 : 0 < i) (x : Nat) : rotF (swapR c (m - i) (m + j - i) i) (m - i) m (m + (j - i)) x = rotF c (m - i) m (m + j) x := by
  have g := swapR_get c (m - i) (m + j - i) i (by omega) (by omega) i (Nat.le_refl _)
  unfold rotF
  rw [g, g, g]
  (repeat' split) <;> first | rfl | (exfalso; omega) | (congr 1; omega)
theorem rot_end {c : Array Sh} {m i : Nat} (hi : i ≤ m) (hm : m + i ≤ c.size) (x : Nat) : (swapR c (m - i) m i)[x]! = rotF c (m - i) m (m + i) x := by
  rw [swapR_get c (m - i) m i (by omega) (by omega) i (Nat.le_refl _)]
  unfold rotF
  (repeat' split) <;> first | rfl | (exfalso; omega) | (congr 1; omega)
end Go.Proofs.Ytddpladmkmpoaaa
