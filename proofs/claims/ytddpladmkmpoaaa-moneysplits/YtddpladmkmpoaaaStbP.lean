/- Plain arrays: one share put into a sorted run. Nothing of the program. -/
import Derived.Test.YtddpladmkmpoaaaStbM
namespace Go.Proofs.Ytddpladmkmpoaaa
open Go.Sort
set_option linter.unusedVariables false
/-- where the first one of the left run belongs in the right one -/
structure Fst (d : Array Sh) (a m b i j : Nat) : Prop where
  mi : m ≤ i
  ij : i ≤ j
  jb : j ≤ b
  lo : ∀ x, m ≤ x → x < i → lts d[x]! d[a]!
  hi : ∀ x, j ≤ x → x < b → lts d[a]! d[x]!
theorem Fst.left {d : Array Sh} {a m b i j h : Nat} (F : Fst d a m b i j) (h2 : Srt d m b) (h0 : i ≤ h) (h1 : h < j) (hl : lts d[h]! d[a]!) : Fst d a m b (h + 1) j := by
  have := F.mi; have := F.jb
  refine ⟨by omega, by omega, F.jb, fun x k1 k2 => ?_, F.hi⟩
  by_cases e : x = h
  · subst e; exact hl
  · exact lts_trans (h2 x h k1 (by omega) (by omega)) hl
theorem Fst.right {d : Array Sh} {a m b i j h : Nat} (F : Fst d a m b i j) (h2 : Srt d m b) (h0 : i ≤ h) (h1 : h < j) (hl : lts d[a]! d[h]!) : Fst d a m b i h := by
  have := F.mi; have := F.jb
  refine ⟨F.mi, h0, by omega, F.lo, fun x k1 k2 => ?_⟩
  by_cases e : x = h
  · subst e; exact hl
  · exact lts_trans hl (h2 h x (by omega) (by omega) k2)
/-- where the last one, the right run, belongs in the left one -/
structure Lst (d : Array Sh) (a m i j : Nat) : Prop where
  ai : a ≤ i
  ij : i ≤ j
  jm : j ≤ m
  lo : ∀ x, a ≤ x → x < i → lts d[x]! d[m]!
  hi : ∀ x, j ≤ x → x < m → lts d[m]! d[x]!
theorem Lst.left {d : Array Sh} {a m i j h : Nat} (F : Lst d a m i j) (h2 : Srt d a m) (h0 : i ≤ h) (h1 : h < j) (hl : lts d[h]! d[m]!) : Lst d a m (h + 1) j := by
  have := F.ai; have := F.jm
  refine ⟨by omega, by omega, F.jm, fun x k1 k2 => ?_, F.hi⟩
  by_cases e : x = h
  · subst e; exact hl
  · exact lts_trans (h2 x h k1 (by omega) (by omega)) hl
theorem Lst.right {d : Array Sh} {a m i j h : Nat} (F : Lst d a m i j) (h2 : Srt d a m) (h0 : i ≤ h) (h1 : h < j) (hl : lts d[m]! d[h]!) : Lst d a m i h := by
  have := F.ai; have := F.jm
  refine ⟨F.ai, h0, by omega, F.lo, fun x k1 k2 => ?_⟩
  by_cases e : x = h
  · subst e; exact hl
  · exact lts_trans hl (h2 h x (by omega) (by omega) k2)
/-- t exchanges upward from a -/
def mvU (d : Array Sh) (a : Nat) : Nat → Array Sh
  | 0 => d
  | t + 1 => swp (mvU d a t) (a + t) (a + t + 1)
theorem mvU_size (d : Array Sh) (a : Nat) : ∀ t, (mvU d a t).size = d.size
  | 0 => rfl
  | t + 1 => by rw [mvU, size_swp, mvU_size d a t]
theorem mvU_get (d : Array Sh) (a n : Nat) (hn : a + n < d.size) : ∀ t, t ≤ n → ∀ x, (mvU d a t)[x]! = if a ≤ x ∧ x < a + t then d[x + 1]! else if x = a + t then d[a]! else d[x]!
  | 0, _, x => by
    rw [mvU, if_neg (by omega)]
    split
    · rename_i h; rw [h, Nat.add_zero]
    · rfl
  | t + 1, ht, x => by
    have ih := mvU_get d a n hn t (by omega)
    rw [mvU, swp_get _ (by rw [mvU_size]; omega) (by rw [mvU_size]; omega), ih, ih, ih]
    (repeat' split) <;> first | rfl | (exfalso; omega) | (congr 1; omega)
theorem mvU_perm (d : Array Sh) (a n l r : Nat) (hla : l ≤ a) (hr : a + n < r) (hrd : r ≤ d.size) : ∀ t, t ≤ n → PermIn l r d (mvU d a t)
  | 0, _ => permIn_refl d l r
  | t + 1, ht => permIn_trans _ _ _ _ _ (mvU_perm d a n l r hla hr hrd t (by omega)) (swp_permIn _ _ _ _ _ (by omega) (by omega) (by omega) (by omega) (by rw [mvU_size]; exact hrd))
/-- t exchanges downward from m -/
def mvD (d : Array Sh) (m : Nat) : Nat → Array Sh
  | 0 => d
  | t + 1 => swp (mvD d m t) (m - t) (m - t - 1)
theorem mvD_size (d : Array Sh) (m : Nat) : ∀ t, (mvD d m t).size = d.size
  | 0 => rfl
  | t + 1 => by rw [mvD, size_swp, mvD_size d m t]
theorem mvD_get (d : Array Sh) (m n : Nat) (hm : m < d.size) (hn : n ≤ m) : ∀ t, t ≤ n → ∀ x, (mvD d m t)[x]! = if m - t < x ∧ x ≤ m then d[x - 1]! else if x = m - t then d[m]! else d[x]!
  | 0, _, x => by
    rw [mvD, if_neg (by omega)]
    split
    · rename_i h; rw [h, Nat.sub_zero]
    · rfl
  | t + 1, ht, x => by
    have ih := mvD_get d m n hm hn t (by omega)
    rw [mvD, swp_get _ (by rw [mvD_size]; omega) (by rw [mvD_size]; omega), ih, ih, ih]
    (repeat' split) <;> first | rfl | (exfalso; omega) | (congr 1; omega)
theorem mvD_perm (d : Array Sh) (m n l r : Nat) (hl : l + n ≤ m) (hr : m < r) (hrd : r ≤ d.size) : ∀ t, t ≤ n → PermIn l r d (mvD d m t)
  | 0, _ => permIn_refl d l r
  | t + 1, ht => permIn_trans _ _ _ _ _ (mvD_perm d m n l r hl hr hrd t (by omega)) (swp_permIn _ _ _ _ _ (by omega) (by omega) (by omega) (by omega) (by rw [mvD_size]; exact hrd))
/-- the first one is in its place -/
theorem fst_done {d : Array Sh} {a b i : Nat} (F : Fst d a (a + 1) b i i) (h2 : Srt d (a + 1) b) (hb : b ≤ d.size) : Srt (mvU d a (i - 1 - a)) a b := by
  have := F.mi; have := F.jb
  have g := mvU_get d a (i - 1 - a) (by omega) (i - 1 - a) (Nat.le_refl _)
  intro x y hx hxy hy
  rw [g, g]
  (repeat' split) <;> first | (exfalso; omega) | skip
  · exact h2 _ _ (by omega) (by omega) (by omega)
  · exact F.lo _ (by omega) (by omega)
  · exact h2 _ _ (by omega) (by omega) (by omega)
  · exact F.hi _ (by omega) (by omega)
  · exact h2 _ _ (by omega) (by omega) (by omega)
/-- the last one is in its place -/
theorem lst_done {d : Array Sh} {a m i : Nat} (F : Lst d a m i i) (h2 : Srt d a m) (hb : m < d.size) : Srt (mvD d m (m - i)) a (m + 1) := by
  have := F.ai; have := F.jm
  have g := mvD_get d m (m - i) hb (by omega) (m - i) (Nat.le_refl _)
  intro x y hx hxy hy
  rw [g, g]
  (repeat' split) <;> first | (exfalso; omega) | skip
  · exact h2 _ _ (by omega) (by omega) (by omega)
  · exact F.hi _ (by omega) (by omega)
  · exact h2 _ _ (by omega) (by omega) (by omega)
  · exact F.lo _ (by omega) (by omega)
  · exact h2 _ _ (by omega) (by omega) (by omega)
end Go.Proofs.Ytddpladmkmpoaaa
