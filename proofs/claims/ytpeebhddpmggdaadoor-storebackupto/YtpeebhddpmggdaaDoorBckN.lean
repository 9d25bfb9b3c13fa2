/- Frames one behind the other: what Scan finds. No program in it. -/
import Derived.Test.YtpeebhddpmggdaaDoorScaD
namespace Go.Proofs.YtpeebhddpmggdaaDoor
open Go Go.RowKit
set_option linter.unusedVariables false
theorem crcAt_ext {f g : Nat → Nat} : ∀ n, (∀ k, k < n → f k = g k) → crcAt f n = crcAt g n
  | 0, _ => rfl
  | n + 1, h => by
    have ih := crcAt_ext n (fun k hk => h k (by omega))
    simp only [crcAt, ih, h n (by omega)]
theorem crc_ext {f g : Nat → Nat} (n : Nat) (h : ∀ k, k < n → f k = g k) : crc f n = crc g n := by
  unfold crc
  rw [crcAt_ext n h]
theorem frB_ext {f g : Nat → Nat} (n : Nat) (h : ∀ k, k < n → f k = g k) (j : Nat) (hj : j < 8 + n) : frB f n j = frB g n j := by
  unfold frB
  rw [crc_ext n h]
  by_cases h8 : j < 8
  · rw [cat_lt h8, cat_lt h8]
  · obtain ⟨i, rfl⟩ : ∃ i, j = 8 + i := ⟨j - 8, by omega⟩
    rw [cat_ge, cat_ge]
    exact h i (by omega)
theorem frB_ge (f : Nat → Nat) (n j : Nat) : frB f n (8 + j) = f j := cat_ge j
theorem told_frB (f : Nat → Nat) (n : Nat) (hn : n ≤ 2048) : frB f n 0 + 256 * frB f n 1 = n := by
  have h0 : frB f n 0 = n % 256 := by
    show cat (cat (cat (lowB n) 2 (lowB (65535 - n))) 4 (lowB (crc f n))) 8 f 0 = _
    rw [cat_lt (by omega), cat_lt (by omega), cat_lt (by omega)]
    simp [lowB]
  have h1 : frB f n 1 = n / 256 % 256 := by
    show cat (cat (cat (lowB n) 2 (lowB (65535 - n))) 4 (lowB (crc f n))) 8 f 1 = _
    rw [cat_lt (by omega), cat_lt (by omega), cat_lt (by omega)]
    simp [lowB]
  omega
/-- a place where a frame was laid -/
theorem whole_of {f g : Nat → Nat} {m n : Nat} (hm : m ≤ 2048) (hn : 8 + m ≤ n) (h : ∀ j, j < 8 + m → f j = frB g m j) : toldN f = m ∧ Whole f n := by
  have ht : toldN f = m := by
    unfold toldN
    rw [h 0 (by omega), h 1 (by omega)]
    exact told_frB g m hm
  refine ⟨ht, ?_⟩
  unfold Whole
  rw [ht]
  refine ⟨hn, hm, fun j hj => ?_⟩
  rw [h j hj]
  refine frB_ext m (fun k hk => ?_) j hj
  show g k = f (8 + k)
  rw [h (8 + k) (by omega), frB_ge]
def offN (m : Nat → Nat) : Nat → Nat
  | 0 => 0
  | i + 1 => offN m i + (8 + m i)
theorem offN_mono (m : Nat → Nat) {i k : Nat} (h : i ≤ k) : offN m i ≤ offN m k := by
  induction k with
  | zero =>
    obtain rfl : i = 0 := by omega
    exact Nat.le_refl _
  | succ k ih =>
    by_cases hk : i = k + 1
    · rw [hk]; exact Nat.le_refl _
    · have := ih (by omega)
      simp only [offN]
      omega
theorem offN_le (m : Nat → Nat) (M : Nat) (hm : ∀ i, m i ≤ M) (k : Nat) : offN m k ≤ k * (8 + M) := by
  induction k with
  | zero => simp [offN]
  | succ k ih =>
    have := hm k
    simp only [offN, Nat.succ_mul]
    omega
/-- frames one behind the other -/
def allF (g : Nat → Nat → Nat) (m : Nat → Nat) : Nat → Nat → Nat
  | 0 => fun _ => 0
  | k + 1 => cat (allF g m k) (offN m k) (frB (g k) (m k))
theorem allF_at (g : Nat → Nat → Nat) (m : Nat → Nat) : ∀ k i j, i < k → j < 8 + m i → allF g m k (offN m i + j) = frB (g i) (m i) j
  | 0, i, j, h, _ => by omega
  | k + 1, i, j, h, hj => by
    by_cases hk : i = k
    · subst hk
      exact cat_ge j
    · have h1 := offN_mono m (show i + 1 ≤ k by omega)
      simp only [offN] at h1
      show cat (allF g m k) (offN m k) (frB (g k) (m k)) _ = _
      rw [cat_lt (by omega)]
      exact allF_at g m k i j (by omega) hj
/-- what Pre finds is what was laid -/
theorem pre_laid {f : Nat → Nat} {n k : Nat} {m : Nat → Nat} (hw : ∀ i, i < k → toldN (sh f (offN m i)) = m i ∧ Whole (sh f (offN m i)) (n - offN m i)) (hno : ¬ Whole (sh f (offN m k)) (n - offN m k)) {xs : List Fr} {o : Nat} (h : Pre f n xs o) :
    xs.length ≤ k ∧ o = offN m xs.length ∧ ∀ i x, xs[i]? = some x → x.at' = offN m i ∧ x.len = 8 + m i := by
  induction h with
  | nil => exact ⟨by simp, rfl, fun i x hx => by simp at hx⟩
  | @snoc xs o x h h1 h2 h3 ih =>
    obtain ⟨i1, i2, i3⟩ := ih
    have hlt : xs.length < k := by
      rcases Nat.lt_or_ge xs.length k with h' | h'
      · exact h'
      · have e : xs.length = k := by omega
        rw [i2, e] at h3
        exact absurd h3 hno
    have ht := (hw _ hlt).1
    rw [← i2] at ht
    refine ⟨by simp; omega, ?_, fun i y hy => ?_⟩
    · simp only [List.length_append, List.length_cons, List.length_nil, Nat.zero_add, offN]
      rw [h2, ht, i2]
    · rcases Nat.lt_or_ge i xs.length with hi | hi
      · rw [List.getElem?_append_left hi] at hy
        exact i3 i y hy
      · rw [List.getElem?_append_right hi] at hy
        have e : i - xs.length = 0 := by
          rcases Nat.eq_zero_or_pos (i - xs.length) with h' | h'
          · exact h'
          · rw [List.getElem?_eq_none (by simp; omega)] at hy; cases hy
        rw [e] at hy
        simp at hy
        subst hy
        have ei : i = xs.length := by omega
        rw [ei, ← i2, h1]
        refine ⟨rfl, ?_⟩
        rw [h2, ht]
theorem pre_all {f : Nat → Nat} {n k : Nat} {m : Nat → Nat} (hw : ∀ i, i < k → toldN (sh f (offN m i)) = m i ∧ Whole (sh f (offN m i)) (n - offN m i)) (hno : ¬ Whole (sh f (offN m k)) (n - offN m k)) {xs : List Fr} {o : Nat} (h : Pre f n xs o) (hend : ¬ Whole (sh f o) (n - o)) :
    xs.length = k ∧ o = offN m k ∧ ∀ i x, xs[i]? = some x → x.at' = offN m i ∧ x.len = 8 + m i := by
  obtain ⟨h1, h2, h3⟩ := pre_laid hw hno h
  have e : xs.length = k := by
    rcases Nat.lt_or_ge xs.length k with h' | h'
    · have := (hw _ h').2
      rw [← h2] at this
      exact absurd this hend
    · omega
  exact ⟨e, by rw [h2, e], h3⟩
/-- a beginning of what Pre found -/
theorem pre_at {f : Nat → Nat} {n : Nat} {xs : List Fr} {o : Nat} (h : Pre f n xs o) : ∀ i x, xs[i]? = some x → x.at' = endN (xs.take i) ∧ endN (xs.take (i + 1)) = x.at' + x.len ∧ x.len = 8 + toldN (sh f x.at') ∧ Whole (sh f x.at') (n - x.at') ∧ x.at' + x.len ≤ o := by
  induction h with
  | nil => intro i x hx; simp at hx
  | @snoc xs o x h h1 h2 h3 ih =>
    intro i y hy
    rcases Nat.lt_or_ge i xs.length with hi | hi
    · rw [List.getElem?_append_left hi] at hy
      obtain ⟨a1, a2, a3, a4, a5⟩ := ih i y hy
      rw [List.take_append_of_le_length (by omega), List.take_append_of_le_length (by omega)]
      exact ⟨a1, a2, a3, a4, by omega⟩
    · rw [List.getElem?_append_right hi] at hy
      have e : i - xs.length = 0 := by
        rcases Nat.eq_zero_or_pos (i - xs.length) with h' | h'
        · exact h'
        · rw [List.getElem?_eq_none (by simp; omega)] at hy; cases hy
      rw [e] at hy
      simp at hy
      subst hy
      have ei : i = xs.length := by omega
      subst ei
      have t1 : (xs ++ [x]).take xs.length = xs := by simp
      have t2 : (xs ++ [x]).take (xs.length + 1) = xs ++ [x] := List.take_of_length_le (by simp)
      rw [t1, t2, endN_snoc, h.end, h1]
      exact ⟨rfl, rfl, h2, h3, Nat.le_refl _⟩
/-- the bytes of a frame that stands whole -/
theorem frame_back {f : Nat → Nat} {n : Nat} (h : Whole f n) (j : Nat) (hj : j < 8 + toldN f) : f j = frB (sh f 8) (toldN f) j := h.2.2 j hj
end Go.Proofs.YtpeebhddpmggdaaDoor
