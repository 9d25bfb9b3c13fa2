/- Plain arrays: sorted blocks, doubled from round to round. Nothing of the program. -/
import Derived.Test.YtddpladmkmpoaaaStbM
namespace Go.Proofs.Ytddpladmkmpoaaa
open Go.Sort
set_option linter.unusedVariables false
/-- a later block's places are higher -/
def Zp (bs : Nat) (c : Array Sh) (lo n : Nat) : Prop := ∀ x y, lo ≤ x → lo ≤ y → x < n → y < n → x / bs < y / bs → c[x]!.p < c[y]!.p
/-- each block is sorted -/
def Sp (bs : Nat) (c : Array Sh) (lo hi : Nat) : Prop := ∀ x y, lo ≤ x → x < y → y < hi → x / bs = y / bs → lts c[x]! c[y]!
theorem blk_at {bs k x : Nat} (h : 0 < bs) (h1 : k * bs ≤ x) (h2 : x < (k + 1) * bs) : x / bs = k := by
  have a := (Nat.le_div_iff_mul_le h).2 h1
  have b := (Nat.div_lt_iff_lt_mul h).2 h2
  omega
theorem blk_lt {bs k x : Nat} (h : 0 < bs) (h1 : x < k * bs) : x / bs < k := (Nat.div_lt_iff_lt_mul h).2 h1
theorem blk_ge {bs k x : Nat} (h : 0 < bs) (h1 : k * bs ≤ x) : k ≤ x / bs := (Nat.le_div_iff_mul_le h).2 h1
section
variable {c c' : Array Sh} {bs k a b n lo : Nat}
theorem zp_step (h0 : 0 < bs) (ha : a = k * bs) (hb : b ≤ (k + 1) * bs) (hbn : b ≤ n) (hn : n ≤ c.size) (P : PermIn a b c c') (h : Zp bs c 0 n) : Zp bs c' 0 n := by
  intro x y _ _ hx hy hxy
  by_cases h1 : a ≤ x ∧ x < b
  · have ex := blk_at h0 (show k * bs ≤ x by omega) (by omega)
    have hyb : ¬ (a ≤ y ∧ y < b) := fun h2 => by
      have := blk_at h0 (show k * bs ≤ y by omega) (show y < (k + 1) * bs by omega)
      omega
    rw [P.2.1 y (by omega)]
    refine permIn_all c c' a b (fun z => z.p < c[y]!.p) (by omega) P (fun i i1 i2 => h i y (Nat.zero_le _) (Nat.zero_le _) (by omega) hy ?_) x h1.1 h1.2
    rw [blk_at h0 (show k * bs ≤ i by omega) (by omega), ← ex]
    exact hxy
  · rw [P.2.1 x (by omega)]
    by_cases h2 : a ≤ y ∧ y < b
    · have ey := blk_at h0 (show k * bs ≤ y by omega) (by omega)
      refine permIn_all c c' a b (fun z => c[x]!.p < z.p) (by omega) P (fun i i1 i2 => h x i (Nat.zero_le _) (Nat.zero_le _) hx (by omega) ?_) y h2.1 h2.2
      rw [blk_at h0 (show k * bs ≤ i by omega) (by omega), ← ey]
      exact hxy
    · rw [P.2.1 y (by omega)]
      exact h x y (Nat.zero_le _) (Nat.zero_le _) hx hy hxy
theorem sp_step (h0 : 0 < bs) (ha : a = k * bs) (hb : b ≤ (k + 1) * bs) (P : PermIn a b c c') (h : Sp bs c 0 a) (s : Srt c' a b) : Sp bs c' 0 b := by
  intro x y _ hxy hy e
  by_cases h1 : y < a
  · rw [P.2.1 x (by omega), P.2.1 y (by omega)]
    exact h x y (Nat.zero_le _) hxy h1 e
  · have ey := blk_at h0 (show k * bs ≤ y by omega) (by omega)
    have hx : a ≤ x := by
      rw [ey] at e
      have := (Nat.le_div_iff_mul_le h0).1 (Nat.le_of_eq e.symm)
      omega
    exact s x y hx hxy hy
theorem sp_out (P : PermIn a b c c') (h : Sp bs c a n) (hab : a ≤ b) : Sp bs c' b n := by
  intro x y h1 h2 h3 e
  rw [P.2.1 x (by omega), P.2.1 y (by omega)]
  exact h x y (by omega) h2 h3 e
theorem zp_out (P : PermIn a b c c') (h : Zp bs c a n) (hab : a ≤ b) : Zp bs c' b n := by
  intro x y h1 h2 h3 h4 e
  rw [P.2.1 x (by omega), P.2.1 y (by omega)]
  exact h x y (by omega) (by omega) h3 h4 e
/-- the two runs of a double block -/
theorem run1 (h0 : 0 < bs) (ha : a = k * (2 * bs)) (hn : a + bs ≤ n) (h : Sp bs c a n) : Srt c a (a + bs) := by
  intro x y h1 h2 h3
  have e : k * (2 * bs) = (2 * k) * bs := by rw [Nat.mul_comm 2 k, Nat.mul_assoc]
  have f : (2 * k + 1) * bs = (2 * k) * bs + bs := Nat.succ_mul _ _
  exact h x y h1 h2 (by omega) ((blk_at (k := 2 * k) h0 (by omega) (by omega)).trans (blk_at (k := 2 * k) h0 (by omega) (by omega)).symm)
theorem run2 (h0 : 0 < bs) (ha : a = k * (2 * bs)) (hb : b ≤ a + 2 * bs) (hn : b ≤ n) (h : Sp bs c a n) : Srt c (a + bs) b := by
  intro x y h1 h2 h3
  have e : k * (2 * bs) = (2 * k) * bs := by rw [Nat.mul_comm 2 k, Nat.mul_assoc]
  have f : (2 * k + 1) * bs = (2 * k) * bs + bs := Nat.succ_mul _ _
  have g : (2 * k + 1 + 1) * bs = (2 * k + 1) * bs + bs := Nat.succ_mul _ _
  exact h x y (by omega) h2 (by omega) ((blk_at (k := 2 * k + 1) h0 (by omega) (by omega)).trans (blk_at (k := 2 * k + 1) h0 (by omega) (by omega)).symm)
theorem runC (h0 : 0 < bs) (ha : a = k * (2 * bs)) (hb : b ≤ a + 2 * bs) (hn : b ≤ n) (h : Zp bs c a n) : Crs c a (a + bs) b := by
  intro x y h1 h2 h3 h4 _
  have e : k * (2 * bs) = (2 * k) * bs := by rw [Nat.mul_comm 2 k, Nat.mul_assoc]
  have f : (2 * k + 1) * bs = (2 * k) * bs + bs := Nat.succ_mul _ _
  have g : (2 * k + 1 + 1) * bs = (2 * k + 1) * bs + bs := Nat.succ_mul _ _
  have ex := blk_at (k := 2 * k) h0 (show 2 * k * bs ≤ x by omega) (by omega)
  have ey := blk_at (k := 2 * k + 1) h0 (show (2 * k + 1) * bs ≤ y by omega) (by omega)
  exact h x y h1 (by omega) (by omega) (by omega) (by omega)
/-- no second run is left -/
theorem sp_rest (h0 : 0 < bs) (ha : a = k * (2 * bs)) (hn : n ≤ a + bs) (h : Sp (2 * bs) c 0 a) (h1 : Sp bs c a n) : Sp (2 * bs) c 0 n := by
  intro x y _ hxy hy e
  by_cases h2 : y < a
  · exact h x y (Nat.zero_le _) hxy h2 e
  · have ey := blk_ge (k := k) (show 0 < 2 * bs by omega) (show k * (2 * bs) ≤ y by omega)
    have hx : a ≤ x := by
      have := (Nat.le_div_iff_mul_le (show 0 < 2 * bs by omega)).1 (show k ≤ x / (2 * bs) by omega)
      omega
    have e1 : k * (2 * bs) = (2 * k) * bs := by rw [Nat.mul_comm 2 k, Nat.mul_assoc]
    have f : (2 * k + 1) * bs = (2 * k) * bs + bs := Nat.succ_mul _ _
    exact h1 x y hx hxy hy ((blk_at (k := 2 * k) h0 (by omega) (by omega)).trans (blk_at (k := 2 * k) h0 (by omega) (by omega)).symm)
theorem zp_double (h : Zp bs c 0 n) : Zp (2 * bs) c 0 n := by
  intro x y _ _ hx hy e
  refine h x y (Nat.zero_le _) (Nat.zero_le _) hx hy ?_
  rw [Nat.mul_comm, ← Nat.div_div_eq_div_mul, ← Nat.div_div_eq_div_mul] at e
  omega
theorem sp_end (hbn : n ≤ bs) (h : Sp bs c 0 n) : Srt c 0 n := by
  intro x y h1 h2 h3
  exact h x y h1 h2 h3 (by rw [Nat.div_eq_of_lt (by omega), Nat.div_eq_of_lt (by omega)])
end
end Go.Proofs.Ytddpladmkmpoaaa
