/- Plain lists of bytes: an amount's text says that amount. Nothing of the program. -/
import Derived.Test.YtddpladmkmpoaabDoorParD
namespace Go.Proofs.YtddpladmkmpoaabDoor
set_option linter.unusedVariables false
theorem ch_toNat {c : Nat} (h : c < 10) : (ch c).toNat = 48 + c := by
  have : c = 0 ∨ c = 1 ∨ c = 2 ∨ c = 3 ∨ c = 4 ∨ c = 5 ∨ c = 6 ∨ c = 7 ∨ c = 8 ∨ c = 9 := by omega
  rcases this with rfl | rfl | rfl | rfl | rfl | rfl | rfl | rfl | rfl | rfl <;> rfl
theorem ch_dig {c : Nat} (h : c < 10) : isDig (ch c) = true := (isDig_iff _).2 (by rw [ch_toNat h]; omega)
theorem dmin_all (f : Nat) : ∀ v l, (dmin f v l).all isDig = true := by
  induction f with
  | zero => intro v l; rfl
  | succ f ih =>
    intro v l
    by_cases h : 0 < v ∨ 0 < l
    · rw [dmin_go h, List.all_append, ih]
      have := ch_dig (show v % 10 < 10 from Nat.mod_lt _ (by decide))
      simp [this]
    · rw [dmin_end h]; rfl
theorem dmin_val (f : Nat) : ∀ v l, v < 10 ^ f → decFrom 0 (dmin f v l) = v := by
  induction f with
  | zero =>
    intro v l h
    have : v = 0 := by rw [Nat.pow_zero] at h; omega
    subst this
    rfl
  | succ f ih =>
    intro v l h
    by_cases hg : 0 < v ∨ 0 < l
    · have hm : v % 10 < 10 := Nat.mod_lt _ (by decide)
      rw [dmin_go hg, decFrom_app, ih (v / 10) (l - 1) (by rw [Nat.pow_succ] at h; omega), decFrom_cons, decFrom_nil, ch_toNat hm]
      omega
    · rw [dmin_end hg, decFrom_nil]
      omega
theorem dmin_ne (f v : Nat) : ¬ (dmin (f + 1) v 1).length = 0 := by
  rw [dmin_go (.inr (by decide)), List.length_append]
  simp
theorem decFrom_lin (l : List UInt8) : ∀ x, decFrom x l = x * 10 ^ l.length + decFrom 0 l := by
  induction l with
  | nil => intro x; rw [decFrom_nil, decFrom_nil, List.length_nil, Nat.pow_zero, Nat.mul_one, Nat.add_zero]
  | cons c r ih =>
    intro x
    rw [decFrom_cons, decFrom_cons, ih, ih (0 * 10 + (c.toNat - 48)), List.length_cons, Nat.pow_succ, Nat.add_mul, Nat.zero_mul, Nat.zero_add, Nat.add_assoc, Nat.mul_assoc, Nat.mul_comm 10]
theorem noDot {l : List UInt8} (h : l.all isDig = true) : cutP l = (l, [], false) := by
  induction l with
  | nil => exact cut_nil
  | cons c r ih =>
    rw [List.all_cons, Bool.and_eq_true] at h
    have hc : ¬ c = 46 := by intro e; rw [e] at h; exact absurd h.1 (by decide)
    rw [cut_other hc, ih h.2]
theorem withDot {l : List UInt8} (h : l.all isDig = true) (r : List UInt8) : cutP (l ++ 46 :: r) = (l, r, true) := by
  induction l with
  | nil => exact cut_dot r
  | cons c l ih =>
    rw [List.all_cons, Bool.and_eq_true] at h
    have hc : ¬ c = 46 := by intro e; rw [e] at h; exact absurd h.1 (by decide)
    rw [List.cons_append, cut_other hc, ih h.2]
theorem noMinus {l r : List UInt8} (h : l.all isDig = true) (hn : ¬ l.length = 0) : minusB (l ++ r) = false := by
  cases l with
  | nil => exact absurd rfl hn
  | cons c l =>
    rw [List.all_cons, Bool.and_eq_true] at h
    have hc : ¬ c = 45 := by intro e; rw [e] at h; exact absurd h.1 (by decide)
    simp [minusB, hc]
/-- the text behind the sign -/
def body (u d : Nat) : List UInt8 := dmin 40 (u / 10 ^ d) 1 ++ (if d = 0 then [] else 46 :: dmin 40 (u % 10 ^ d) d)
theorem body_pN (u d : Nat) (hd : d ≤ 6) (hu : u < 10 ^ 30) : pN d (body u d) = some u := by
  have hW := dmin_all 40 (u / 10 ^ d) 1
  have hWn := dmin_ne 39 (u / 10 ^ d)
  have hB := dmin_all 40 (u % 10 ^ d) d
  have hsp := split_digits d 40 u (by omega) hu
  have hp : 0 < 10 ^ d := Nat.pow_pos (by decide)
  have hWv := dmin_val 40 (u / 10 ^ d) 1 (Nat.lt_of_le_of_lt (Nat.div_le_self _ _) (Nat.lt_of_lt_of_le hu (Nat.pow_le_pow_right (by decide) (by decide))))
  have hBv := dmin_val 40 (u % 10 ^ d) d (Nat.lt_of_le_of_lt (Nat.mod_le _ _) (Nat.lt_of_lt_of_le hu (Nat.pow_le_pow_right (by decide) (by decide))))
  have hlen := hsp.2
  unfold body
  by_cases h0 : d = 0
  · subst h0
    rw [if_pos rfl, List.append_nil]
    have e := noDot hW
    rw [pN_some (by rw [e]; exact (allD_iff _).2 ⟨hW, hWn⟩) (by rw [e]; intro h; cases h) (by rw [e]; exact Nat.le_refl _), e]
    simp only [List.append_nil, List.length_nil, Nat.sub_self, Nat.pow_zero, Nat.mul_one, Nat.div_one] at hWv ⊢
    rw [hWv]
  · rw [if_neg h0]
    have e := withDot hW (dmin 40 (u % 10 ^ d) d)
    rw [pN_some (by rw [e]; exact (allD_iff _).2 ⟨hW, hWn⟩) (by rw [e]; intro _; exact (allD_iff _).2 ⟨hB, by rw [hlen]; exact h0⟩) (by rw [e]; exact Nat.le_of_eq hlen), e]
    simp only
    rw [hlen, Nat.sub_self, Nat.pow_zero, Nat.mul_one, decFrom_app, hWv, decFrom_lin, hlen, hBv]
    congr 1
    rw [Nat.mul_comm]
    exact Nat.div_add_mod u (10 ^ d)
theorem txt_body (a : Int) (d : Nat) : txt a d = (if a < 0 then [45] else []) ++ body a.natAbs d := rfl
theorem body_minus (u d : Nat) : minusB (body u d) = false := noMinus (dmin_all 40 (u / 10 ^ d) 1) (dmin_ne 39 (u / 10 ^ d))
/-- there and back -/
theorem par_txt (a : Int) (d : Nat) (hd : d ≤ 6) (h1 : -9223372036854775807 ≤ a) (h2 : a ≤ 9223372036854775807) : parSpec (txt a d) d = (a, 0) := by
  have hb := body_pN a.natAbs d hd (show a.natAbs < 10 ^ 30 by omega)
  rw [txt_body]
  by_cases hn : a < 0
  · rw [if_pos hn]
    have e1 : minusB ([45] ++ body a.natAbs d) = true := rfl
    have e2 : unsg ([45] ++ body a.natAbs d) = body a.natAbs d := rfl
    rw [parSpec_fits (by rw [e2]; exact hb) (by omega), e1, if_pos rfl]
    congr 1
    omega
  · rw [if_neg hn, List.nil_append]
    have e1 := body_minus a.natAbs d
    have e2 : unsg (body a.natAbs d) = body a.natAbs d := by unfold unsg; rw [e1]; rfl
    rw [parSpec_fits (by rw [e2]; exact hb) (by omega), e1, if_neg (by decide)]
    congr 1
    omega
theorem txt_inj {a b : Int} {d : Nat} (hd : d ≤ 6) (h1 : -9223372036854775807 ≤ a) (h2 : a ≤ 9223372036854775807) (k1 : -9223372036854775807 ≤ b) (k2 : b ≤ 9223372036854775807) (h : txt a d = txt b d) : a = b := by
  have e1 := par_txt a d hd h1 h2
  rw [h, par_txt b d hd k1 k2] at e1
  exact (Prod.mk.inj e1).1.symm
theorem dmin_len (f : Nat) : ∀ v l, (dmin f v l).length ≤ f := by
  induction f with
  | zero => intro v l; exact Nat.le_refl _
  | succ f ih =>
    intro v l
    by_cases h : 0 < v ∨ 0 < l
    · rw [dmin_go h, List.length_append]
      have := ih (v / 10) (l - 1)
      simp
      exact this
    · rw [dmin_end h]; exact Nat.zero_le _
theorem dmin_short (k : Nat) : ∀ f v l, v < 10 ^ k → l ≤ k → (dmin f v l).length ≤ k := by
  induction k with
  | zero =>
    intro f v l hv hl
    rw [Nat.pow_zero] at hv
    rw [dmin_end (by omega)]
    exact Nat.le_refl _
  | succ k ih =>
    intro f v l hv hl
    cases f with
    | zero => exact Nat.zero_le _
    | succ f =>
      by_cases h : 0 < v ∨ 0 < l
      · rw [dmin_go h, List.length_append]
        have := ih f (v / 10) (l - 1) (by rw [Nat.pow_succ] at hv; omega) (by omega)
        simp
        exact this
      · rw [dmin_end h]; exact Nat.zero_le _
theorem txt_len (a : Int) (d : Nat) (hd : d ≤ 6) (h1 : -9223372036854775807 ≤ a) (h2 : a ≤ 9223372036854775807) : (txt a d).length ≤ 40 := by
  have hW := dmin_short 19 40 (a.natAbs / 10 ^ d) 1 (Nat.lt_of_le_of_lt (Nat.div_le_self _ _) (show a.natAbs < 10 ^ 19 by omega)) (by decide)
  have hsp := split_digits d 40 a.natAbs (by omega) (show a.natAbs < 10 ^ 30 by omega)
  have hB := hsp.2
  rw [txt_body]
  unfold body
  simp only [List.length_append]
  split <;> split <;> simp only [List.length_cons, List.length_nil] <;> omega
end Go.Proofs.YtddpladmkmpoaabDoor
