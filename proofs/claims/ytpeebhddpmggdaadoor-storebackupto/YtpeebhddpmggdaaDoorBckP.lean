/- StoreBack: what is found in frames laid end to end. No program in it but the bytes. -/
import Derived.Test.YtpeebhddpmggdaaDoorBckB
namespace Go.Proofs.YtpeebhddpmggdaaDoor
open Go Go.RowKit
set_option linter.unusedVariables false
def tornN : Nat → Nat := fun k => [116, 111, 114, 110, 32, 101, 110, 100].getD k 0
theorem torn_lt : ∀ k, tornN k < 256 := fun k => by
  by_cases h : k < 8
  · have : ∀ k, k < 8 → tornN k < 256 := by decide
    exact this k h
  · unfold tornN
    rw [List.getD_eq_getElem?_getD, List.getElem?_eq_none (by simp; omega)]
    decide
theorem allF_lt {r : Nat → Nat → Nat} {m : Nat → Nat} (h : ∀ j k, r j k < 256) : ∀ i k, allF r m i k < 256
  | 0, _ => by show 0 < 256; omega
  | i + 1, k => cat_lt256 (allF_lt h i) (frB_lt _ (h i) _) k
/-- what Scan finds in frames laid end to end with a torn one behind them -/
theorem scan_laid {r : Nat → Nat → Nat} {m : Nat → Nat} (hm : ∀ j, m j ≤ 2048) {i N q : Nat} (hN : offN m i = N) (hq : q < 16) {xs : List Fr} {o : Nat}
    (hp : Pre (cat (allF r m i) N (frB tornN 8)) (N + q) xs o) (hnw : ¬ Whole (sh (cat (allF r m i) N (frB tornN 8)) o) (N + q - o)) :
    xs.length = i ∧ o = N ∧ ∀ j x, xs[j]? = some x → x.len = 8 + m j ∧ ∀ t, t < m j → sh (cat (allF r m i) N (frB tornN 8)) (x.at' + 8) t = r j t := by
  subst hN
  have hfr : ∀ j, j < i → ∀ t, t < 8 + m j → cat (allF r m i) (offN m i) (frB tornN 8) (offN m j + t) = frB (r j) (m j) t := fun j hj t ht => by
    have h1 := offN_mono m (show j + 1 ≤ i by omega)
    simp only [offN] at h1
    rw [cat_lt (by omega)]
    exact allF_at r m i j t hj ht
  have hw : ∀ j, j < i → toldN (sh (cat (allF r m i) (offN m i) (frB tornN 8)) (offN m j)) = m j ∧ Whole (sh (cat (allF r m i) (offN m i) (frB tornN 8)) (offN m j)) (offN m i + q - offN m j) := fun j hj => by
    have h1 := offN_mono m (show j + 1 ≤ i by omega)
    simp only [offN] at h1
    exact whole_of (g := r j) (hm j) (by omega) (hfr j hj)
  have hno : ¬ Whole (sh (cat (allF r m i) (offN m i) (frB tornN 8)) (offN m i)) (offN m i + q - offN m i) := fun h => by
    have ht : toldN (sh (cat (allF r m i) (offN m i) (frB tornN 8)) (offN m i)) = 8 := by
      unfold toldN sh
      rw [cat_ge, cat_ge]
      exact told_frB tornN 8 (by omega)
    have := h.1
    rw [ht] at this
    omega
  obtain ⟨h1, h2, h3⟩ := pre_all hw hno hp hnw
  refine ⟨h1, h2, fun j x hx => ?_⟩
  have hj : j < i := by
    rw [← h1]
    exact (List.getElem?_eq_some_iff.1 hx).1
  obtain ⟨h4, h5⟩ := h3 j x hx
  refine ⟨h5, fun t ht => ?_⟩
  show cat (allF r m i) (offN m i) (frB tornN 8) (x.at' + 8 + t) = r j t
  rw [h4, Nat.add_assoc, hfr j hj (8 + t) (by omega), frB_ge]
/-- a frame of what was found, behind what lies ahead of it -/
theorem back_step {f : Nat → Nat} {at' len n : Nat} (h : Whole (sh f at') n) (hl : len = 8 + toldN (sh f at')) : bcells (cat f at' (frB (sh f (at' + 8)) (len - 8))) (at' + (8 + (len - 8))) = bcells f (at' + len) := by
  have e : 8 + (len - 8) = len := by omega
  rw [e]
  refine bcells_ext _ (fun k hk => ?_)
  by_cases hk' : k < at'
  · exact cat_lt hk'
  · obtain ⟨t, rfl⟩ : ∃ t, k = at' + t := ⟨k - at', by omega⟩
    rw [cat_ge]
    have e2 : len - 8 = toldN (sh f at') := by omega
    have h3 := h.2.2 t (by omega)
    rw [e2, ← sh_sh]
    exact h3.symm
/-- the second loop: the frames of what was found -/
def Lq (f : Nat → Nat) (xs : List Fr) (w8 : World) (vb vi : Value) (wr : World) : Prop :=
  ∃ i : Nat, vi = .int .i64 (i : Int) ∧ i ≤ xs.length ∧ wr.ownsRow w8.heap.size 5 1 vb (endN (xs.take i)) (bcells f (endN (xs.take i))) ∧ Below w8.heap.size w8 wr
theorem cut_rem (ct : Int) (h : -9223372036854775808 ≤ ct ∧ ct ≤ 9223372036854775807) : ∃ q : Nat, q < 16 ∧ ((ct < 0 ∧ (wrap64 (-wrap64 (ct + 1))).tmod 16 = (q : Int)) ∨ (¬ ct < 0 ∧ ct.tmod 16 = (q : Int))) := by
  by_cases h0 : ct < 0
  · have e1 : wrap64 (ct + 1) = ct + 1 := by unfold wrap64; omega
    have e2 : wrap64 (-(ct + 1)) = -(ct + 1) := by unfold wrap64; omega
    refine ⟨((-(ct + 1)).tmod 16).toNat, ?_, .inl ⟨h0, ?_⟩⟩
    · have := Int.tmod_lt_of_pos (-(ct + 1)) (show (0 : Int) < 16 by omega)
      have := Int.tmod_nonneg 16 (show 0 ≤ -(ct + 1) by omega)
      omega
    · rw [e1, e2]
      have := Int.tmod_nonneg 16 (show 0 ≤ -(ct + 1) by omega)
      omega
  · refine ⟨(ct.tmod 16).toNat, ?_, .inr ⟨h0, ?_⟩⟩
    · have := Int.tmod_lt_of_pos ct (show (0 : Int) < 16 by omega)
      have := Int.tmod_nonneg 16 (show 0 ≤ ct by omega)
      omega
    · have := Int.tmod_nonneg 16 (show 0 ≤ ct by omega)
      omega
end Go.Proofs.YtpeebhddpmggdaaDoor
