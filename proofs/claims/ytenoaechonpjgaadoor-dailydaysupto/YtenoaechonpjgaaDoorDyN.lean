/- daily: days that go on by their changes. -/
import Derived.Test.YtenoaechonpjgaaDoorFrN
namespace Go.Proofs.YtenoaechonpjgaaDoor
set_option linter.unusedVariables false
theorem blc_step : ∀ (T : Td) (d : Int), blc T d = blc T (d - 1) + own T d
  | [], d => rfl
  | r :: T, d => by
    have ih := blc_step T d
    have h1 : blc (r :: T) d = (if decide (r.1 ≤ d) = true then r.2 else 0) + blc T d := rfl
    have h2 : blc (r :: T) (d - 1) = (if decide (r.1 ≤ d - 1) = true then r.2 else 0) + blc T (d - 1) := rfl
    have h3 : own (r :: T) d = (if r.1 = d then r.2 else 0) + own T d := rfl
    rw [h1, h2, h3, ih]
    by_cases a : r.1 = d
    · rw [if_pos (by simp; omega), if_neg (by simp; omega), if_pos a]; omega
    · by_cases b : r.1 ≤ d
      · rw [if_pos (by simpa using b), if_pos (by simp; omega), if_neg a]; omega
      · rw [if_neg (by simpa using b), if_neg (by simp; omega), if_neg a]; omega
theorem blc_flat (T : Td) (a : Int) : ∀ n : Nat, (∀ d, a < d → d ≤ a + n → own T d = 0) → blc T (a + n) = blc T a
  | 0, _ => by simp
  | n + 1, h => by
    have ih := blc_flat T a n (fun d h1 h2 => h d h1 (by omega))
    have e : a + ((n + 1 : Nat) : Int) - 1 = a + (n : Int) := by omega
    rw [blc_step, e, ih, h _ (by omega) (by omega)]
    omega
theorem btw_mem {S : List Mk} {fr tt : Int} {m : Mk} : m ∈ btw S fr tt ↔ m ∈ S ∧ fr ≤ m.1 ∧ m.1 ≤ tt := by
  simp [btw]
theorem btw_up {S : List Mk} (h : S.Pairwise fun a b => a.1 < b.1) (fr tt : Int) : (btw S fr tt).Pairwise fun a b => a.1 < b.1 := h.filter _
theorem btw_split : ∀ {S : List Mk}, (S.Pairwise fun a b => a.1 < b.1) → ∀ {fr c tt : Int}, fr ≤ c → c < tt → btw S fr c ++ btw S (c + 1) tt = btw S fr tt
  | [], _, fr, c, tt, _, _ => rfl
  | m :: S, h, fr, c, tt, h1, h2 => by
    rw [List.pairwise_cons] at h
    have ih := btw_split h.2 h1 h2
    unfold btw at ih ⊢
    rw [List.filter_cons, List.filter_cons, List.filter_cons]
    by_cases a : m.1 ≤ c
    · have n2 : ¬ (c + 1 ≤ m.1) := by omega
      by_cases b : fr ≤ m.1
      · rw [if_pos (by simp; omega), if_neg (by simp; omega), if_pos (by simp; omega), List.cons_append, ih]
      · rw [if_neg (by simp; omega), if_neg (by simp; omega), if_neg (by simp; omega), ih]
    · have e0 : S.filter (fun m => decide (fr ≤ m.1) && decide (m.1 ≤ c)) = [] := List.filter_eq_nil_iff.2 fun x hx => by
        have := h.1 x hx
        simp
        omega
      rw [e0] at ih ⊢
      rw [List.nil_append] at ih
      rw [if_neg (by simp; omega), List.nil_append, ih]
      by_cases b : m.1 ≤ tt
      · rw [if_pos (by simp; omega), if_pos (by simp; omega)]
      · rw [if_neg (by simp; omega), if_neg (by simp; omega)]
theorem btw_one {S : List Mk} (h : S.Pairwise fun a b => a.1 < b.1) {x : Mk} (hx : x ∈ S) : btw S x.1 x.1 = [x] := by
  refine sorted_ext _ _ (btw_up h _ _) (by simp) fun m => ?_
  rw [btw_mem, List.mem_singleton]
  constructor
  · rintro ⟨h1, h2, h3⟩
    obtain ⟨i, hi, rfl⟩ := List.mem_iff_getElem.1 h1
    obtain ⟨j, hj, rfl⟩ := List.mem_iff_getElem.1 hx
    rw [List.pairwise_iff_getElem] at h
    rcases Nat.lt_trichotomy i j with hlt | rfl | hlt
    · have := h i j hi hj hlt; omega
    · rfl
    · have := h j i hj hi hlt; omega
  · rintro rfl
    exact ⟨hx, by omega, by omega⟩
/-- what a day that Between tells is -/
theorem day_is {T : Td} {S : List Mk} (h : Ser T S) {fr tt : Int} {x : Mk} (hx : x ∈ btw S fr tt) : fr ≤ x.1 ∧ x.1 ≤ tt ∧ x.2.1 ≠ 0 ∧ x.2.2 = blc T x.1 ∧ blc T (x.1 - 1) = x.2.2 - x.2.1 ∧ btw S x.1 x.1 = [x] := by
  obtain ⟨hS, h1, h2⟩ := btw_mem.1 hx
  obtain ⟨i1, i2, i3⟩ := h.is x hS
  refine ⟨h1, h2, i2, i3, ?_, btw_one h.up hS⟩
  have := blc_step T x.1
  rw [i3, i1]
  omega
theorem day_next {T : Td} {S : List Mk} (h : Ser T S) {fr tt : Int} {j : Nat} (hj : j + 1 < (btw S fr tt).length) : (btw S fr tt)[j].1 < (btw S fr tt)[j + 1].1 ∧ blc T ((btw S fr tt)[j + 1].1 - 1) = (btw S fr tt)[j].2.2 := by
  have hup := btw_up h.up fr tt
  rw [List.pairwise_iff_getElem] at hup
  have hlt := hup j (j + 1) (by omega) hj (by omega)
  obtain ⟨y, hy⟩ : ∃ y, y = (btw S fr tt)[j] := ⟨_, rfl⟩
  obtain ⟨x, hx⟩ : ∃ x, x = (btw S fr tt)[j + 1] := ⟨_, rfl⟩
  rw [← hy, ← hx] at hlt ⊢
  have hym : y ∈ btw S fr tt := by rw [hy]; exact List.getElem_mem _
  have hxm : x ∈ btw S fr tt := by rw [hx]; exact List.getElem_mem _
  refine ⟨hlt, ?_⟩
  rw [(day_is h hym).2.2.2.1]
  have hyb := btw_mem.1 hym
  have hxb := btw_mem.1 hxm
  have e : x.1 - 1 = y.1 + ((x.1 - 1 - y.1).toNat : Int) := by omega
  rw [e]
  refine blc_flat T y.1 _ fun d h1 h2 => ?_
  by_cases ho : own T d = 0
  · exact ho
  · exfalso
    obtain ⟨m, hm, rfl⟩ := h.all d ho
    have hmb : m ∈ btw S fr tt := btw_mem.2 ⟨hm, by omega, by omega⟩
    obtain ⟨k, hk, rfl⟩ := List.mem_iff_getElem.1 hmb
    by_cases hkj : k ≤ j
    · by_cases hkj2 : k = j
      · subst hkj2; rw [← hy] at h1; omega
      · have := hup k j hk (by omega) (by omega); rw [← hy] at this; omega
    · by_cases hkj2 : k = j + 1
      · subst hkj2; rw [← hx] at h2; omega
      · have := hup (j + 1) k hj hk (by omega); rw [← hx] at this; omega
theorem day_ok {R : List Ro} (hok : ∀ r ∈ R, okR r) {k : List UInt8} {S : List Mk} (h : Ser (tol R k) S) {m : Mk} (hm : m ∈ S) : 1 ≤ m.1 ∧ m.1 ≤ 3652059 := by
  obtain ⟨i1, i2, _⟩ := h.is m hm
  rw [i1] at i2
  obtain ⟨y, hy, e⟩ := own_day i2
  obtain ⟨r, hr, _, e2⟩ := tol_mem hy
  have := hok r hr
  rw [← e, ← e2]
  exact ⟨this.2.1, this.2.2.1⟩
end Go.Proofs.YtenoaechonpjgaaDoor
