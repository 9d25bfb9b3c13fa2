/- aged: a heap as a function from places to days. -/
import Derived.Test.YtildpgfhahmgmaaDoorChecked
namespace Go.Proofs.YtildpgfhahmgmaaDoor
set_option linter.unusedVariables false
/-- no place is of an earlier day than the one above it -/
def Hp (f : Nat → Int) (n : Nat) : Prop := ∀ k, 0 < k → k < n → f ((k - 1) / 2) ≤ f k
def sw (f : Nat → Int) (a b : Nat) : Nat → Int := fun k => if k = a then f b else if k = b then f a else f k
theorem sw_l (f : Nat → Int) (a b : Nat) : sw f a b a = f b := by simp [sw]
theorem sw_r (f : Nat → Int) (a b : Nat) : sw f a b b = f a := by
  unfold sw
  by_cases h : b = a
  · rw [if_pos h, h]
  · rw [if_neg h, if_pos rfl]
theorem sw_o (f : Nat → Int) {a b k : Nat} (h1 : k ≠ a) (h2 : k ≠ b) : sw f a b k = f k := by
  unfold sw
  rw [if_neg h1, if_neg h2]
theorem Hp.top {f : Nat → Int} {n : Nat} (h : Hp f n) : ∀ k, k < n → f 0 ≤ f k := by
  intro k
  induction k using Nat.strongRecOn with
  | ind k ih =>
    intro hk
    by_cases h0 : k = 0
    · subst h0; exact Int.le_refl _
    · exact Int.le_trans (ih ((k - 1) / 2) (by omega) (by omega)) (h k (by omega) hk)
/-- all is well but at the place i, seen from above -/
def HpUp (f : Nat → Int) (n i : Nat) : Prop := (∀ k, 0 < k → k < n → k ≠ i → f ((k - 1) / 2) ≤ f k) ∧ ∀ k, 0 < k → k < n → (k - 1) / 2 = i → 0 < i → f ((i - 1) / 2) ≤ f k
theorem HpUp.stop {f : Nat → Int} {n i : Nat} (h : HpUp f n i) (hs : i = 0 ∨ f ((i - 1) / 2) ≤ f i) : Hp f n := fun k h1 h2 => by
  by_cases e : k = i
  · subst e
    rcases hs with hs | hs
    · omega
    · exact hs
  · exact h.1 k h1 h2 e
theorem HpUp.more {f : Nat → Int} {n : Nat} (h : Hp f n) : HpUp f (n + 1) n :=
  ⟨fun k h1 h2 h3 => h k h1 (by omega), fun k h1 h2 h3 h4 => by omega⟩
theorem HpUp.step {f : Nat → Int} {n i : Nat} (h : HpUp f n i) (h0 : 0 < i) (hi : i < n) (hlt : f i < f ((i - 1) / 2)) : HpUp (sw f ((i - 1) / 2) i) n ((i - 1) / 2) := by
  obtain ⟨u, hu⟩ : ∃ u, u = (i - 1) / 2 := ⟨_, rfl⟩
  have hui : u < i := by omega
  rw [← hu] at hlt ⊢
  refine ⟨fun k h1 h2 h3 => ?_, fun k h1 h2 h3 h4 => ?_⟩
  · by_cases hk : k = i
    · rw [hk, ← hu, sw_l, sw_r]; omega
    · have hb := h.1 k h1 h2 hk
      rw [sw_o f h3 hk]
      by_cases hp : (k - 1) / 2 = u
      · rw [hp, sw_l]; rw [hp] at hb; omega
      · by_cases hp2 : (k - 1) / 2 = i
        · rw [hp2, sw_r]
          have := h.2 k h1 h2 hp2 h0
          rwa [← hu] at this
        · rw [sw_o f hp hp2]; exact hb
  · have hg := h.1 u h4 (by omega) (by omega)
    have hne : (u - 1) / 2 ≠ u := by omega
    have hne2 : (u - 1) / 2 ≠ i := by omega
    rw [sw_o f hne hne2]
    by_cases hk : k = i
    · rw [hk, sw_r]; exact hg
    · rw [sw_o f (by omega) hk]
      have := h.1 k h1 h2 hk
      rw [h3] at this
      omega
/-- all is well but at the place i, seen from below -/
def HpDn (f : Nat → Int) (n i : Nat) : Prop := (∀ k, 0 < k → k < n → (k - 1) / 2 ≠ i → f ((k - 1) / 2) ≤ f k) ∧ ∀ k, 0 < k → k < n → (k - 1) / 2 = i → 0 < i → f ((i - 1) / 2) ≤ f k
theorem HpDn.stop {f : Nat → Int} {n i : Nat} (h : HpDn f n i) (hs : ∀ k, 0 < k → k < n → (k - 1) / 2 = i → f i ≤ f k) : Hp f n := fun k h1 h2 => by
  by_cases e : (k - 1) / 2 = i
  · rw [e]; exact hs k h1 h2 e
  · exact h.1 k h1 h2 e
theorem HpDn.step {f : Nat → Int} {n i c : Nat} (h : HpDn f n i) (hc : c < n) (hc0 : 0 < c) (hci : (c - 1) / 2 = i) (hlt : f c < f i) (hmin : ∀ k, 0 < k → k < n → (k - 1) / 2 = i → f c ≤ f k) : HpDn (sw f c i) n c := by
  have hic : i < c := by omega
  refine ⟨fun k h1 h2 h3 => ?_, fun k h1 h2 h3 h4 => ?_⟩
  · by_cases hp : (k - 1) / 2 = i
    · rw [hp, sw_r]
      by_cases hk : k = c
      · rw [hk, sw_l]; omega
      · rw [sw_o f hk (by omega)]
        exact hmin k h1 h2 hp
    · rw [sw_o f h3 hp]
      by_cases hk : k = i
      · rw [hk, sw_r]
        exact h.2 c hc0 hc hci (by omega)
      · rw [sw_o f (by omega) hk]
        exact h.1 k h1 h2 hp
  · rw [hci, sw_r, sw_o f (by omega) (by omega)]
    have := h.1 k h1 h2 (by omega)
    rw [h3] at this
    exact this
/-- the last one put at the top of what is left -/
theorem HpDn.top {f g : Nat → Int} {n : Nat} (h : Hp f (n + 1)) (hg : ∀ k, 0 < k → k < n → g k = f k) : HpDn g n 0 := by
  refine ⟨fun k h1 h2 h3 => ?_, fun k h1 h2 h3 h4 => by omega⟩
  rw [hg k h1 h2, hg ((k - 1) / 2) (by omega) (by omega)]
  exact h k h1 (by omega)
end Go.Proofs.YtildpgfhahmgmaaDoor
