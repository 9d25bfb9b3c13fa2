/- Both sides' Split, at every list. -/
import Derived.Test.YtddpladmkmpoaaaSptA
namespace Go.Proofs.Ytddpladmkmpoaaa
open Go Go.ChangeShapes Go.WideShapes Go.ChangeAt Go.RowKit
set_option linter.unusedVariables false
theorem first_neg (zs : Nat → Int) : ∀ n, (∀ k, k < n → 0 ≤ zs k) ∨ ∃ k0, k0 < n ∧ zs k0 < 0 ∧ ∀ k, k < k0 → 0 ≤ zs k
  | 0 => .inl fun k hk => by omega
  | n + 1 => by
    rcases first_neg zs n with h | ⟨k0, h1, h2, h3⟩
    · by_cases hn : zs n < 0
      · exact .inr ⟨n, by omega, hn, h⟩
      · refine .inl fun k hk => ?_
        by_cases hkn : k = n
        · subst hkn; omega
        · exact h k (by omega)
    · exact .inr ⟨k0, by omega, h2, h3⟩
theorem up_sum {zs : Nat → Int} : ∀ n, (∀ k, k < n → 0 ≤ zs k) → upN zs n = sumN zs n
  | 0, _ => rfl
  | n + 1, h => by
    have h0 := h n (by omega)
    rw [upN_pos h0, up_sum n (fun k hk => h k (by omega)), sumN]
    omega
theorem split_hands {S b off n : Nat} {zs : Nat → Int} {w : World} (h : Wts S zs b off n w) (cap T : Nat) (total : Int) (hT : total.natAbs = T) (hT63 : T ≤ 9223372036854775807) :
    Calls Try.prog 23 #[.int .i64 total, .slice (some ⟨b, off, none⟩) n cap] w fun e w' => Hands n (fun x => sgn (decide (total < 0)) (part T S zs n x)) 0 w e w' := by
  refine (split_ok T S total zs b off n cap _ rfl hT hT63 h.sum h.S0 h.S63 h.n1 h.n0 (hide h.pos) w h.lt (hide h.cells)).mono ?_
  rintro e w' ⟨pb, c, g, rfl, hpb, hO, hL, hB⟩
  have hv : ∀ i, i < n → g i = sgn (decide (total < 0)) (part T S zs n i) := fun i hi => hL.at hO hi
  obtain ⟨cur, h1, h2⟩ := hL.obj
  have hn1 := h.n1
  refine ⟨_, rfl, ⟨by rw [cellsOf_length]; omega, .inr ⟨pb, n, cur, rfl, hpb, h1, Nat.le_refl _, by unfold maxLen; omega, by omega, ?_⟩⟩, hB⟩
  apply List.ext_getElem?
  intro j
  rw [Nat.mul_one, List.getElem?_take]
  by_cases hj : j < n
  · rw [if_pos hj, cellsOf_get _ _ _ hj]
    have := (hL.cells j hj).1
    rw [cell_of_row w' pb j cur 2 (0, 0) h1] at this
    rw [hv j hj] at this
    simpa using this
  · rw [if_neg hj, List.getElem?_eq_none (by rw [cellsOf_length]; omega)]
theorem part_T {T S n i : Nat} {zs : Nat → Int} (hS : sumN zs n = S) (S0 : 0 < S) (hi : i < n) : part T S zs n i ≤ T := by
  have h := left_q (T := T) hS S0 i hi
  unfold part
  by_cases hc : cnt T S zs n i < left T S zs n
  · rw [if_pos hc]
    have : 0 < T - cumQ T S zs n := by unfold left at hc; omega
    have := h.2 this
    omega
  · rw [if_neg hc]
    have := h.1
    omega
theorem rsplit_hands {S b off n : Nat} {zs : Nat → Int} {w : World} (h : Wts S zs b off n w) (cap T : Nat) (total : Int) (ht : -9223372036854775807 ≤ total) (ht' : total ≤ 9223372036854775807) (hT : total.natAbs = T) :
    Calls Try.prog 24 #[.int .i64 total, .slice (some ⟨b, off, none⟩) n cap] w fun e w' => HandsR n (fun x => sgn (decide (total < 0)) (part T S zs n x)) 0 w e w' := by
  have hup : upN zs n = S := by rw [up_sum n (fun k hk => (h.pos k hk).1), h.sum]
  have hW : Calls Try.prog 49 #[.slice (some ⟨b, off, none⟩) n cap] w fun e w' => WtsO S w e w' := by
    have hS := h.S63
    have hS0 := h.S0
    have := rwts_any zs b off n cap h.n0 h.n1 (hide fun k hk => ⟨by have := h.pos k hk; omega, (h.pos k hk).2⟩) true (hide ⟨fun _ => ⟨fun k hk => (h.pos k hk).1, by rw [hup]; exact hS0, by rw [hup]; omega⟩, fun _ => rfl⟩) w (hide h.cells) h.lt
    refine this.mono ?_
    intro e w' ⟨⟨t, he, htt⟩, hb⟩
    have := htt rfl
    rw [hup] at this
    subst this
    exact ⟨he, hb⟩
  have hn := fun k (hk : k < n) => show (zs k).natAbs = (zs k).toNat from by have := (h.pos k hk).1; omega
  refine (rsplit_walk T S total (hide hT) zs b off n cap ht ht' w (hide h) h.n1 h.n0 h.lt (hide fun k hk => by rw [hn k hk]; rfl) (hide fun k hk => by rw [hn k hk]; rfl) (hide ⟨rfl, fun _ => rfl, fun k hk => cumQ_T h.sum h.S0 hk⟩) (hide (left_le h.sum h.S0)) (hide fun i hi hl => (left_q h.sum h.S0 i hi).2 hl) (hide fun i hi => part_T h.sum h.S0 hi) hW).mono ?_
  rintro e w' ⟨pb, c, rfl, h1, h2, h3, h4⟩
  exact ⟨_, rfl, .inr ⟨pb, c, rfl, h1, h2, h3⟩, h4⟩
/-- whatever is asked, both sides answer alike -/
theorem both (total : Int) (ht : -9223372036854775808 ≤ total) (ht' : total ≤ 9223372036854775807) (zs : Nat → Int) (len : Nat) (bd : ∀ k, k < len → -9223372036854775808 ≤ zs k ∧ zs k ≤ 9223372036854775807) :
    ∃ (m : Nat) (f : Nat → Int) (c : Int), m ≤ 1000 ∧ (∀ v W, Lies zs v len W → Calls Try.prog 23 #[.int .i64 total, v] W fun e w' => Hands m f c W e w') ∧ (∀ v W, Lies zs v len W → Calls Try.prog 24 #[.int .i64 total, v] W fun e w' => HandsR m f c W e w') := by
  by_cases hm : total = -9223372036854775808
  · subst hm
    refine ⟨0, fun _ => 0, 10, by omega, fun v W _ => (split_min v W).mono ?_, fun v W _ => (rsplit_min v W).mono ?_⟩
    · rintro e w' ⟨rfl, rfl⟩
      exact ⟨_, rfl, World.ownsRow_nil _ _ _ _, Below.refl _ _⟩
    · rintro e w' ⟨rfl, hb⟩
      exact ⟨_, rfl, .inl ⟨rfl, rfl⟩, hb⟩
  · have ht1 : -9223372036854775807 ≤ total := by omega
    have bad : (∀ v W, Lies zs v len W → Calls Try.prog 44 #[v] W fun e w' => e = .returned (.tuple #[.int .i64 0, .int .i64 13]) ∧ w' = W) → (∀ v W, Lies zs v len W → Calls Try.prog 49 #[v] W fun e w' => WtsOut (upN zs len) false W e w') → ∃ (m : Nat) (f : Nat → Int) (c : Int), m ≤ 1000 ∧ (∀ v W, Lies zs v len W → Calls Try.prog 23 #[.int .i64 total, v] W fun e w' => Hands m f c W e w') ∧ (∀ v W, Lies zs v len W → Calls Try.prog 24 #[.int .i64 total, v] W fun e w' => HandsR m f c W e w') := by
      intro C1 C2
      refine ⟨0, fun _ => 0, 13, by omega, fun v W hl => (split_bad total ht1 v W (C1 v W hl)).mono ?_, fun v W hl => (rsplit_bad total ht1 v _ W (C2 v W hl)).mono ?_⟩
      · rintro e w' ⟨rfl, rfl⟩
        exact ⟨_, rfl, World.ownsRow_nil _ _ _ _, Below.refl _ _⟩
      · rintro e w' ⟨rfl, hb⟩
        exact ⟨_, rfl, .inl ⟨rfl, rfl⟩, hb⟩
    by_cases h0 : len = 0
    · subst h0
      refine bad (fun v W hl => ?_) (fun v W hl => ?_)
      · rcases hl with ⟨_, a0, cap, rfl⟩ | ⟨b, off, cap, rfl, _⟩
        · exact weigh_none a0 cap W
        · exact weigh_none _ cap W
      · rcases hl with ⟨_, a0, cap, rfl⟩ | ⟨b, off, cap, rfl, _⟩
        · exact rwts_none a0 cap _ W
        · exact rwts_none _ cap _ W
    · by_cases h1 : 1000 < len
      · refine bad (fun v W hl => ?_) (fun v W hl => ?_)
        · rcases hl with ⟨h', _⟩ | ⟨b, off, cap, rfl, _⟩
          · exact absurd h' h0
          · exact weigh_many _ len cap h1 W
        · rcases hl with ⟨h', _⟩ | ⟨b, off, cap, rfl, _⟩
          · exact absurd h' h0
          · exact rwts_many _ len cap _ h1 W
      · have rw_bad : ¬ ((∀ k, k < len → 0 ≤ zs k) ∧ 0 < upN zs len ∧ upN zs len < 9223372036854775808) → ∀ v W, Lies zs v len W → Calls Try.prog 49 #[v] W fun e w' => WtsOut (upN zs len) false W e w' := by
          intro hn v W hl
          rcases hl with ⟨h', _⟩ | ⟨b, off, cap, rfl, hb, hc⟩
          · exact absurd h' h0
          · exact rwts_any zs b off len cap (by omega) (by omega) (hide bd) false (hide ⟨fun h => (by cases h), fun h => absurd h hn⟩) W (hide hc) hb
        rcases first_neg zs len with hp | ⟨k0, g1, g2, g3⟩
        · have hz : ∀ k, k < len → 0 ≤ zs k ∧ zs k ≤ 9223372036854775807 := fun k hk => ⟨hp k hk, (bd k hk).2⟩
          have hus := up_sum len hp
          have hsz := sumN_is len hp
          have hmin : anyMin zs len = false := anyMin_of (fun i hi => by have := hp i hi; omega)
          by_cases ho : upN zs len < 9223372036854775808
          · have hsp := sumSpec_fits hmin (by omega) (by omega)
            by_cases hs0 : upN zs len = 0
            · refine bad (fun v W hl => ?_) (rw_bad (fun h => by omega))
              rcases hl with ⟨h', _⟩ | ⟨b, off, cap, rfl, hb, hc⟩
              · exact absurd h' h0
              · exact weigh_sum zs b off len cap (by omega) (by omega) (hide hz) W (hide hc) _ _ (hide hsp) (.inr ⟨rfl, by omega⟩)
            · refine ⟨len, fun x => sgn (decide (total < 0)) (part total.natAbs (sumN zs len) zs len x), 0, by omega, fun v W hl => ?_, fun v W hl => ?_⟩
              · rcases hl with ⟨h', _⟩ | ⟨b, off, cap, rfl, hb, hc⟩
                · exact absurd h' h0
                · exact split_hands ⟨by omega, by omega, rfl, by omega, by omega, hb, hz, hc⟩ cap _ total rfl (by omega)
              · rcases hl with ⟨h', _⟩ | ⟨b, off, cap, rfl, hb, hc⟩
                · exact absurd h' h0
                · exact rsplit_hands ⟨by omega, by omega, rfl, by omega, by omega, hb, hz, hc⟩ cap _ total ht1 ht' rfl
          · refine bad (fun v W hl => ?_) (rw_bad (fun h => by omega))
            rcases hl with ⟨h', _⟩ | ⟨b, off, cap, rfl, hb, hc⟩
            · exact absurd h' h0
            · exact weigh_sum zs b off len cap (by omega) (by omega) (hide hz) W (hide hc) _ _ (hide (sumSpec_over hmin (by omega))) (.inl rfl)
        · refine bad (fun v W hl => ?_) (rw_bad (fun h => by have := h.1 k0 g1; omega))
          rcases hl with ⟨h', _⟩ | ⟨b, off, cap, rfl, hb, hc⟩
          · exact absurd h' h0
          · exact weigh_neg zs b off len cap (by omega) W (hide hc) k0 g1 g2 (hide g3)
end Go.Proofs.Ytddpladmkmpoaaa
