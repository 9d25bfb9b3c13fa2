/- Both sides' Split, at every list: they hand back the same parts, or the same error. -/
import Derived.Test.YtddpladmkmpoaaaSprR
import Derived.Test.YtddpladmkmpoaaaShaB
import Derived.Test.YtddpladmkmpoaaaSumsA
namespace Go.Proofs.Ytddpladmkmpoaaa
open Go Go.ChangeShapes Go.WideShapes Go.ChangeAt Go.RowKit
set_option linter.unusedVariables false
attribute [local go_sem] setCell_drewN alloc_drewN
/-- a slice that shows so many numbers -/
def Lies (zs : Nat → Int) (v : Value) (len : Nat) (W : World) : Prop :=
  (len = 0 ∧ ∃ a0 cap, v = .slice a0 0 cap) ∨ ∃ b off cap, v = .slice (some ⟨b, off, none⟩) len cap ∧ b < W.heap.size ∧ ∀ k, k < len → W.cell? ⟨b, off + k, none⟩ = some (.int .i64 (zs k))
/-- what money's Split hands back: a row of its own -/
def Hands (m : Nat) (f : Nat → Int) (c : Int) (W : World) (e : Ending) (w' : World) : Prop :=
  ∃ v, e = .returned (.tuple #[v, .int .i64 c]) ∧ w'.ownsRow W.heap.size 2 1 v m (cellsOf f m) ∧ Below W.heap.size W w'
/-- a slice that was handed back -/
def Shows (B m : Nat) (f : Nat → Int) (v : Value) (w : World) : Prop :=
  (m = 0 ∧ v = .slice none 0 0) ∨ ∃ pb cap, v = .slice (some ⟨pb, 0, none⟩) m cap ∧ B ≤ pb ∧ pb < w.heap.size ∧ ∀ x, x < m → w.cell? ⟨pb, x, none⟩ = some (.int .i64 (f x))
def HandsR (m : Nat) (f : Nat → Int) (c : Int) (W : World) (e : Ending) (w' : World) : Prop :=
  ∃ v, e = .returned (.tuple #[v, .int .i64 c]) ∧ Shows W.heap.size m f v w' ∧ Below W.heap.size W w'
theorem Shows.below {B m : Nat} {f : Nat → Int} {v : Value} {w w' : World} (h : Shows B m f v w) (hb : Below w.heap.size w w') : Shows B m f v w' := by
  rcases h with h | ⟨pb, cap, h1, h2, h3, h4⟩
  · exact .inl h
  · exact .inr ⟨pb, cap, h1, h2, Nat.lt_of_lt_of_le h3 hb.size, fun x hx => keep1 hb h3 (h4 x hx)⟩
theorem Shows.grown {B m : Nat} {f : Nat → Int} {v : Value} {w w' : World} {row : Option Nat} (h : Shows B m f v w) (hg : w.grownBy w' row) (hr : ∀ k, row = some k → k < B) : Shows B m f v w' := by
  rcases h with h | ⟨pb, cap, h1, h2, h3, h4⟩
  · exact .inl h
  · refine .inr ⟨pb, cap, h1, h2, Nat.lt_of_lt_of_le h3 hg.size, fun x hx => (hg.cell_far ⟨pb, x, none⟩ h3 (fun e => ?_)).trans (h4 x hx)⟩
    have := hr pb e.symm
    omega
theorem Shows.of_own {B m : Nat} {f : Nat → Int} {v : Value} {w : World} (h : w.ownsRow B 2 1 v m (cellsOf f m)) : Shows B m f v w := by
  rcases h.2 with ⟨h1, h2⟩ | ⟨g, cap, cur, rfl, hb, _⟩
  · exact .inl ⟨h2, h1⟩
  · refine .inr ⟨g, cap, rfl, hb, (h.lt g rfl).2, fun x hx => ?_⟩
    rw [h.cellAt x (by omega)]
    exact cellsOf_get f m x hx
theorem Lies.of_own {B m : Nat} {f : Nat → Int} {v : Value} {w : World} (h : w.ownsRow B 2 1 v m (cellsOf f m)) : Lies f v m w := by
  rcases Shows.of_own h with ⟨rfl, rfl⟩ | ⟨pb, cap, rfl, _, h3, h4⟩
  · exact .inl ⟨rfl, none, 0, rfl⟩
  · exact .inr ⟨pb, 0, cap, rfl, h3, fun k hk => by rw [Nat.zero_add]; exact h4 k hk⟩
theorem Lies.of_in {zs : Nat → Int} {w w1 : World} {a0 : Option Addr} {len cap : Nat} (h : LIn zs w a0 len cap) (hb : Below w.heap.size w w1) : Lies zs (.slice a0 len cap) len w1 := by
  rcases h.at' with ⟨rfl, _⟩ | ⟨b, off, rfl, hbb, _, hc⟩
  · exact .inl ⟨rfl, a0, cap, rfl⟩
  · exact .inr ⟨b, off, cap, rfl, Nat.lt_of_lt_of_le hbb hb.size, fun k hk => keep1 hb hbb (hc k hk)⟩
set_option maxHeartbeats 1000000 in
theorem same_zero (a0 b0 : Option Addr) (ca cb : Nat) (w : World) : Calls Try.prog 25 #[.slice a0 0 ca, .slice b0 0 cb] w fun e w' => e = .returned (.bool true) ∧ ∃ m, w' = w.drewN m := by
  go_enter Try.func25, Try.ntmps25
  go_wp2
  go_loopw [5] (fun i wr => i = .int .i64 0 ∧ wr = w) (fun i _ => 0)
  case atStart => exact ⟨rfl, rfl⟩
  case round =>
    obtain ⟨rfl, rfl⟩ := hrel
    go_wp2
    go_ret
    exact ⟨rfl, 0, rfl⟩
theorem same_shows {B B' m : Nat} {f : Nat → Int} {v v' : Value} {w : World} (h : Shows B m f v w) (h' : Shows B' m f v' w) (hm : m ≤ 1000) : Calls Try.prog 25 #[v, v'] w fun e w' => e = .returned (.bool true) ∧ ∃ n, w' = w.drewN n := by
  by_cases h0 : m = 0
  · subst h0
    obtain ⟨a0, ca, rfl⟩ : ∃ a0 ca, v = .slice a0 0 ca := by rcases h with ⟨_, rfl⟩ | ⟨pb, cap, rfl, _⟩ <;> exact ⟨_, _, rfl⟩
    obtain ⟨b0, cb, rfl⟩ : ∃ a0 ca, v' = .slice a0 0 ca := by rcases h' with ⟨_, rfl⟩ | ⟨pb, cap, rfl, _⟩ <;> exact ⟨_, _, rfl⟩
    exact same_zero a0 b0 ca cb w
  · rcases h with ⟨h1, _⟩ | ⟨pb, cap, rfl, _, _, h4⟩
    · exact absurd h1 h0
    · rcases h' with ⟨h1, _⟩ | ⟨pb', cap', rfl, _, _, h4'⟩
      · exact absurd h1 h0
      · exact same_any f f pb pb' m cap cap' hm w (hide fun k hk => by rw [Nat.zero_add]; exact h4 k hk) (hide fun k hk => by rw [Nat.zero_add]; exact h4' k hk) (hide fun _ _ => rfl)
set_option maxRecDepth 100000 in
set_option maxHeartbeats 1000000 in
theorem rsplit_min (v : Value) (w : World) : Calls Try.prog 24 #[.int .i64 (-9223372036854775808), v] w fun e w' => e = .returned (.tuple #[.slice none 0 0, .int .i64 10]) ∧ Below w.heap.size w w' := by
  go_enter Try.func24, Try.ntmps24
  go_wp2_with (go_at_call 28; refine (is_no _).mono ?_; rintro e w0 ⟨rfl, hw⟩; rw [hw]; clear hw w0)
  go_ret2
  exact ⟨rfl, Below.refl _ _⟩
attribute [local go_sem ↓] st46_is
attribute [local go_sem] run_st46m run_st46_new may6_new may6_alloc may6_put6 may6_drew
theorem wts_open {s : Nat} {g : Bool} {w : World} {e : Ending} {w' : World} (h : WtsOut s g w e w') : ∃ t, e = .returned (.tuple #[.agg #[.int .u64 (dg t 0), .int .u64 (dg t 1), .int .u64 (dg t 2), .int .u64 (dg t 3), .int .u64 (dg t 4), .int .u64 (dg t 5)], .bool g]) ∧ (g = true → t = s) ∧ Below w.heap.size w w' := by
  obtain ⟨⟨t, he, ht⟩, hb⟩ := h
  exact ⟨t, he, ht, hb⟩
set_option maxRecDepth 100000 in
set_option maxHeartbeats 1000000 in
theorem rsplit_bad (total : Int) (ht : -9223372036854775807 ≤ total) (v : Value) (s : Nat) (w : World) (C : Calls Try.prog 49 #[v] w fun e w' => WtsOut s false w e w') : Calls Try.prog 24 #[.int .i64 total, v] w fun e w' => e = .returned (.tuple #[.slice none 0 0, .int .i64 13]) ∧ Below w.heap.size w w' := by
  have HC := hide C
  clear C
  go_enter Try.func24, Try.ntmps24
  go_wp2_with (go_at_call 28; refine (is_yes _ _ ht).mono ?_; rintro e w0 ⟨rfl, hw⟩; rw [hw]; clear hw w0)
  refine (unhide HC).mono ?_
  intro e w1 h1
  obtain ⟨t, rfl, _, hb1⟩ := wts_open h1
  have HB1 := hide hb1
  clear h1 hb1
  go_wp2_with fail
  go_ret2
  exact ⟨rfl, bal (unhide HB1) _⟩
end Go.Proofs.Ytddpladmkmpoaaa
/- Both sides' Split, at every list. -/
namespace Go.Proofs.Ytddpladmkmpoaaa
open Go Go.ChangeShapes Go.WideShapes Go.ChangeAt Go.RowKit
set_option linter.unusedVariables false
theorem first_neg (zs : Nat → Int) : ∀ n, (∀ k, k < n → 0 ≤ zs k) ∨ ∃ k0, k0 < n ∧ zs k0 < 0 ∧ ∀ k, k < k0 → 0 ≤ zs k
  | 0 => .inl fun k hk => by omega
  | n + 1 => by
    rcases first_neg zs n with h | ⟨k0, h1, h2, h3⟩
    · by_cases hn : zs n < 0
      · exact .inr ⟨n, by omega, hn, h⟩
      · refine .inl fun k hk => ?_
        by_cases hkn : k = n
        · subst hkn; omega
        · exact h k (by omega)
    · exact .inr ⟨k0, by omega, h2, h3⟩
theorem up_sum {zs : Nat → Int} : ∀ n, (∀ k, k < n → 0 ≤ zs k) → upN zs n = sumN zs n
  | 0, _ => rfl
  | n + 1, h => by
    have h0 := h n (by omega)
    rw [upN_pos h0, up_sum n (fun k hk => h k (by omega)), sumN]
    omega
theorem split_hands {S b off n : Nat} {zs : Nat → Int} {w : World} (h : Wts S zs b off n w) (cap T : Nat) (total : Int) (hT : total.natAbs = T) (hT63 : T ≤ 9223372036854775807) :
    Calls Try.prog 23 #[.int .i64 total, .slice (some ⟨b, off, none⟩) n cap] w fun e w' => Hands n (fun x => sgn (decide (total < 0)) (part T S zs n x)) 0 w e w' := by
  refine (split_ok T S total zs b off n cap _ rfl hT hT63 h.sum h.S0 h.S63 h.n1 h.n0 (hide h.pos) w h.lt (hide h.cells)).mono ?_
  rintro e w' ⟨pb, c, g, rfl, hpb, hO, hL, hB⟩
  have hv : ∀ i, i < n → g i = sgn (decide (total < 0)) (part T S zs n i) := fun i hi => hL.at hO hi
  obtain ⟨cur, h1, h2⟩ := hL.obj
  have hn1 := h.n1
  refine ⟨_, rfl, ⟨by rw [cellsOf_length]; omega, .inr ⟨pb, n, cur, rfl, hpb, h1, Nat.le_refl _, by unfold maxLen; omega, by omega, ?_⟩⟩, hB⟩
  apply List.ext_getElem?
  intro j
  rw [Nat.mul_one, List.getElem?_take]
  by_cases hj : j < n
  · rw [if_pos hj, cellsOf_get _ _ _ hj]
    have := (hL.cells j hj).1
    rw [cell_of_row w' pb j cur 2 (0, 0) h1] at this
    rw [hv j hj] at this
    simpa using this
  · rw [if_neg hj, List.getElem?_eq_none (by rw [cellsOf_length]; omega)]
theorem part_T {T S n i : Nat} {zs : Nat → Int} (hS : sumN zs n = S) (S0 : 0 < S) (hi : i < n) : part T S zs n i ≤ T := by
  have h := left_q (T := T) hS S0 i hi
  unfold part
  by_cases hc : cnt T S zs n i < left T S zs n
  · rw [if_pos hc]
    have : 0 < T - cumQ T S zs n := by unfold left at hc; omega
    have := h.2 this
    omega
  · rw [if_neg hc]
    have := h.1
    omega
theorem rsplit_hands {S b off n : Nat} {zs : Nat → Int} {w : World} (h : Wts S zs b off n w) (cap T : Nat) (total : Int) (ht : -9223372036854775807 ≤ total) (ht' : total ≤ 9223372036854775807) (hT : total.natAbs = T) :
    Calls Try.prog 24 #[.int .i64 total, .slice (some ⟨b, off, none⟩) n cap] w fun e w' => HandsR n (fun x => sgn (decide (total < 0)) (part T S zs n x)) 0 w e w' := by
  have hup : upN zs n = S := by rw [up_sum n (fun k hk => (h.pos k hk).1), h.sum]
  have hW : Calls Try.prog 49 #[.slice (some ⟨b, off, none⟩) n cap] w fun e w' => WtsO S w e w' := by
    have hS := h.S63
    have hS0 := h.S0
    have := rwts_any zs b off n cap h.n0 h.n1 (hide fun k hk => ⟨by have := h.pos k hk; omega, (h.pos k hk).2⟩) true (hide ⟨fun _ => ⟨fun k hk => (h.pos k hk).1, by rw [hup]; exact hS0, by rw [hup]; omega⟩, fun _ => rfl⟩) w (hide h.cells) h.lt
    refine this.mono ?_
    intro e w' ⟨⟨t, he, htt⟩, hb⟩
    have := htt rfl
    rw [hup] at this
    subst this
    exact ⟨he, hb⟩
  have hn := fun k (hk : k < n) => show (zs k).natAbs = (zs k).toNat from by have := (h.pos k hk).1; omega
  refine (rsplit_walk T S total (hide hT) zs b off n cap ht ht' w (hide h) h.n1 h.n0 h.lt (hide fun k hk => by rw [hn k hk]; rfl) (hide fun k hk => by rw [hn k hk]; rfl) (hide ⟨rfl, fun _ => rfl, fun k hk => cumQ_T h.sum h.S0 hk⟩) (hide (left_le h.sum h.S0)) (hide fun i hi hl => (left_q h.sum h.S0 i hi).2 hl) (hide fun i hi => part_T h.sum h.S0 hi) hW).mono ?_
  rintro e w' ⟨pb, c, rfl, h1, h2, h3, h4⟩
  exact ⟨_, rfl, .inr ⟨pb, c, rfl, h1, h2, h3⟩, h4⟩
/-- whatever is asked, both sides answer alike -/
theorem both (total : Int) (ht : -9223372036854775808 ≤ total) (ht' : total ≤ 9223372036854775807) (zs : Nat → Int) (len : Nat) (bd : ∀ k, k < len → -9223372036854775808 ≤ zs k ∧ zs k ≤ 9223372036854775807) :
    ∃ (m : Nat) (f : Nat → Int) (c : Int), m ≤ 1000 ∧ (∀ v W, Lies zs v len W → Calls Try.prog 23 #[.int .i64 total, v] W fun e w' => Hands m f c W e w') ∧ (∀ v W, Lies zs v len W → Calls Try.prog 24 #[.int .i64 total, v] W fun e w' => HandsR m f c W e w') := by
  by_cases hm : total = -9223372036854775808
  · subst hm
    refine ⟨0, fun _ => 0, 10, by omega, fun v W _ => (split_min v W).mono ?_, fun v W _ => (rsplit_min v W).mono ?_⟩
    · rintro e w' ⟨rfl, rfl⟩
      exact ⟨_, rfl, World.ownsRow_nil _ _ _ _, Below.refl _ _⟩
    · rintro e w' ⟨rfl, hb⟩
      exact ⟨_, rfl, .inl ⟨rfl, rfl⟩, hb⟩
  · have ht1 : -9223372036854775807 ≤ total := by omega
    have bad : (∀ v W, Lies zs v len W → Calls Try.prog 44 #[v] W fun e w' => e = .returned (.tuple #[.int .i64 0, .int .i64 13]) ∧ w' = W) → (∀ v W, Lies zs v len W → Calls Try.prog 49 #[v] W fun e w' => WtsOut (upN zs len) false W e w') → ∃ (m : Nat) (f : Nat → Int) (c : Int), m ≤ 1000 ∧ (∀ v W, Lies zs v len W → Calls Try.prog 23 #[.int .i64 total, v] W fun e w' => Hands m f c W e w') ∧ (∀ v W, Lies zs v len W → Calls Try.prog 24 #[.int .i64 total, v] W fun e w' => HandsR m f c W e w') := by
      intro C1 C2
      refine ⟨0, fun _ => 0, 13, by omega, fun v W hl => (split_bad total ht1 v W (C1 v W hl)).mono ?_, fun v W hl => (rsplit_bad total ht1 v _ W (C2 v W hl)).mono ?_⟩
      · rintro e w' ⟨rfl, rfl⟩
        exact ⟨_, rfl, World.ownsRow_nil _ _ _ _, Below.refl _ _⟩
      · rintro e w' ⟨rfl, hb⟩
        exact ⟨_, rfl, .inl ⟨rfl, rfl⟩, hb⟩
    by_cases h0 : len = 0
    · subst h0
      refine bad (fun v W hl => ?_) (fun v W hl => ?_)
      · rcases hl with ⟨_, a0, cap, rfl⟩ | ⟨b, off, cap, rfl, _⟩
        · exact weigh_none a0 cap W
        · exact weigh_none _ cap W
      · rcases hl with ⟨_, a0, cap, rfl⟩ | ⟨b, off, cap, rfl, _⟩
        · exact rwts_none a0 cap _ W
        · exact rwts_none _ cap _ W
    · by_cases h1 : 1000 < len
      · refine bad (fun v W hl => ?_) (fun v W hl => ?_)
        · rcases hl with ⟨h', _⟩ | ⟨b, off, cap, rfl, _⟩
          · exact absurd h' h0
          · exact weigh_many _ len cap h1 W
        · rcases hl with ⟨h', _⟩ | ⟨b, off, cap, rfl, _⟩
          · exact absurd h' h0
          · exact rwts_many _ len cap _ h1 W
      · have rw_bad : ¬ ((∀ k, k < len → 0 ≤ zs k) ∧ 0 < upN zs len ∧ upN zs len < 9223372036854775808) → ∀ v W, Lies zs v len W → Calls Try.prog 49 #[v] W fun e w' => WtsOut (upN zs len) false W e w' := by
          intro hn v W hl
          rcases hl with ⟨h', _⟩ | ⟨b, off, cap, rfl, hb, hc⟩
          · exact absurd h' h0
          · exact rwts_any zs b off len cap (by omega) (by omega) (hide bd) false (hide ⟨fun h => (by cases h), fun h => absurd h hn⟩) W (hide hc) hb
        rcases first_neg zs len with hp | ⟨k0, g1, g2, g3⟩
        · have hz : ∀ k, k < len → 0 ≤ zs k ∧ zs k ≤ 9223372036854775807 := fun k hk => ⟨hp k hk, (bd k hk).2⟩
          have hus := up_sum len hp
          have hsz := sumN_is len hp
          have hmin : anyMin zs len = false := anyMin_of (fun i hi => by have := hp i hi; omega)
          by_cases ho : upN zs len < 9223372036854775808
          · have hsp := sumSpec_fits hmin (by omega) (by omega)
            by_cases hs0 : upN zs len = 0
            · refine bad (fun v W hl => ?_) (rw_bad (fun h => by omega))
              rcases hl with ⟨h', _⟩ | ⟨b, off, cap, rfl, hb, hc⟩
              · exact absurd h' h0
              · exact weigh_sum zs b off len cap (by omega) (by omega) (hide hz) W (hide hc) _ _ (hide hsp) (.inr ⟨rfl, by omega⟩)
            · refine ⟨len, fun x => sgn (decide (total < 0)) (part total.natAbs (sumN zs len) zs len x), 0, by omega, fun v W hl => ?_, fun v W hl => ?_⟩
              · rcases hl with ⟨h', _⟩ | ⟨b, off, cap, rfl, hb, hc⟩
                · exact absurd h' h0
                · exact split_hands ⟨by omega, by omega, rfl, by omega, by omega, hb, hz, hc⟩ cap _ total rfl (by omega)
              · rcases hl with ⟨h', _⟩ | ⟨b, off, cap, rfl, hb, hc⟩
                · exact absurd h' h0
                · exact rsplit_hands ⟨by omega, by omega, rfl, by omega, by omega, hb, hz, hc⟩ cap _ total ht1 ht' rfl
          · refine bad (fun v W hl => ?_) (rw_bad (fun h => by omega))
            rcases hl with ⟨h', _⟩ | ⟨b, off, cap, rfl, hb, hc⟩
            · exact absurd h' h0
            · exact weigh_sum zs b off len cap (by omega) (by omega) (hide hz) W (hide hc) _ _ (hide (sumSpec_over hmin (by omega))) (.inl rfl)
        · refine bad (fun v W hl => ?_) (rw_bad (fun h => by have := h.1 k0 g1; omega))
          rcases hl with ⟨h', _⟩ | ⟨b, off, cap, rfl, hb, hc⟩
          · exact absurd h' h0
          · exact weigh_neg zs b off len cap (by omega) W (hide hc) k0 g1 g2 (hide g3)
end Go.Proofs.Ytddpladmkmpoaaa
/- The law of the splits, walked. -/
namespace Go.Proofs.Ytddpladmkmpoaaa
open Go Go.ChangeShapes Go.WideShapes Go.ChangeAt Go.RowKit
set_option linter.unusedVariables false
attribute [local go_sem] setCell_drewN alloc_drewN
/-- the remainder by a hundred -/
def md (z : Int) : Int := z.tmod 100
theorem md_bd (z : Int) : -9223372036854775808 ≤ md z ∧ md z ≤ 9223372036854775807 := by
  unfold md
  have h1 := Int.tmod_lt_of_pos z (show (0 : Int) < 100 by decide)
  have h2 := Int.lt_tmod_of_pos z (show (0 : Int) < 100 by decide)
  omega
theorem Lies.below {zs : Nat → Int} {v : Value} {len : Nat} {w w' : World} (h : Lies zs v len w) (hb : Below w.heap.size w w') : Lies zs v len w' := by
  rcases h with h | ⟨b, off, cap, h1, h2, h3⟩
  · exact .inl h
  · exact .inr ⟨b, off, cap, h1, Nat.lt_of_lt_of_le h2 hb.size, fun k hk => keep1 hb h2 (h3 k hk)⟩
theorem Lies.grown {zs : Nat → Int} {g len cg : Nat} {w w' : World} {row : Option Nat} (h : ∀ k, k < len → w.cell? ⟨g, k, none⟩ = some (.int .i64 (zs k))) (hl : g < w.heap.size) (hg : w.grownBy w' row) (hr : some g ≠ row) : ∀ k, k < len → w'.cell? ⟨g, k, none⟩ = some (.int .i64 (zs k)) :=
  fun k hk => (hg.cell_far ⟨g, k, none⟩ hl hr).trans (h k hk)
theorem step_below {B : Nat} {a W w1 : World} (h : Below B a W) (hB : B ≤ a.heap.size) (hb : Below W.heap.size W w1) : Below B a w1 := h.trans (hb.mono (Nat.le_trans hB h.size))
/-- p's row while it is written over and grown: all other old blocks stand -/
structure Pat (B : Nat) (w8 : World) (row : Option Nat) (n : Nat) (v : Value) (wr : World) : Prop where
  own : ∃ xs, wr.ownsRow B 2 1 v n xs
  gr : w8.grownBy wr row
  at' : v.ownBlock = row ∨ ∀ k, v.ownBlock = some k → w8.heap.size ≤ k
theorem Pat.app {B n n' : Nat} {w8 wr w9 : World} {row : Option Nat} {v v' : Value} {xs : List Value} (h : Pat B w8 row n v wr) (o : Obj) (hg : (wr.alloc o).grownBy w9 v.ownBlock) (hat : v'.ownBlock = v.ownBlock ∨ v'.ownBlock = some (wr.alloc o).heap.size) (hown : w9.ownsRow B 2 1 v' n' xs) : Pat B w8 row n' v' w9 := by
  have hs := h.gr.size
  have hsa : (wr.alloc o).heap.size = wr.heap.size + 1 := World.size_alloc _ _
  have hb : Below wr.heap.size wr (wr.alloc o) := bal (Below.refl _ _) o
  refine ⟨⟨_, hown⟩, ⟨hg.os.trans (hb.os.trans h.gr.os), hg.tape.trans (hb.tape.trans h.gr.tape), hg.output.trans (hb.output.trans h.gr.output), Nat.le_trans hs (Nat.le_trans hb.size hg.size), fun k hk hne => ?_⟩, ?_⟩
  · have e1 := h.gr.block k hk hne
    have e2 := hb.block k (Nat.lt_of_lt_of_le hk hs)
    have e3 := hg.block k (by omega) (fun e => by
      rcases h.at' with h' | h'
      · exact hne (by rw [e, h'])
      · have := h' k e.symm; omega)
    exact e3.trans (e2.trans e1)
  · rcases hat with h1 | h1
    · rw [h1]; exact h.at'
    · refine .inr fun k hk => ?_
      rw [h1] at hk
      injection hk with hk
      omega
/-- the first k are remainders -/
structure ModAt (zs : Nat → Int) (w wr : World) (g len k : Nat) : Prop where
  bel : Below w.heap.size w wr
  lt : g < wr.heap.size
  cells : ∀ j, j < len → wr.cell? ⟨g, j, none⟩ = some (.int .i64 (if j < k then md (zs j) else zs j))
  fz : ∀ j, wr.frozen? ⟨g, j, none⟩ = false
theorem ModAt.step {zs : Nat → Int} {w wr : World} {g len k : Nat} (h : ModAt zs w wr g len k) (hk : k < len) (hg : w.heap.size ≤ g) : ModAt zs w (wr.setCell ⟨g, k, none⟩ (.int .i64 (md (zs k)))) g len (k + 1) := by
  refine ⟨h.bel.setCell hg _, by simpa using h.lt, fun j hj => ?_, fun j => by simpa using h.fz j⟩
  by_cases e : j = k
  · subst e
    rw [World.cell?_setCell_same _ _ _ (h.cells j hj), if_pos (by omega)]
  · rw [World.cell?_setCell_other _ _ _ _ (by intro h'; injection h' with _ h' _; omega), h.cells j hj]
    have : j < k + 1 ↔ j < k := by omega
    simp only [this]
theorem below_of_grown {w w' : World} (h : w.grownBy w' none) : Below w.heap.size w w' := ⟨h.os, h.tape, h.output, h.size, fun k hk => h.block k hk (by simp)⟩
/-- the small question between -/
theorem split_seven (b : Nat) (w : World) (hb : b < w.heap.size) (c0 : w.cell? ⟨b, 0, none⟩ = some (.int .i64 1)) (c1 : w.cell? ⟨b, 1, none⟩ = some (.int .i64 2)) : Calls Try.prog 23 #[.int .i64 7, .slice (some ⟨b, 0, none⟩) 2 2] w fun e w' => (∃ v, e = .returned v) ∧ Below w.heap.size w w' := by
  have h : Wts 3 (fun i => if i = 0 then 1 else 2) b 0 2 w := by
    refine ⟨by omega, by omega, by decide, by omega, by omega, hb, fun k hk => ?_, fun k hk => ?_⟩
    · show 0 ≤ (if k = 0 then (1 : Int) else 2) ∧ (if k = 0 then (1 : Int) else 2) ≤ 9223372036854775807
      split <;> omega
    · have : k = 0 ∨ k = 1 := by omega
      rcases this with rfl | rfl
      · exact c0
      · exact c1
  refine (split_hands h 2 7 7 rfl (by omega)).mono ?_
  rintro e w' ⟨v, rfl, _, hB⟩
  exact ⟨⟨_, rfl⟩, hB⟩
set_option maxRecDepth 100000 in
set_option maxHeartbeats 4000000 in
theorem splits_walk (total : Int) (ht : -9223372036854775808 ≤ total) (ht' : total ≤ 9223372036854775807) (zs : Nat → Int) (a0 : Option Addr) (len cap : Nat) (w : World) (h : LIn zs w a0 len cap) :
    Calls Try.prog 6 #[.int .i64 total, .slice a0 len cap] w fun e w' => e = .returned (.bool true) ∧ Below w.heap.size w w' := by
  obtain ⟨m, f, c, hm, M1, R1⟩ := both total ht ht' zs len h.bd
  obtain ⟨m2, f2, c2, hm2, M2, R2⟩ := both total ht ht' (fun j => md (zs j)) len (fun k _ => md_bd (zs k))
  have hm3 := hide M2
  have hr3 := hide R2
  have hm1 := hide M1
  have hr1 := hide R1
  have H := hide h
  have hr := h.reach
  clear h M1 R1 M2 R2
  go_enter Try.func6, Try.ntmps6
  go_wp2_with fail
  refine (piece_any (unhide H)).mono ?_
  rintro e w1 ⟨g, cg, rfl, hown, hb1⟩
  have hc1 : ∀ k, k < len + 64 → w1.cell? ⟨g, k, none⟩ = some (.int .i64 (pz zs len k)) := fun k hk => by rw [hown.cellAt k (by omega)]; exact cellsOf_get _ _ k hk
  have hfz := fun j => hown.frozenAt j
  have hgl := hown.lt g rfl
  have hcap : (len : Int) + 64 ≤ (cg : Int) := by
    rcases hown.2 with ⟨hv, _⟩ | ⟨g', c', cur, hv, _, _, hle, _⟩
    · cases hv
    · injection hv with _ _ hv
      subst hv
      omega
  have HC1 := hide hc1
  have HF := hide hfz
  have HB1 := hide hb1
  have L1 := hide (show Lies zs (.slice (some ⟨g, 0, none⟩) len cg) len w1 from .inr ⟨g, 0, cg, rfl, hgl.2, fun k hk => by rw [Nat.zero_add, hc1 k (by omega), pz_lt hk]⟩)
  clear hown hb1 hc1 hfz
  go_wp2_with fail
  refine (unhide hm1 _ _ (unhide L1)).mono ?_
  rintro e w2 ⟨vp, rfl, hpo, hb2⟩
  have PO := hide hpo
  have HB2 := hide hb2
  clear hpo hb2
  go_wp2_with fail
  refine (split_seven _ _ (by simp) (by simp) (by simp)).mono ?_
  rintro e w3 ⟨⟨v3, rfl⟩, hb3⟩
  have D3 := hide (show Below w2.heap.size w2 w3 from step_below (bal (Below.refl _ _) (.cells #[.int .i64 1, .int .i64 2] 2)) (Nat.le_refl _) hb3)
  clear hb3
  have D13 := hide (step_below (unhide HB2) (Nat.le_refl _) (unhide D3))
  go_wp2_with fail
  refine (unhide hm1 _ _ ((unhide L1).below (unhide D13))).mono ?_
  rintro e w4 ⟨vq, rfl, hqo, hb4⟩
  have QO := hide (Shows.of_own hqo)
  have HB4 := hide hb4
  clear hqo hb4
  have C4 := hide (step_below (step_below (unhide HB1) (Nat.le_refl _) (unhide D13)) (Nat.le_refl _) (unhide HB4))
  go_wp2_with fail
  refine (unhide hr1 _ _ (Lies.of_in (unhide H) (unhide C4))).mono ?_
  rintro e w5 ⟨vw, rfl, hwo, hb5⟩
  have VO := hide hwo
  have HB5 := hide hb5
  clear hwo hb5
  have D15 := hide (step_below (step_below (unhide D13) (Nat.le_refl _) (unhide HB4)) (Nat.le_refl _) (unhide HB5))
  have C5 := hide (step_below (unhide C4) (Nat.le_refl _) (unhide HB5))
  go_wp2_with fail
  refine (kept_in (unhide H) _ (unhide C5) g cg (fun k hk => keep1 (unhide D15) hgl.2 ((unhide HC1) k hk))).mono ?_
  rintro e w6 ⟨rfl, n6, hw⟩
  have HB6 := hide (show Below w5.heap.size w5 w6 from by rw [hw]; exact below_drewN (Below.refl _ _) n6)
  clear hw
  have P6 := hide ((Shows.of_own (unhide PO)).below (step_below (step_below (step_below (unhide D3) (Nat.le_refl _) (unhide HB4)) (Nat.le_refl _) (unhide HB5)) (Nat.le_refl _) (unhide HB6)))
  have V6 := hide ((unhide VO).below (unhide HB6))
  have Q6 := hide ((unhide QO).below (step_below (unhide HB5) (Nat.le_refl _) (unhide HB6)))
  go_wp2_with fail
  refine (same_shows (unhide P6) (unhide V6) hm).mono ?_
  rintro e w7 ⟨rfl, n7, hw⟩
  have HB7 := hide (show Below w6.heap.size w6 w7 from by rw [hw]; exact below_drewN (Below.refl _ _) n7)
  clear hw
  go_wp2_with fail
  refine (same_shows ((unhide Q6).below (unhide HB7)) ((unhide V6).below (unhide HB7)) hm).mono ?_
  rintro e w8 ⟨rfl, n8, hw⟩
  have HB8 := hide (show Below w7.heap.size w7 w8 from by rw [hw]; exact below_drewN (Below.refl _ _) n8)
  clear hw
  have hcc : (c != c) = false := by simp
  have D68 := hide (step_below (unhide HB7) (Nat.le_refl _) (unhide HB8))
  have D58 := hide (step_below (unhide HB6) (Nat.le_refl _) (unhide D68))
  have C8 := hide (step_below (unhide C5) (Nat.le_refl _) (unhide D58))
  have D18 := hide (step_below (unhide D15) (Nat.le_refl _) (unhide D58))
  have D28 := hide (step_below (step_below (step_below (unhide D3) (Nat.le_refl _) (unhide HB4)) (Nat.le_refl _) (unhide HB5)) (Nat.le_refl _) (unhide D58))
  have P8 := hide (own_below (unhide PO) (unhide D28))
  have Q8 := hide ((unhide Q6).below (unhide D68))
  have V8 := hide ((unhide V6).below (unhide D68))
  have F8 := hide (show ∀ k, k < len + 64 → w8.cell? ⟨g, k, none⟩ = some (.int .i64 (pz zs len k)) from fun k hk => keep1 (unhide D18) hgl.2 ((unhide HC1) k hk))
  have Z8 := hide (show ∀ j, w8.frozen? ⟨g, j, none⟩ = false from fun j => keepF (unhide D18) hgl.2 ((unhide HF) j))
  have hg8 : g < w8.heap.size := Nat.lt_of_lt_of_le hgl.2 (unhide D18).size
  have s23 : w2.heap.size ≤ w3.heap.size := (unhide D3).size
  have s34 : w3.heap.size ≤ w4.heap.size := (unhide HB4).size
  have s12 : w1.heap.size ≤ w2.heap.size := (unhide HB2).size
  have s38 : w3.heap.size ≤ w8.heap.size := Nat.le_trans s34 (Nat.le_trans (unhide HB5).size (unhide D58).size)
  have PL := hide (show ∀ k, vp.ownBlock = some k → w1.heap.size ≤ k ∧ k < w3.heap.size from fun k hk => by have := (unhide PO).lt k hk; omega)
  obtain ⟨ap, cp, hvp⟩ : ∃ ap cp, vp = .slice ap m cp := by
    rcases (unhide PO).2 with ⟨hv, h0⟩ | ⟨g', c', cur, hv, _⟩
    · exact ⟨none, 0, by rw [hv, h0]⟩
    · exact ⟨_, _, hv⟩
  subst hvp
  clear PO QO VO P6 V6 Q6 HB2 D3 D13 HB4 C4 HB5 D15 C5 HB6 HB7 HB8 D68 D58 D28 HC1 HF L1
  have PA0 : Hid (Pat w1.heap.size w8 (Value.slice ap m cp).ownBlock m (.slice ap m cp) w8) := ⟨⟨_, unhide P8⟩, ⟨rfl, rfl, rfl, Nat.le_refl _, fun _ _ _ => rfl⟩, .inl rfl⟩
  have s18 : w1.heap.size ≤ w8.heap.size := by omega
  clear P8
  generalize hrow : (Value.slice ap m cp).ownBlock = row at *
  have HROW := hide hrow
  clear hrow
  go_wp2_with fail
  go_loopw [15] (fun i wr => ∃ k : Nat, k ≤ m ∧ i = .int .i64 (k : Int) ∧ Pat w1.heap.size w8 row m (.slice ap m cp) wr) (fun i _ => m - (intOf i).toNat)
  case atStart => exact ⟨0, by omega, rfl, unhide PA0⟩
  case round =>
    obtain ⟨k, hk, rfl, hP⟩ := hrel
    have HP := hide hP
    clear PA0
    by_cases hlt : k < m
    · obtain ⟨xs, hown⟩ := hP.own
      obtain ⟨pb, hap⟩ : ∃ pb, ap = some ⟨pb, 0, none⟩ := by
        rcases hown.2 with ⟨hv, h0⟩ | ⟨g', c', cur, hv, _⟩
        · omega
        · injection hv with hv _ _; exact ⟨g', hv⟩
      subst hap
      have hxl : k < xs.length := by have := hown.1; omega
      have hce : wr.cell? ⟨pb, k, none⟩ = some xs[k] := by rw [hown.cellAt k (by omega)]; simp [hxl]
      have hfe := hown.frozenAt k
      have hI : (k : Int) < (m : Int) := by omega
      have hI0 : (0 : Int) ≤ (k : Int) := by omega
      have HS := hide (hown.stored k (.int .i64 (-1000 - (k : Int))))
      clear hown hP
      go_wp2_with fail
      refine ⟨⟨k + 1, by omega, by go_num, ⟨_, (unhide HS).1⟩, ?_, (unhide HP).at'⟩, by simp [intOf]; omega⟩
      have e1 : row = some pb := (unhide HROW).symm
      rw [e1]
      exact (by have := (unhide HP).gr; rwa [e1] at this : w8.grownBy wr (some pb)).trans (unhide HS).2
    · have hI : ¬ (k : Int) < (m : Int) := by omega
      clear hP
      go_wp2_with fail
      go_loopw [6, 16] (fun v i wr => ∃ j : Nat, j ≤ 64 ∧ i = .int .i64 (j : Int) ∧ Pat w1.heap.size w8 row (m + j) v wr) (fun _ i _ => 64 - (intOf i).toNat)
      case atStart => exact ⟨0, by omega, rfl, unhide HP⟩
      case round =>
        obtain ⟨j, hj, rfl, hP⟩ := hrel
        have HP2 := hide hP
        clear HP
        by_cases hlj : j < 64
        · obtain ⟨xs, hown⟩ := hP.own
          have OWN := hide hown
          obtain ⟨i0, hi, hz0, hz1, hz2⟩ := info_parts info2
          have HI := hide hi; have HZ0 := hide hz0; have HZ1 := hide hz1; have HZ2 := hide hz2
          have hws := hP.gr.size
          clear hi hz0 hz1 hz2 hown hP
          go_wp2_with (at_builtin; refine wpList_append_own_at _ rfl _ _ 22 rfl w1.heap.size 2 i0 (.int .i64 0) 1 8 Try.underlying22 (unhide HI) (unhide HZ0) (unhide HZ1) (unhide HZ2) rfl (by decide) _ _ _ rfl ((unhide OWN).alloc _) ⟨wr.heap.size, 0, none⟩ 1 1 [.int .i64 (-5000)] rfl rfl (cell_one_new _ _ _) (by intro u hu; simp at hu; subst hu; rfl) (by unfold maxLen; omega) (by omega) (by simp; omega) ?_; intro v9 w9 hown9 hgrow9 _ hat9)
          have N9 := hide ((unhide HP2).app _ hgrow9 hat9 hown9)
          clear hown9 hgrow9 hat9
          go_wp2_with fail
          go_roundw
          case rel => exact ⟨j + 1, by omega, by go_num, unhide N9⟩
          case measure => simp [intOf]; omega
        · have hI2 : ¬ (j : Int) < 64 := by omega
          have hnr : some g ≠ row := fun e => by have := (unhide PL g e.symm).1; omega
          have hws := hP.gr.size
          have F9 := hide (show ∀ k, k < len + 64 → wr.cell? ⟨g, k, none⟩ = some (.int .i64 (pz zs len k)) from fun k hk => (hP.gr.cell_far ⟨g, k, none⟩ hg8 hnr).trans (unhide F8 k hk))
          have Z9 := hide (show ∀ j, wr.frozen? ⟨g, j, none⟩ = false from fun j => (hP.gr.frozen_far ⟨g, j, none⟩ hg8 hnr).trans (unhide Z8 j))
          have Q9 := hide ((unhide Q8).grown hP.gr (fun k hk => (unhide PL k hk).2))
          have V9 := hide ((unhide V8).grown hP.gr (fun k hk => by have := (unhide PL k hk).2; omega))
          have C9 := hide ((unhide C8).grown hP.gr (unhide C8).size (fun k hk => by have := (unhide PL k hk).1; have := (unhide HB1).size; omega))
          have L9 := hide (show Lies zs (.slice (some ⟨g, 0, none⟩) len cg) len wr from .inr ⟨g, 0, cg, rfl, by omega, fun k hk => by rw [Nat.zero_add, unhide F9 k (by omega), pz_lt hk]⟩)
          have hg9 : g < wr.heap.size := by omega
          clear hP HP2 Q8 V8 C8 F8 Z8 PL HROW D18
          go_wp2_with fail
          refine (unhide hm1 _ _ (unhide L9)).mono ?_
          rintro e w10 ⟨vt, rfl, hto, hb10⟩
          have T10 := hide (Shows.of_own hto)
          have HB10 := hide hb10
          clear hto hb10
          go_wp2_with fail
          refine (same_shows (unhide T10) ((unhide V9).below (unhide HB10)) hm).mono ?_
          rintro e w11 ⟨rfl, n11, hw⟩
          have HB11 := hide (show Below w10.heap.size w10 w11 from by rw [hw]; exact below_drewN (Below.refl _ _) n11)
          clear hw
          have D11 := hide (step_below (unhide HB10) (Nat.le_refl _) (unhide HB11))
          go_wp2_with fail
          refine (same_shows ((unhide Q9).below (unhide D11)) ((unhide V9).below (unhide D11)) hm).mono ?_
          rintro e w12 ⟨rfl, n12, hw⟩
          have HB12 := hide (show Below w11.heap.size w11 w12 from by rw [hw]; exact below_drewN (Below.refl _ _) n12)
          clear hw
          have D12 := hide (step_below (unhide D11) (Nat.le_refl _) (unhide HB12))
          have C12 := hide (step_below (unhide C9) (Nat.le_refl _) (unhide D12))
          go_wp2_with fail
          refine (kept_in (unhide H) _ (unhide C12) g cg (fun k hk => keep1 (unhide D12) hg9 ((unhide F9) k hk))).mono ?_
          rintro e w13 ⟨rfl, n13, hw⟩
          have HB13 := hide (show Below w12.heap.size w12 w13 from by rw [hw]; exact below_drewN (Below.refl _ _) n13)
          clear hw
          have D13 := hide (step_below (unhide D12) (Nat.le_refl _) (unhide HB13))
          have C13 := hide (step_below (unhide C12) (Nat.le_refl _) (unhide HB13))
          have F13 := hide (show ∀ k, k < len → w13.cell? ⟨g, k, none⟩ = some (.int .i64 (zs k)) from fun k hk => by rw [← pz_lt (zs := zs) hk]; exact keep1 (unhide D13) hg9 (unhide F9 k (by omega)))
          have Z13 := hide (show ∀ j, w13.frozen? ⟨g, j, none⟩ = false from fun j => keepF (unhide D13) hg9 (unhide Z9 j))
          have hg13 : g < w13.heap.size := Nat.lt_of_lt_of_le hg9 (unhide D13).size
          clear T10 Q9 V9 C9 L9 HB10 HB11 D11 HB12 D12 C12 HB13 D13 F9 Z9 hm1 hr1
          have M13 : Hid (ModAt zs w w13 g len 0) := ⟨unhide C13, hg13, fun j hj => by rw [unhide F13 j hj, if_neg (by omega)], unhide Z13⟩
          clear C13 F13 Z13
          go_wp2_with fail
          go_loopw [19] (fun i wr => ∃ x : Nat, x ≤ len ∧ i = .int .i64 (x : Int) ∧ ModAt zs w wr g len x) (fun i _ => len - (intOf i).toNat)
          case atStart => exact ⟨0, by omega, rfl, unhide M13⟩
          case round =>
            obtain ⟨x, hx, rfl, hs⟩ := hrel
            have HS := hide hs
            clear M13
            by_cases hlx : x < len
            · have hck : wr.cell? ⟨g, x, none⟩ = some (.int .i64 (zs x)) := by rw [hs.cells x hlx, if_neg (by omega)]
              have hfk := hs.fz x
              have hzk := (unhide H).bd x hlx
              have hlt1 : (x : Int) < (len : Int) + 64 := by omega
              have hI3 : (x : Int) < (len : Int) := by omega
              have hI4 : (0 : Int) ≤ (x : Int) := by omega
              clear hs
              by_cases h0 : 0 ≤ zs x
              · go_wp2_with fail
                refine ⟨⟨x + 1, by omega, by go_num, ?_⟩, by simp [intOf]; omega⟩
                rw [show zs x % 100 = md (zs x) from by unfold md; rw [Int.tmod_eq_emod_of_nonneg h0]]
                exact (unhide HS).step hlx hgl.1
              · go_wp2_with fail
                refine ⟨⟨x + 1, by omega, by go_num, ?_⟩, by simp [intOf]; omega⟩
                exact (unhide HS).step hlx hgl.1
            · have hxl : x = len := by omega
              subst hxl
              have hI3 : ¬ (x : Int) < (x : Int) := by omega
              have hcs := hide (fun j (hj : j < x) => (hs.cells j hj).trans (by rw [if_pos hj]))
              have L14 := hide (show Lies (fun j => md (zs j)) (.slice (some ⟨g, 0, none⟩) x cg) x wr from .inr ⟨g, 0, cg, rfl, hs.lt, fun k hk => by rw [Nat.zero_add]; exact unhide hcs k hk⟩)
              obtain ⟨i0, hi, hz0, hz1, hz2⟩ := info_parts info2
              have HI := hide hi; have HZ0 := hide hz0; have HZ1 := hide hz1; have HZ2 := hide hz2
              have hsz := hs.bel.size
              have hlg := hs.lt
              clear hi hz0 hz1 hz2 hs
              have hcc2 : (c2 == c2) = true := by simp
              go_wp2_with fail
              refine (unhide hm3 _ _ (unhide L14)).mono ?_
              rintro e w15 ⟨vp2, rfl, ho, hb15⟩
              have O15 := hide (Shows.of_own ho)
              have HB15 := hide hb15
              have hsz15 : w.heap.size ≤ w15.heap.size := Nat.le_trans hsz hb15.size
              have hc15 := hide (fun j (hj : j < x) => keep1 hb15 hlg (unhide hcs j hj))
              clear ho hb15
              go_wp2_with (at_builtin; refine wpList_append_own _ rfl _ _ 22 rfl w.heap.size 2 i0 (.int .i64 0) 1 8 Try.underlying22 (unhide HI) (unhide HZ0) (unhide HZ1) (unhide HZ2) rfl (by decide) _ _ _ rfl (World.ownsRow_nil _ _ _ _) ⟨g, 0, none⟩ x cg (cellsOf (fun j => md (zs j)) x) rfl (by rw [cellsOf_length]; omega) (fun j u hj => by obtain ⟨h1, h2⟩ := cellsOf_get' hj; rw [h2, Addr.add_mid, Nat.zero_add]; exact (unhide hc15) j h1) (cellsOf_one _ _) (by unfold maxLen; omega) (by omega) hsz15 ?_; intro v16 w16 hown16 hgrow16 _; have O16 := hide hown16; have G16 := hide hgrow16; clear hown16 hgrow16)
              refine (unhide hr3 _ _ (Lies.of_own (B := w.heap.size) (by have h := unhide O16; rwa [Nat.zero_add, List.nil_append] at h))).mono ?_
              rintro e w17 ⟨vw2, rfl, hv17, hb17⟩
              have B16 := hide (below_of_grown (unhide G16))
              have V17 := hide hv17
              have HB17 := hide hb17
              clear hv17 hb17
              have D17 := hide (step_below (unhide B16) (Nat.le_refl _) (unhide HB17))
              go_wp2_with fail
              refine (same_shows ((unhide O15).below (unhide D17)) (unhide V17) hm2).mono ?_
              rintro e w18 ⟨rfl, n18, hw⟩
              have HB18 := hide (show Below w17.heap.size w17 w18 from by rw [hw]; exact below_drewN (Below.refl _ _) n18)
              clear hw
              have C18 := hide (step_below (step_below (step_below (unhide HS).bel (Nat.le_refl _) (unhide HB15)) (Nat.le_refl _) (unhide D17)) (Nat.le_refl _) (unhide HB18))
              go_wp2_with fail
              go_ret
              exact ⟨rfl, unhide C18⟩
end Go.Proofs.Ytddpladmkmpoaaa
