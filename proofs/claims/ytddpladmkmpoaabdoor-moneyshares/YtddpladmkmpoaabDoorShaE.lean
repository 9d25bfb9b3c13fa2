import Derived.Test.YtddpladmkmpoaabDoorShaD
namespace Go.Proofs.YtddpladmkmpoaabDoor
open Go.ChangeShapes Go.WideShapes Go.ChangeAt Go.RowKit
set_option linter.unusedVariables false
/-- a list that came in, of any length -/
structure LAny (zs : Nat → Int) (w : World) (a0 : Option Addr) (len cap : Nat) : Prop where
  reach : len ≤ 9223372036854775807
  bd : ∀ k, k < len → -9223372036854775808 ≤ zs k ∧ zs k ≤ 9223372036854775807
  at' : len = 0 ∨ ∃ b off, a0 = some ⟨b, off, none⟩ ∧ b < w.heap.size ∧ ∀ k, k < len → w.cell? ⟨b, off + k, none⟩ = some (.int .i64 (zs k))
theorem msum_la {zs : Nat → Int} {w : World} {a0 : Option Addr} {len cap : Nat} (h : LAny zs w a0 len cap) (w1 : World) (hb : Below w.heap.size w w1) : Calls Tryd.prog 8 #[.slice a0 len cap] w1 fun e w' => e = .returned (.tuple #[.int .i64 (sumSpec zs len).1, .int .i64 (sumSpec zs len).2]) ∧ w' = w1 := by
  rcases h.at' with h0 | ⟨b, off, rfl, hbb, hc⟩
  · subst h0; exact msum_zero zs a0 cap w1
  · exact msum_any zs b off len cap h.reach h.bd w1 (fun k hk => by rw [hb.cell (show (⟨b, off + k, none⟩ : Addr).block < w.heap.size from hbb)]; exact hc k hk)
theorem first_neg (zs : Nat → Int) : ∀ n, (∀ k, k < n → 0 ≤ zs k) ∨ ∃ k0, k0 < n ∧ zs k0 < 0 ∧ ∀ k, k < k0 → 0 ≤ zs k
  | 0 => .inl fun k hk => by omega
  | n + 1 => by
    rcases first_neg zs n with h | ⟨k0, h1, h2, h3⟩
    · by_cases hn : zs n < 0
      · exact .inr ⟨n, by omega, hn, h⟩
      · refine .inl fun k hk => ?_
        by_cases hkn : k = n
        · subst hkn; omega
        · exact h k (by omega)
    · exact .inr ⟨k0, by omega, h2, h3⟩
/-- the law, at every list -/
theorem shares_walk (total k : Int) (zs : Nat → Int) (a0 : Option Addr) (len cap : Nat) (w : World) (hP : Pow w) (h : LAny zs w a0 len cap) (ht : -9223372036854775808 ≤ total) (ht' : total ≤ 9223372036854775807) (hk : -9223372036854775808 ≤ k) (hk' : k ≤ 9223372036854775807) :
    Calls Tryd.prog 4 #[.int .i64 total, .slice a0 len cap, .int .i64 k] w fun e w' => e = .returned (.bool true) ∧ Below w.heap.size w w' := by
  have C2 := fun W hB => msum_la h W hB
  by_cases hm : total = -9223372036854775808
  · subst hm
    exact shares_err _ k _ w hP 10 _ _ (by decide) (fun W _ => split_min _ W) C2
  · have bad : (∀ W, Below w.heap.size w W → Calls Tryd.prog 23 #[.slice a0 len cap] W fun e w' => e = .returned (.tuple #[.int .i64 0, .int .i64 13]) ∧ w' = W) → Calls Tryd.prog 4 #[.int .i64 total, .slice a0 len cap, .int .i64 k] w fun e w' => e = .returned (.bool true) ∧ Below w.heap.size w w' :=
      fun C => shares_err _ k _ w hP 13 _ _ (by decide) (fun W hB => split_bad total (by omega) _ W (C W hB)) C2
    by_cases h0 : len = 0
    · subst h0
      exact bad fun W _ => weigh_none a0 cap W
    · by_cases h1 : 1000 < len
      · exact bad fun W _ => weigh_many a0 len cap h1 W
      · rcases h.at' with h' | ⟨b, off, rfl, hbb, hc⟩
        · exact absurd h' h0
        · have hcW : ∀ W, Below w.heap.size w W → ∀ k, k < len → W.cell? ⟨b, off + k, none⟩ = some (.int .i64 (zs k)) := fun W hB k hk => by
            rw [hB.cell (show (⟨b, off + k, none⟩ : Addr).block < w.heap.size from hbb)]; exact hc k hk
          rcases first_neg zs len with hp | ⟨k0, g1, g2, g3⟩
          · have hz : ∀ k, k < len → 0 ≤ zs k ∧ zs k ≤ 9223372036854775807 := fun k hk => ⟨hp k hk, (h.bd k hk).2⟩
            obtain ⟨s0, e0, hs⟩ : ∃ s0 e0, sumSpec zs len = (s0, e0) := ⟨_, _, rfl⟩
            by_cases he : e0 = 0
            · by_cases hs0 : s0 = 0
              · exact bad fun W hB => weigh_sum zs b off len cap (by omega) (by omega) (hide hz) W (hide (hcW W hB)) s0 e0 (hide hs) (.inr ⟨by rw [he]; rfl, hs0⟩)
              · obtain ⟨q1, q2, q3, q4⟩ := sumSpec_ok (zs := zs) (n := len) (by rw [hs]; exact he)
                have q5 := sumN_is len hp
                rw [hs] at q2
                simp only at q2
                exact shares_ok total k (sumN zs len) b off len cap _ zs w hP ⟨by omega, by omega, rfl, by omega, by omega, hbb, hz, hc⟩ rfl (by omega) hk hk'
            · exact bad fun W hB => weigh_sum zs b off len cap (by omega) (by omega) (hide hz) W (hide (hcW W hB)) s0 e0 (hide hs) (.inl (by simpa using he))
          · exact bad fun W hB => weigh_neg zs b off len cap (by omega) W (hide (hcW W hB)) k0 g1 g2 (hide g3)
end Go.Proofs.YtddpladmkmpoaabDoor
