import Derived.Test.YtddpladmkmpoaaaDoorRouB
import Derived.Test.YtddpladmkmpoaaaDoorRouC
namespace Go.Proofs.YtddpladmkmpoaaaDoor
open Go.ChangeShapes Go.WideShapes Go.ChangeAt Go.RowKit
set_option linter.unusedVariables false
theorem ratio_no (a n d : Int) (h : a = -9223372036854775808 ∨ n = -9223372036854775808 ∨ d < 1) : (ratioSpec a n d 0).2 ≠ 0 := by
  unfold ratioSpec
  by_cases hd : d < 1 ∨ (0 : Int) < 0 ∨ (5 : Int) < 0
  · rw [if_pos hd]
    decide
  · rw [if_neg hd]
    have : (isMin a || isMin n) = true := by
      rcases h with h | h | h
      · subst h; simp [isMin]
      · subst h; simp [isMin]
      · exact (hd (Or.inl h)).elim
    rw [if_pos this]
    decide
theorem sg_lo (o : Bool) (x : Nat) (h : x < 9223372036854775808) : -9223372036854775807 ≤ sg o x ∧ sg o x ≤ 9223372036854775807 := by
  cases o <;> simp [sg] <;> omega
theorem tmod_par (x : Int) (h : x.tmod 2 ≠ 0) : x % 2 ≠ 0 := by
  intro h2
  apply h
  exact Int.tmod_eq_zero_of_dvd (by omega)
theorem walk_rounds (a n d : Int) (w : World) (hP : Pow w) (ha : -9223372036854775808 ≤ a) (ha' : a ≤ 9223372036854775807) (hn : -9223372036854775808 ≤ n) (hn' : n ≤ 9223372036854775807) (hd : -9223372036854775808 ≤ d) (hd' : d ≤ 9223372036854775807) :
    Calls Tryd.prog 4 #[.int .i64 a, .int .i64 n, .int .i64 d] w fun e w' => e = .returned (.bool true) ∧ Below w.heap.size w w' := by
  by_cases hb : a = -9223372036854775808 ∨ n = -9223372036854775808 ∨ d < 1
  · exact rounds_bad a n d w hP ha hn ha' hn' hd' (by omega) _ rfl (ratio_no a n d hb)
  · have h1 : a ≠ -9223372036854775808 := by omega
    have h2 : n ≠ -9223372036854775808 := by omega
    have h3 : 1 ≤ d := by omega
    have ma : isMin a = false := isMin_no h1
    have mn : isMin n = false := isMin_no h2
    have md : isMin d = false := isMin_no (by omega)
    have mm : isMin (-a) = false := isMin_no (by omega)
    have e1 : (a == -9223372036854775808) = false := by rw [beq_eq_false_iff_ne]; exact h1
    have e2 : (n == -9223372036854775808) = false := by rw [beq_eq_false_iff_ne]; exact h2
    have RD : ∀ (k : Nat) (_ : k < 6) W, Calls Tryd.prog 8 #[.int .i64 a, .int .i64 d, .int .i64 d, .int .i64 k] W fun e w' => e = .returned (.tuple #[.int .i64 a, .int .i64 0]) ∧ Below W.heap.size W w' := fun k hk W => by
      have := mratio_any a d d k W ha hd ha' hd' hd' ⟨by omega, by omega⟩
      rw [ratio_self a d k hk h3 (by omega) ha' ma md] at this
      exact this
    by_cases hall : ∀ i : Nat, i < 6 → (ratioSpec a n d i).2 = 0
    · have hv := fun i (hi : i < 6) => ratio_ok a n d i hi h3 ma mn (hall i hi)
      have L := (six (opp a n) (a.natAbs * n.natAbs) d.natAbs (by omega)).law
      have q0 := (hv 0 (by omega)).2
      have q1 := (hv 1 (by omega)).2
      have q2 := (hv 2 (by omega)).2
      have q3 := (hv 3 (by omega)).2
      have q4 := (hv 4 (by omega)).2
      have q5 := (hv 5 (by omega)).2
      have b2 := sg_lo (opp a n) _ (hv 2 (by omega)).1
      have b3 := sg_lo (opp a n) _ (hv 3 (by omega)).1
      obtain ⟨L1, L2, L3, L4, L5, L6, L7⟩ := L
      have M0 := L4 0 (by omega)
      have M1 := L4 1 (by omega)
      have M4 := L4 4 (by omega)
      have M5 := L4 5 (by omega)
      clear L4
      rw [← q0] at L3 L5 L6 M0
      rw [← q1] at L3 M1
      rw [← q2] at L1 L2 L3 L6 M0 M1 M4 M5 b2
      rw [← q3] at L1 L2 L3 L5 M0 M1 M4 M5 b3
      rw [← q4] at L7 M4
      rw [← q5] at L7 M5
      have R1 : ∀ W, Calls Tryd.prog 9 #[.int .i64 a, .int .i64 n, .int .i64 d] W fun e w' => e = .returned (.tuple #[.agg #[.int .i64 (ratioSpec a n d (0 : Nat)).1, .int .i64 (ratioSpec a n d (1 : Nat)).1, .int .i64 (ratioSpec a n d (2 : Nat)).1, .int .i64 (ratioSpec a n d (3 : Nat)).1, .int .i64 (ratioSpec a n d (4 : Nat)).1, .int .i64 (ratioSpec a n d (5 : Nat)).1], .bool true]) ∧ Below W.heap.size W w' := fun W => by
        refine (round_any a n d W ha hn ha' hn' hd').mono ?_
        rintro e w' ⟨x, t, rfl, ht, hf, hB⟩
        cases t
        · obtain ⟨i, hi, hne⟩ := hf rfl
          exact (hne (hall i hi)).elim
        · have hx := ht rfl
          refine ⟨?_, hB⟩
          rw [(hx 0 (by omega)).1, (hx 1 (by omega)).1, (hx 2 (by omega)).1, (hx 3 (by omega)).1, (hx 4 (by omega)).1, (hx 5 (by omega)).1]
      have o0 := ratio_opp a n d 0 0 (by omega) (by omega) (by omega) h3 ma mm mn (hall 0 (by omega))
      have o1 := ratio_opp a n d 1 1 (by omega) (by omega) (by omega) h3 ma mm mn (hall 1 (by omega))
      have o2 := ratio_opp a n d 2 3 (by omega) (by omega) (by omega) h3 ma mm mn (hall 3 (by omega))
      have o3 := ratio_opp a n d 3 2 (by omega) (by omega) (by omega) h3 ma mm mn (hall 2 (by omega))
      have o4 := ratio_opp a n d 4 4 (by omega) (by omega) (by omega) h3 ma mm mn (hall 4 (by omega))
      have o5 := ratio_opp a n d 5 5 (by omega) (by omega) (by omega) h3 ma mm mn (hall 5 (by omega))
      have R2 : ∀ W, Calls Tryd.prog 9 #[.int .i64 (-a), .int .i64 n, .int .i64 d] W fun e w' => e = .returned (.tuple #[.agg #[.int .i64 (-(ratioSpec a n d (0 : Nat)).1), .int .i64 (-(ratioSpec a n d (1 : Nat)).1), .int .i64 (-(ratioSpec a n d (3 : Nat)).1), .int .i64 (-(ratioSpec a n d (2 : Nat)).1), .int .i64 (-(ratioSpec a n d (4 : Nat)).1), .int .i64 (-(ratioSpec a n d (5 : Nat)).1)], .bool true]) ∧ Below W.heap.size W w' := fun W => by
        refine (round_any (-a) n d W (by omega) hn (by omega) hn' hd').mono ?_
        rintro e w' ⟨x, t, rfl, ht, hf, hB⟩
        cases t
        · obtain ⟨i, hi, hne⟩ := hf rfl
          have : i = 0 ∨ i = 1 ∨ i = 2 ∨ i = 3 ∨ i = 4 ∨ i = 5 := by omega
          rcases this with rfl | rfl | rfl | rfl | rfl | rfl
          · exact (hne (by rw [o0])).elim
          · exact (hne (by rw [o1])).elim
          · exact (hne (by rw [o2])).elim
          · exact (hne (by rw [o3])).elim
          · exact (hne (by rw [o4])).elim
          · exact (hne (by rw [o5])).elim
        · have hx := ht rfl
          refine ⟨?_, hB⟩
          rw [(hx 0 (by omega)).1, (hx 1 (by omega)).1, (hx 2 (by omega)).1, (hx 3 (by omega)).1, (hx 4 (by omega)).1, (hx 5 (by omega)).1, o0, o1, o2, o3, o4, o5]
      revert R1 R2 L1 L2 L3 L5 L6 L7 M0 M1 M4 M5 b2 b3
      clear q0 q1 q2 q3 q4 q5 o0 o1 o2 o3 o4 o5 hv
      generalize (ratioSpec a n d (0 : Nat)).1 = x0
      generalize (ratioSpec a n d (1 : Nat)).1 = x1
      generalize (ratioSpec a n d (2 : Nat)).1 = x2
      generalize (ratioSpec a n d (3 : Nat)).1 = x3
      generalize (ratioSpec a n d (4 : Nat)).1 = x4
      generalize (ratioSpec a n d (5 : Nat)).1 = x5
      intro b2 b3 L1 L2 L3 L5 L6 L7 M0 M1 M4 M5 R1 R2
      refine rounds_go a n d w hP e1 e2 h3 (by omega) ha' RD x0 x1 x2 x3 x4 x5 (x2 == x3) L1 L2 ?_ rfl M0.1 M0.2 M1.1 M1.2 M4.1 M4.2 M5.1 M5.2 b2.1 b3.2 ?_ ?_ R1 R2
      · rw [Bool.eq_iff_iff, beq_iff_eq, beq_iff_eq]
        exact L3
      · show x0 < 0 ∧ (x0 != x3) = false ∨ ¬ x0 < 0 ∧ 0 < x0 ∧ (x0 != x2) = false ∨ ¬ x0 < 0 ∧ ¬ 0 < x0
        by_cases c1 : x0 < 0
        · exact Or.inl ⟨c1, by rw [L5 c1]; simp⟩
        · by_cases c2 : 0 < x0
          · exact Or.inr (Or.inl ⟨c1, c2, by rw [L6 c2]; simp⟩)
          · exact Or.inr (Or.inr ⟨c1, c2⟩)
      · show (x4 != x5) = false ∨ (x4 != x5) = true ∧ (x4.tmod 2 == 0) = false ∧ (x4 % 2 == 0) = false
        by_cases c1 : x4 = x5
        · exact Or.inl (by rw [c1]; simp)
        · have c2 := L7 c1
          exact Or.inr ⟨by rw [bne_iff_ne]; exact c1, by rw [beq_eq_false_iff_ne]; exact c2, by rw [beq_eq_false_iff_ne]; exact tmod_par x4 c2⟩
    · have R1 : ∀ W, Calls Tryd.prog 9 #[.int .i64 a, .int .i64 n, .int .i64 d] W fun e w' => ∃ x : Nat → Int, e = .returned (.tuple #[.agg #[.int .i64 (x 0), .int .i64 (x 1), .int .i64 (x 2), .int .i64 (x 3), .int .i64 (x 4), .int .i64 (x 5)], .bool false]) ∧ Below W.heap.size W w' := fun W => by
        refine (round_any a n d W ha hn ha' hn' hd').mono ?_
        rintro e w' ⟨x, t, rfl, ht, hf, hB⟩
        cases t
        · exact ⟨x, rfl, hB⟩
        · exact (hall fun i hi => (ht rfl i hi).2).elim
      exact rounds_fail a n d w hP e1 e2 h3 (by omega) ha' RD R1
end Go.Proofs.YtddpladmkmpoaaaDoor
