import Derived.Test.YtjipemnphpnmiabDoorMeA
namespace Go.Proofs.YtjipemnphpnmiabDoor
open Go.ChangeShapes Go.WideShapes Go.ChangeAt Go.RowKit
set_option linter.unusedVariables false
/-- twelve months on -/
theorem ends12 (y m d n : Nat) (w : World) (hM : Mon w) (h : Dat y m d n) : (y = 9999 ∧ ∀ W, Below w.heap.size w W → Calls Tryd.prog 16 #[.int .i64 (n : Int), .int .i64 12] W fun e w' => e = .returned (.tuple #[.int .i64 0, .int .i64 20]) ∧ Below W.heap.size W w') ∨
      ∃ N t : Nat, (∀ W, Below w.heap.size w W → Calls Tryd.prog 16 #[.int .i64 (n : Int), .int .i64 12] W fun e w' => e = .returned (.tuple #[.int .i64 (N : Int), .int .i64 0]) ∧ Below W.heap.size W w') ∧
        (∀ W, Below w.heap.size w W → Calls Tryd.prog 10 #[.int .i64 (N : Int)] W fun e w' => e = .returned (.tuple #[.agg #[.int .i64 ((y : Int) + 1), .int .i64 m, .int .i64 t], .int .i64 0]) ∧ w' = ((W.alloc (db 25 ((y : Int) + 1) m t)).alloc (db 25 ((y : Int) + 1) m t)).alloc (db 25 ((y : Int) + 1) m t)) ∧
        (m ≠ 2 ∧ t = d ∨ m = 2 ∧ d ≠ 29 ∧ t = d ∨ m = 2 ∧ d = 29 ∧ lp ((y : Int) + 1) = false ∧ t = 28) := by
  have h1 := h.y1
  have h2 := h.y2
  have h3 := h.m1
  have h4 := h.m2
  by_cases hy : y = 9999
  · exact Or.inl ⟨hy, fun W hW => dam_out y m d n 12 W (hM.below hW) h _ rfl (by omega)⟩
  · refine Or.inr ?_
    have e1 : (12 * (y + 1) + m - 1) / 12 = y + 1 := by omega
    have e2 : (12 * (y + 1) + m - 1) % 12 + 1 = m := by omega
    have hk := h.mon (12 * (y + 1) + m - 1) (by omega) (by omega)
    have hg := fun W (hW : Below w.heap.size w W) => dam_go y m d n 12 W (hM.below hW) h (12 * (y + 1) + m - 1) (by omega) (by omega) (by omega)
    rw [e1, e2] at hk
    simp only [e1, e2] at hg
    refine ⟨_, min d (dm (y + 1) m), hg, fun W hW => ?_, ?_⟩
    · have := dto_ok (y + 1) m _ _ W (hM.below hW) hk
      rw [show ((y + 1 : Nat) : Int) = (y : Int) + 1 by omega] at this
      exact this
    · have hd1 := h.d1
      have hd2 := h.d2
      by_cases hm : m = 2
      · subst hm
        have hl := dm_lo (y + 1) 2
        by_cases hd : d = 29
        · subst hd
          have hly : leap y = true := by
            unfold dm at hd2
            simp at hd2
            cases hh : leap y
            · rw [hh] at hd2
              simp at hd2
            · rfl
          have hly2 : leap (y + 1) = false := by
            have a1 := leap_iff y
            have a2 := leap_iff (y + 1)
            rw [hly] at a1
            cases hh : leap (y + 1)
            · rfl
            · rw [hh] at a2
              simp at a1 a2
              omega
          refine Or.inr (Or.inr ⟨rfl, rfl, ?_, ?_⟩)
          · have := lp_nat (y + 1)
            rw [hly2] at this
            exact this
          · simp [dm, hly2]
        · have : d ≤ 28 := by
            have := dm_hi y 2
            unfold dm at hd2
            simp at hd2
            split at hd2 <;> omega
          exact Or.inr (Or.inl ⟨rfl, hd, by omega⟩)
      · have e3 : dm (y + 1) m = dm y m := by simp [dm, hm]
        rw [e3]
        exact Or.inl ⟨hm, by omega⟩
/-- months there and back -/
theorem endsb (y m d n : Nat) (b0 : Int) (w : World) (hM : Mon w) (h : Dat y m d n) : b0 = -9223372036854775808 ∨ b0 ≠ -9223372036854775808 ∧ (∀ W, Below w.heap.size w W → Calls Tryd.prog 16 #[.int .i64 (n : Int), .int .i64 b0] W fun e w' => e = .returned (.tuple #[.int .i64 0, .int .i64 20]) ∧ Below W.heap.size W w') ∨
      b0 ≠ -9223372036854775808 ∧ ∃ N Z : Nat, (∀ W, Below w.heap.size w W → Calls Tryd.prog 16 #[.int .i64 (n : Int), .int .i64 b0] W fun e w' => e = .returned (.tuple #[.int .i64 (N : Int), .int .i64 0]) ∧ Below W.heap.size W w') ∧
        (∀ W, Below w.heap.size w W → Calls Tryd.prog 16 #[.int .i64 (N : Int), .int .i64 (-b0)] W fun e w' => e = .returned (.tuple #[.int .i64 (Z : Int), .int .i64 0]) ∧ Below W.heap.size W w') ∧ Z ≤ n ∧ n - d + 1 ≤ Z := by
  have h1 := h.y1
  have h2 := h.y2
  have h3 := h.m1
  have h4 := h.m2
  by_cases hb : b0 = -9223372036854775808
  · exact Or.inl hb
  · refine Or.inr ?_
    by_cases h5 : 12 ≤ 12 * (y : Int) + m - 1 + b0 ∧ 12 * (y : Int) + m - 1 + b0 < 120000
    · obtain ⟨t, ht⟩ : ∃ t : Nat, (t : Int) = 12 * y + m - 1 + b0 := ⟨(12 * (y : Int) + m - 1 + b0).toNat, by omega⟩
      have hk := h.mon t (by omega) (by omega)
      have e1 : (12 * y + m - 1) / 12 = y := by omega
      have e2 : (12 * y + m - 1) % 12 + 1 = m := by omega
      have hg := fun W (hW : Below w.heap.size w W) => dam_go _ _ _ _ (-b0) W (hM.below hW) hk (12 * y + m - 1) (by omega) (by omega) (by omega)
      simp only [e1, e2] at hg
      refine Or.inr ⟨hb, _, _, fun W hW => dam_go y m d n b0 W (hM.below hW) h t ht (by omega) (by omega), hg, ?_, ?_⟩
      · have := h.num
        omega
      · have := h.num
        have := hk.d1
        have := h.d1
        have := h.d2
        omega
    · exact Or.inl ⟨hb, fun W hW => dam_out y m d n b0 W (hM.below hW) h _ rfl (by omega)⟩
theorem walk_ends (n0 b0 : Int) (w : World) (hM : Mon w) (hP : Pow w) (b1 : -9223372036854775808 ≤ n0) (b2 : n0 ≤ 9223372036854775807) (b3 : -9223372036854775808 ≤ b0) (b4 : b0 ≤ 9223372036854775807) :
    Calls Tryd.prog 6 #[.int .i64 n0, .int .i64 b0] w fun e w' => e = .returned (.bool true) ∧ Below w.heap.size w w' := by
  obtain ⟨y, m, d, h⟩ := dat_ex (wi n0) (wi_lo _) (wi_hi _)
  exact walk_ends_go n0 b0 y m d _ w hM hP b1 b2 b3 b4 rfl h _ rfl (ends12 y m d _ w hM h) (endsb y m d _ b0 w hM h)
end Go.Proofs.YtjipemnphpnmiabDoor
