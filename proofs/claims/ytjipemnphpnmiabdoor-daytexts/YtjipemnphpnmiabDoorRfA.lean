import Derived.Test.YtjipemnphpnmiabDoorMoA
namespace Go.Proofs.YtjipemnphpnmiabDoor
open Go.ChangeShapes Go.WideShapes Go.ChangeAt Go.RowKit
set_option linter.unusedVariables false
set_option maxHeartbeats 1000000 in
theorem rfrom_ok (y m d n : Nat) (w : World) (h : Dat y m d n) :
    Calls Tryd.prog 30 #[.agg #[.int .i64 y, .int .i64 m, .int .i64 d]] w fun e w' => e = .returned (.tuple #[.int .i64 n, .int .i64 0]) ∧ Below w.heap.size w w' := by
  have h1 := h.y1
  have h2 := h.y2
  have h3 := h.m1
  have h4 := h.m2
  have h5 := h.d1
  have h6 := h.d2
  have h7 := dm_hi y m
  have hn := hide h.num
  obtain ⟨X, hX⟩ : ∃ X, dm y m = X := ⟨_, rfl⟩
  have RD := hide (fun W => rdays_ok y m W h1 h2 h3 h4)
  rw [hX] at RD h6 h7
  have hx1 : decide ((d : Int) < 1) = false := decide_eq_false (by omega)
  have hx2 : decide (X < d) = false := decide_eq_false (by omega)
  clear h hX
  go_enter Tryd.func30, Tryd.ntmps30
  go_wp2_with (go_at_call 35; refine (unhide RD _).mono ?_; rintro e w' ⟨rfl, hw⟩; subst hw)
  go_loopw [6, 7] (fun vn vy wr => ∃ k : Nat, 1 ≤ k ∧ k ≤ y ∧ vy = .int .i64 k ∧ vn = .int .i64 ((ahead k + d : Nat) : Int) ∧ wr = w.alloc (.cells #[.int .i64 y, .int .i64 m, .int .i64 d] 48)) (fun _ i _ => y - (RowKit.intOf i).toNat)
  case atStart => exact ⟨1, by omega, by omega, rfl, by rw [ahead_one]; go_num, rfl⟩
  case round =>
    obtain ⟨k, hk1, hk2, rfl, rfl, rfl⟩ := hrel
    by_cases hlt : k < y
    · have DC := hide (fun W => rlong k W)
      have hs := hide (ahead_succ k hk1)
      have ha := ahead_hi k hk1 (by omega)
      have hyl := yl_cases k
      obtain ⟨T, hT⟩ : ∃ T, ahead k + d = T := ⟨_, rfl⟩
      obtain ⟨L, hL⟩ : ∃ L, yl k = L := ⟨_, rfl⟩
      have hL2 : L ≤ 366 := by omega
      have hT2 : T ≤ 3700000 := by omega
      rw [hT]
      rw [hL] at DC
      have HT := hide hT
      have HL := hide hL
      clear hT hL ha hyl
      go_wp2_with (go_at_call 36; refine (unhide DC _).mono ?_; rintro e w' ⟨rfl, hw⟩; subst hw)
      refine ⟨⟨k + 1, by omega, by omega, by go_num, ?_, trivial⟩, ?_⟩
      · rw [unhide hs, unhide HL, show ahead k + L + d = T + L by have := unhide HT; omega]
        go_num
      · simp [RowKit.intOf]
        omega
    · have hky : k = y := by omega
      subst hky
      clear hk2
      go_wp2
      go_loopw [6, 8] (fun vn vm wr => ∃ j : Nat, 1 ≤ j ∧ j ≤ m ∧ vm = .int .i64 j ∧ vn = .int .i64 ((ahead k + d + mb k j : Nat) : Int) ∧ wr = w.alloc (.cells #[.int .i64 k, .int .i64 m, .int .i64 d] 48)) (fun _ i _ => m - (RowKit.intOf i).toNat)
      case atStart => exact ⟨1, by omega, by omega, rfl, by rw [mb_one, Nat.add_zero], rfl⟩
      case round =>
        obtain ⟨j, hj1, hj2, rfl, rfl, rfl⟩ := hrel
        by_cases hlj : j < m
        · have DC := hide (fun W => rsize k j W hj1 (by omega))
          have hs := hide (mb_succ k j hj1)
          have hx2 := dm_hi k j
          have hb := mb_hi k j hj1 (by omega)
          have ha := ahead_hi k hk1 (by omega)
          obtain ⟨T, hT⟩ : ∃ T, ahead k + d + mb k j = T := ⟨_, rfl⟩
          obtain ⟨L, hL⟩ : ∃ L, dm k j = L := ⟨_, rfl⟩
          have hT2 : T ≤ 3700000 := by omega
          rw [hT]
          rw [hL] at DC hx2
          have HT := hide hT
          have HL := hide hL
          clear hT hL ha hb
          go_wp2_with (go_at_call 37; refine (unhide DC _).mono ?_; rintro e w' ⟨rfl, hw⟩; subst hw)
          refine ⟨⟨j + 1, by omega, by omega, by go_num, ?_, trivial⟩, ?_⟩
          · rw [unhide hs, unhide HL, show ahead k + d + (mb k j + L) = T + L by have := unhide HT; omega]
            go_num
          · simp [RowKit.intOf]
            omega
        · have hjm : j = m := by omega
          subst hjm
          go_wp2
          go_ret2
          exact ⟨retII (by rw [unhide hn]; congr 1; omega) rfl, by repeat (first | exact Below.refl _ _ | apply Below.drew | apply bal)⟩
set_option maxHeartbeats 1000000 in
theorem rfrom_ym (Y M D : Int) (w : World) (h : ¬ (1 ≤ Y ∧ Y ≤ 9999 ∧ 1 ≤ M ∧ M ≤ 12)) :
    Calls Tryd.prog 30 #[.agg #[.int .i64 Y, .int .i64 M, .int .i64 D]] w fun e w' => e = .returned (.tuple #[.int .i64 0, .int .i64 20]) ∧ Below w.heap.size w w' := by
  have RD := hide (fun W => rdays_bad Y M W h)
  clear h
  go_enter Tryd.func30, Tryd.ntmps30
  go_wp2_with (go_at_call 35; refine (unhide RD _).mono ?_; rintro e w' ⟨rfl, hw⟩; subst hw)
  go_ret2
  exact ⟨rfl, by repeat (first | exact Below.refl _ _ | apply Below.drew | apply bal)⟩
set_option maxHeartbeats 1000000 in
theorem rfrom_d (y m X : Nat) (D : Int) (w : World) (RD : Hid (∀ W, Calls Tryd.prog 35 #[.int .i64 y, .int .i64 m] W fun e w' => e = .returned (.tuple #[.int .i64 X, .int .i64 0]) ∧ w' = W)) (h : D < 1 ∨ 1 ≤ D ∧ (X : Int) < D) :
    Calls Tryd.prog 30 #[.agg #[.int .i64 y, .int .i64 m, .int .i64 D]] w fun e w' => e = .returned (.tuple #[.int .i64 0, .int .i64 20]) ∧ Below w.heap.size w w' := by
  rcases h with h | ⟨h, h'⟩
  all_goals
    go_enter Tryd.func30, Tryd.ntmps30
    go_wp2_with (go_at_call 35; refine (unhide RD _).mono ?_; rintro e w' ⟨rfl, hw⟩; subst hw)
    go_ret2
    exact ⟨rfl, by repeat (first | exact Below.refl _ _ | apply Below.drew | apply bal)⟩
theorem rfrom_bad (Y M D : Int) (w : World) (h : ¬ Good Y M D) :
    Calls Tryd.prog 30 #[.agg #[.int .i64 Y, .int .i64 M, .int .i64 D]] w fun e w' => e = .returned (.tuple #[.int .i64 0, .int .i64 20]) ∧ Below w.heap.size w w' := by
  by_cases h1 : 1 ≤ Y ∧ Y ≤ 9999 ∧ 1 ≤ M ∧ M ≤ 12
  · obtain ⟨y, rfl⟩ : ∃ y : Nat, Y = y := ⟨Y.toNat, by omega⟩
    obtain ⟨m, rfl⟩ : ∃ m : Nat, M = m := ⟨M.toNat, by omega⟩
    refine rfrom_d y m _ D w (fun W => rdays_ok y m W (by omega) (by omega) (by omega) (by omega)) ?_
    have : ¬ (1 ≤ D ∧ D ≤ dm y m) := fun h2 => h ⟨by omega, by omega, by omega, by omega, h2.1, h2.2⟩
    omega
  · exact rfrom_ym Y M D w h1
/-- of whole numbers that are a date: the date and its day -/
theorem Good.dat {Y M D : Int} (h : Good Y M D) : ∃ y m d n : Nat, Y = y ∧ M = m ∧ D = d ∧ Dat y m d n := by
  obtain ⟨h1, h2, h3, h4, h5, h6⟩ := h
  refine ⟨Y.toNat, M.toNat, D.toNat, _, by omega, by omega, by omega, ⟨by omega, by omega, by omega, by omega, by omega, by omega, rfl⟩⟩
theorem redrew {B : Nat} {W w1 : World} (h : Below B W w1) : Below B W.drew w1 := ⟨h.os, h.tape, h.output, h.size, h.block⟩
end Go.Proofs.YtjipemnphpnmiabDoor
