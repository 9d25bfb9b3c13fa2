import Derived.Test.YtjipemnphpnmiabDoorNuB
import Derived.Test.YtjipemnphpnmiabDoorDaB
namespace Go.Proofs.YtjipemnphpnmiabDoor
open Go.ChangeShapes Go.WideShapes Go.ChangeAt Go.RowKit
set_option linter.unusedVariables false
theorem dd_ok (X d : Nat) (h1 : 1 ≤ d) (h2 : d ≤ X) : dd X d = d := by
  unfold dd
  rw [if_neg (show ¬ (d : Int) < 1 by omega), if_neg (by omega)]
theorem near_ok (y m d n : Nat) (w : World) (hM : Mon w) (h : Dat y m d n) :
    Calls Tryd.prog 28 #[.agg #[.int .i64 y, .int .i64 m, .int .i64 d]] w fun e w' => e = .returned (.agg #[.int .i64 y, .int .i64 m, .int .i64 d]) ∧ Below w.heap.size w w' := by
  have := near y m d y m _ rfl w hM (Or.inr (Or.inr ⟨rfl, h.y1, h.y2⟩)) (Or.inr (Or.inr ⟨rfl, h.m1, h.m2⟩))
  rw [dd_ok _ _ h.d1 h.d2] at this
  exact this
theorem kept3 {w w1 : World} {Y M D : Int} (hb : Below (w.alloc (.cells #[.int .i64 Y, .int .i64 M, .int .i64 D] 25)).drew.heap.size (w.alloc (.cells #[.int .i64 Y, .int .i64 M, .int .i64 D] 25)).drew w1) :
    (w1.cell? ⟨w.heap.size, 0, none⟩ = some (.int .i64 Y) ∧ w1.cell? ⟨w.heap.size, 1, none⟩ = some (.int .i64 M) ∧ w1.cell? ⟨w.heap.size, 2, none⟩ = some (.int .i64 D)) ∧ Below w.heap.size w w1 := by
  have hs : (w.alloc (.cells #[.int .i64 Y, .int .i64 M, .int .i64 D] 25)).drew.heap.size = w.heap.size + 1 := World.size_alloc _ _
  refine ⟨⟨?_, ?_, ?_⟩, ?_⟩
  · rw [hb.cell (p := ⟨w.heap.size, 0, none⟩) (by show w.heap.size < _; omega)]
    simp
  · rw [hb.cell (p := ⟨w.heap.size, 1, none⟩) (by show w.heap.size < _; omega)]
    simp
  · rw [hb.cell (p := ⟨w.heap.size, 2, none⟩) (by show w.heap.size < _; omega)]
    simp
  · exact (bal (Below.refl _ _) _).drew.trans (hb.mono (by omega))
set_option maxHeartbeats 1000000 in
theorem dfrom_y (Y M D y m d : Int) (w : World) (h : ¬ Y = y) (HN : Hid (∀ W, Below w.heap.size w W → Calls Tryd.prog 28 #[.agg #[.int .i64 Y, .int .i64 M, .int .i64 D]] W fun e w' => e = .returned (.agg #[.int .i64 y, .int .i64 m, .int .i64 d]) ∧ Below W.heap.size W w')) :
    Calls Tryd.prog 23 #[.agg #[.int .i64 Y, .int .i64 M, .int .i64 D]] w fun e w' => e = .returned (.tuple #[.int .i64 0, .int .i64 20]) ∧ Below w.heap.size w w' := by
  go_enter Tryd.func23, Tryd.ntmps23
  go_wp2
  go_region_held3 (fun w' => w'.cell? ⟨w.heap.size, 0, none⟩ = some (.int .i64 Y) ∧ w'.cell? ⟨w.heap.size, 1, none⟩ = some (.int .i64 M) ∧ w'.cell? ⟨w.heap.size, 2, none⟩ = some (.int .i64 D)) (first | with_reducible assumption | go_keep) (first | (go_at_call 28; refine (unhide HN _ (bal (Below.refl _ _) _).drew).mono ?_; rintro e w1 ⟨rfl, hb1⟩; have HB := hide (kept3 hb1).2; have K1 := (kept3 hb1).1; clear hb1))
  go_wp2
  go_ret2
  exact ⟨rfl, unhide HB⟩
set_option maxHeartbeats 1000000 in
theorem dfrom_m (Y M D m d : Int) (w : World) (h : ¬ M = m) (HN : Hid (∀ W, Below w.heap.size w W → Calls Tryd.prog 28 #[.agg #[.int .i64 Y, .int .i64 M, .int .i64 D]] W fun e w' => e = .returned (.agg #[.int .i64 Y, .int .i64 m, .int .i64 d]) ∧ Below W.heap.size W w')) :
    Calls Tryd.prog 23 #[.agg #[.int .i64 Y, .int .i64 M, .int .i64 D]] w fun e w' => e = .returned (.tuple #[.int .i64 0, .int .i64 20]) ∧ Below w.heap.size w w' := by
  go_enter Tryd.func23, Tryd.ntmps23
  go_wp2
  go_region_held3 (fun w' => w'.cell? ⟨w.heap.size, 0, none⟩ = some (.int .i64 Y) ∧ w'.cell? ⟨w.heap.size, 1, none⟩ = some (.int .i64 M) ∧ w'.cell? ⟨w.heap.size, 2, none⟩ = some (.int .i64 D)) (first | with_reducible assumption | go_keep) (first | (go_at_call 28; refine (unhide HN _ (bal (Below.refl _ _) _).drew).mono ?_; rintro e w1 ⟨rfl, hb1⟩; have HB := hide (kept3 hb1).2; have K1 := (kept3 hb1).1; clear hb1))
  go_wp2
  go_ret2
  exact ⟨rfl, unhide HB⟩
set_option maxHeartbeats 1000000 in
theorem dfrom_d (Y M D d : Int) (w : World) (h : ¬ D = d) (HN : Hid (∀ W, Below w.heap.size w W → Calls Tryd.prog 28 #[.agg #[.int .i64 Y, .int .i64 M, .int .i64 D]] W fun e w' => e = .returned (.agg #[.int .i64 Y, .int .i64 M, .int .i64 d]) ∧ Below W.heap.size W w')) :
    Calls Tryd.prog 23 #[.agg #[.int .i64 Y, .int .i64 M, .int .i64 D]] w fun e w' => e = .returned (.tuple #[.int .i64 0, .int .i64 20]) ∧ Below w.heap.size w w' := by
  go_enter Tryd.func23, Tryd.ntmps23
  go_wp2
  go_region_held3 (fun w' => w'.cell? ⟨w.heap.size, 0, none⟩ = some (.int .i64 Y) ∧ w'.cell? ⟨w.heap.size, 1, none⟩ = some (.int .i64 M) ∧ w'.cell? ⟨w.heap.size, 2, none⟩ = some (.int .i64 D)) (first | with_reducible assumption | go_keep) (first | (go_at_call 28; refine (unhide HN _ (bal (Below.refl _ _) _).drew).mono ?_; rintro e w1 ⟨rfl, hb1⟩; have HB := hide (kept3 hb1).2; have K1 := (kept3 hb1).1; clear hb1))
  go_wp2
  go_ret2
  exact ⟨rfl, unhide HB⟩
set_option maxHeartbeats 1000000 in
theorem dfrom_same (Y M D n : Int) (w : World) (HN : Hid (∀ W, Below w.heap.size w W → Calls Tryd.prog 28 #[.agg #[.int .i64 Y, .int .i64 M, .int .i64 D]] W fun e w' => e = .returned (.agg #[.int .i64 Y, .int .i64 M, .int .i64 D]) ∧ Below W.heap.size W w'))
    (HC : Hid (∀ W, Below w.heap.size w W → Calls Tryd.prog 27 #[.agg #[.int .i64 Y, .int .i64 M, .int .i64 D]] W fun e w' => e = .returned (.int .i64 n) ∧ Below W.heap.size W w')) :
    Calls Tryd.prog 23 #[.agg #[.int .i64 Y, .int .i64 M, .int .i64 D]] w fun e w' => e = .returned (.tuple #[.int .i64 n, .int .i64 0]) ∧ Below w.heap.size w w' := by
  go_enter Tryd.func23, Tryd.ntmps23
  go_wp2
  go_region_held3 (fun w' => w'.cell? ⟨w.heap.size, 0, none⟩ = some (.int .i64 Y) ∧ w'.cell? ⟨w.heap.size, 1, none⟩ = some (.int .i64 M) ∧ w'.cell? ⟨w.heap.size, 2, none⟩ = some (.int .i64 D)) (first | with_reducible assumption | go_keep) (first | (go_at_call 28; refine (unhide HN _ (bal (Below.refl _ _) _).drew).mono ?_; rintro e w1 ⟨rfl, hb1⟩; have HB := hide (kept3 hb1).2; have K1 := (kept3 hb1).1; clear hb1))
  obtain ⟨k0, k1, k2⟩ := K1
  go_wp2_with (go_at_call 27; refine (unhide HC _ (unhide HB)).mono ?_; rintro e w2 ⟨rfl, hb2⟩)
  go_ret2
  exact ⟨rfl, (unhide HB).trans (hb2.mono (unhide HB).size)⟩
/-- a date, of any whole numbers -/
def Good (Y M D : Int) : Prop := 1 ≤ Y ∧ Y ≤ 9999 ∧ 1 ≤ M ∧ M ≤ 12 ∧ 1 ≤ D ∧ D ≤ dm Y.toNat M.toNat
theorem dfrom_ok (y m d n : Nat) (w : World) (hM : Mon w) (h : Dat y m d n) :
    Calls Tryd.prog 23 #[.agg #[.int .i64 y, .int .i64 m, .int .i64 d]] w fun e w' => e = .returned (.tuple #[.int .i64 n, .int .i64 0]) ∧ Below w.heap.size w w' :=
  dfrom_same y m d n w (fun W hW => near_ok y m d n W (hM.below hW) h) (fun W hW => numb y m d n W (hM.below hW) h)
theorem cl (lo hi : Nat) (h : lo ≤ hi) (Y : Int) : ∃ y : Nat, Y < lo ∧ y = lo ∨ (hi : Int) < Y ∧ y = hi ∨ Y = (y : Int) ∧ lo ≤ y ∧ y ≤ hi := by
  by_cases h1 : Y < lo
  · exact ⟨lo, Or.inl ⟨h1, rfl⟩⟩
  · by_cases h2 : (hi : Int) < Y
    · exact ⟨hi, Or.inr (Or.inl ⟨h2, rfl⟩)⟩
    · exact ⟨Y.toNat, Or.inr (Or.inr ⟨by omega, by omega, by omega⟩)⟩
theorem dd_bad (X : Nat) (D : Int) (h1 : 1 ≤ X) (h : ¬ (1 ≤ D ∧ D ≤ X)) : ¬ D = dd X D := by
  unfold dd
  by_cases h2 : D < 1
  · rw [if_pos h2, if_neg (by omega)]
    omega
  · rw [if_neg h2, if_pos (by omega)]
    omega
theorem dfrom_bad (Y M D : Int) (w : World) (hM : Mon w) (h : ¬ Good Y M D) :
    Calls Tryd.prog 23 #[.agg #[.int .i64 Y, .int .i64 M, .int .i64 D]] w fun e w' => e = .returned (.tuple #[.int .i64 0, .int .i64 20]) ∧ Below w.heap.size w w' := by
  obtain ⟨y, hy⟩ := cl 1 9999 (by decide) Y
  obtain ⟨m, hm⟩ := cl 1 12 (by decide) M
  have HN := hide (fun W (hW : Below w.heap.size w W) => near Y M D y m _ rfl W (hM.below hW) hy hm)
  by_cases h1 : Y = y
  · subst h1
    by_cases h2 : M = m
    · subst h2
      refine dfrom_d y m D _ w (dd_bad _ D (Nat.le_trans (by decide) (dm_lo y m)) ?_) HN
      intro h3
      apply h
      exact ⟨by omega, by omega, by omega, by omega, h3.1, h3.2⟩
    · exact dfrom_m y M D m _ w h2 HN
  · exact dfrom_y Y M D y m _ w h1 HN
set_option maxHeartbeats 1000000 in
theorem ddays_ok (y m : Nat) (w : World) (hM : Mon w) (h1 : 1 ≤ y) (h2 : y ≤ 9999) (h3 : 1 ≤ m) (h4 : m ≤ 12) : Calls Tryd.prog 12 #[.int .i64 y, .int .i64 m] w fun e w' => e = .returned (.tuple #[.int .i64 (dm y m), .int .i64 0]) ∧ w' = w := by
  have DC := hide (dof y m w hM h3 h4)
  clear hM
  go_enter Tryd.func12, Tryd.ntmps12
  go_wp2_with (go_at_call 26; refine (unhide DC).mono ?_; rintro e w' ⟨rfl, hw⟩; subst hw)
  go_ret2
  exact ⟨rfl, rfl⟩
set_option maxHeartbeats 1000000 in
theorem rdays_ok (y m : Nat) (w : World) (h1 : 1 ≤ y) (h2 : y ≤ 9999) (h3 : 1 ≤ m) (h4 : m ≤ 12) : Calls Tryd.prog 35 #[.int .i64 y, .int .i64 m] w fun e w' => e = .returned (.tuple #[.int .i64 (dm y m), .int .i64 0]) ∧ w' = w := by
  have DC := hide (rsize y m w h3 h4)
  go_enter Tryd.func35, Tryd.ntmps35
  go_wp2_with (go_at_call 37; refine (unhide DC).mono ?_; rintro e w' ⟨rfl, hw⟩; subst hw)
  go_ret2
  exact ⟨rfl, rfl⟩
set_option maxHeartbeats 1000000 in
theorem ddays_bad (Y M : Int) (w : World) (h : ¬ (1 ≤ Y ∧ Y ≤ 9999 ∧ 1 ≤ M ∧ M ≤ 12)) : Calls Tryd.prog 12 #[.int .i64 Y, .int .i64 M] w fun e w' => e = .returned (.tuple #[.int .i64 0, .int .i64 20]) ∧ w' = w := by
  have hc : Y < 1 ∨ 1 ≤ Y ∧ 9999 < Y ∨ 1 ≤ Y ∧ Y ≤ 9999 ∧ M < 1 ∨ 1 ≤ Y ∧ Y ≤ 9999 ∧ 1 ≤ M ∧ 12 < M := by omega
  clear h
  rcases hc with h1 | ⟨h1, h2⟩ | ⟨h1, h2, h3⟩ | ⟨h1, h2, h3, h4⟩
  all_goals
    go_enter Tryd.func12, Tryd.ntmps12
    go_wp2
    go_ret2
    exact ⟨rfl, rfl⟩
set_option maxHeartbeats 1000000 in
theorem rdays_bad (Y M : Int) (w : World) (h : ¬ (1 ≤ Y ∧ Y ≤ 9999 ∧ 1 ≤ M ∧ M ≤ 12)) : Calls Tryd.prog 35 #[.int .i64 Y, .int .i64 M] w fun e w' => e = .returned (.tuple #[.int .i64 0, .int .i64 20]) ∧ w' = w := by
  have hc : M < 1 ∨ 1 ≤ M ∧ 12 < M ∨ 1 ≤ M ∧ M ≤ 12 ∧ Y < 1 ∨ 1 ≤ M ∧ M ≤ 12 ∧ 1 ≤ Y ∧ 9999 < Y := by omega
  clear h
  rcases hc with h1 | ⟨h1, h2⟩ | ⟨h1, h2, h3⟩ | ⟨h1, h2, h3, h4⟩
  all_goals
    go_enter Tryd.func35, Tryd.ntmps35
    go_wp2
    go_ret2
    exact ⟨rfl, rfl⟩
end Go.Proofs.YtjipemnphpnmiabDoor
