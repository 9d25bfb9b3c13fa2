import Derived.Test.YtjipemnphpnmiabDoorFiA
namespace Go.Proofs.YtjipemnphpnmiabDoor
open Go.ChangeShapes Go.WideShapes Go.ChangeAt Go.RowKit
set_option linter.unusedVariables false
set_option maxHeartbeats 2000000 in
theorem walk_steps_go (n0 : Int) (y m d n y' m' d' : Nat) (w : World) (hM : Mon w) (hP : Pow w) (b1 : -9223372036854775808 ≤ n0) (b2 : n0 ≤ 9223372036854775807) (e1 : wi n0 = n) (h : Dat y m d n) (h' : Dat y' m' d' (n + 1)) (hn : n < 3652059) (X : Nat) (hX : dm y m = X)
    (hc : Hid (d < X ∧ y' = y ∧ m' = m ∧ d' = d + 1 ∨ d = X ∧ m < 12 ∧ y' = y ∧ m' = m + 1 ∧ d' = 1 ∨ d = X ∧ m = 12 ∧ y' = y + 1 ∧ m' = 1 ∧ d' = 1)) :
    Calls Tryd.prog 3 #[.int .i64 n0] w fun e w' => e = .returned (.bool true) ∧ Below w.heap.size w w' := by
  have A1 := hide (first_ok w hM hP)
  have A2 := hide (fun W => within_any n0 W b1 b2)
  have A3 := hide (fun W (hW : Below w.heap.size w W) => dto_ok y m d n W (hM.below hW) h)
  have A4 := hide (fun W => dweek_ok n W h.lo h.hi)
  have A5 := hide (fun W (hW : Below w.heap.size w W) => ddays_ok y m W (hM.below hW) h.y1 h.y2 h.m1 h.m2)
  have A6 := hide (fun W (hW : Below w.heap.size w W) => dto_ok y' m' d' (n + 1) W (hM.below hW) h')
  have A7 := hide (fun W => dweek_ok (n + 1) W h'.lo h'.hi)
  have h6 := h.lo
  have h2 := h.y2
  have h4 := h.m2
  have h5 : d ≤ 31 := Nat.le_trans h.d2 (dm_hi _ _)
  rw [e1] at A2
  rw [hX] at A5
  obtain ⟨P, hP4⟩ : ∃ P : Nat, ((n : Int) - 1) % 7 + 1 = (P : Int) := ⟨(((n : Int) - 1) % 7 + 1).toNat, by omega⟩
  have hP1 : 1 ≤ P := by omega
  have hP7 : P ≤ 7 := by omega
  rw [hP4] at A4
  rw [show ((n + 1 : Nat) : Int) = (n : Int) + 1 by omega] at A6 A7
  rw [show ((n : Int) + 1 - 1) % 7 + 1 = (P : Int) % 7 + 1 by omega] at A7
  clear hM hP b1 b2 e1 h h' hX hP4
  go_enter Tryd.func3, Tryd.ntmps3
  go_wp2_with fail
  refine (unhide A1).mono ?_
  rintro e w1 ⟨rfl, c1⟩
  have B1 := hide c1
  clear c1
  go_wp2_with fail
  refine (unhide A2 _).mono ?_
  rintro e w0 ⟨rfl, hw⟩
  rw [hw]
  clear hw w0
  go_wp2_with fail
  refine (unhide A3 _ (unhide B1)).mono ?_
  rintro e w0 ⟨rfl, hw⟩
  rw [hw]
  clear hw w0
  go_wp2_with fail
  refine (unhide A4 _).mono ?_
  rintro e w0 ⟨rfl, hw⟩
  rw [hw]
  clear hw w0
  go_wp2_with fail
  refine (unhide A5 _ (bal (bal (bal (bal (bal (unhide B1) _) _) _) _) _)).mono ?_
  rintro e w0 ⟨rfl, hw⟩
  rw [hw]
  clear hw w0
  rcases unhide hc with ⟨q1, rfl, rfl, rfl⟩ | ⟨rfl, q1, rfl, rfl, rfl⟩ | ⟨rfl, rfl, rfl, rfl, rfl⟩
  all_goals
    clear hc
    go_wp2_with fail
    refine (unhide A6 _ (bal (bal (bal (bal (bal (unhide B1) _) _) _) _) _)).mono ?_
    rintro e w0 ⟨rfl, hw⟩
    rw [hw]
    clear hw w0
    go_wp2_with fail
    refine (unhide A7 _).mono ?_
    rintro e w0 ⟨rfl, hw⟩
    rw [hw]
    clear hw w0
    go_wp2
    go_ret
    exact ⟨rfl, bal (bal (bal (bal (bal (bal (bal (bal (bal (unhide B1) _) _) _) _) _) _) _) _) _⟩
theorem dat_last : Dat 9999 12 31 3652059 := ⟨by decide, by decide, by decide, by decide, by decide, by decide, by decide⟩
set_option maxHeartbeats 2000000 in
theorem walk_steps_end (n0 : Int) (w : World) (hM : Mon w) (hP : Pow w) (b1 : -9223372036854775808 ≤ n0) (b2 : n0 ≤ 9223372036854775807) (e1 : wi n0 = 3652059) :
    Calls Tryd.prog 3 #[.int .i64 n0] w fun e w' => e = .returned (.bool true) ∧ Below w.heap.size w w' := by
  have A1 := hide (first_ok w hM hP)
  have A2 := hide (fun W => within_any n0 W b1 b2)
  have A3 := hide (fun W (hW : Below w.heap.size w W) => dto_ok 9999 12 31 3652059 W (hM.below hW) dat_last)
  have A4 := hide (fun W => dweek_ok 3652059 W (by decide) (by decide))
  have A5 := hide (fun W (hW : Below w.heap.size w W) => ddays_ok 9999 12 W (hM.below hW) (by decide) (by decide) (by decide) (by decide))
  have A6 := hide (fun W => dto_bad 3652060 W (by decide))
  have A7 := hide (fun W => dweek_bad 3652060 W (by decide))
  rw [e1] at A2
  rw [show dm 9999 12 = 31 by decide] at A5
  rw [show (((3652059 : Nat) : Int) - 1) % 7 + 1 = 5 by decide] at A4
  clear hM hP b1 b2 e1
  go_enter Tryd.func3, Tryd.ntmps3
  go_wp2_with fail
  refine (unhide A1).mono ?_
  rintro e w1 ⟨rfl, c1⟩
  have B1 := hide c1
  clear c1
  go_wp2_with fail
  refine (unhide A2 _).mono ?_
  rintro e w0 ⟨rfl, hw⟩
  rw [hw]
  clear hw w0
  go_wp2_with fail
  refine (unhide A3 _ (unhide B1)).mono ?_
  rintro e w0 ⟨rfl, hw⟩
  rw [hw]
  clear hw w0
  go_wp2_with fail
  refine (unhide A4 _).mono ?_
  rintro e w0 ⟨rfl, hw⟩
  rw [hw]
  clear hw w0
  go_wp2_with fail
  refine (unhide A5 _ (bal (bal (bal (bal (bal (unhide B1) _) _) _) _) _)).mono ?_
  rintro e w0 ⟨rfl, hw⟩
  rw [hw]
  clear hw w0
  go_wp2_with fail
  refine (unhide A6 _).mono ?_
  rintro e w0 ⟨rfl, hw⟩
  rw [hw]
  clear hw w0
  go_wp2_with fail
  refine (unhide A7 _).mono ?_
  rintro e w0 ⟨rfl, hw⟩
  rw [hw]
  clear hw w0
  go_wp2
  go_ret
  exact ⟨rfl, bal (bal (bal (bal (bal (bal (bal (unhide B1) _) _) _) _) _) _) _⟩
theorem walk_steps (n0 : Int) (w : World) (hM : Mon w) (hP : Pow w) (b1 : -9223372036854775808 ≤ n0) (b2 : n0 ≤ 9223372036854775807) :
    Calls Tryd.prog 3 #[.int .i64 n0] w fun e w' => e = .returned (.bool true) ∧ Below w.heap.size w w' := by
  by_cases hn : wi n0 = 3652059
  · exact walk_steps_end n0 w hM hP b1 b2 hn
  · have hhi := wi_hi n0
    obtain ⟨y, m, d, h⟩ := dat_ex (wi n0) (wi_lo _) (wi_hi _)
    rcases h.next (by omega) with ⟨k, q⟩ | ⟨k, q1, q2⟩ | ⟨k, q1, q2⟩
    · exact walk_steps_go n0 y m d _ _ _ _ w hM hP b1 b2 rfl h k (by omega) _ rfl (Or.inl ⟨q, rfl, rfl, rfl⟩)
    · exact walk_steps_go n0 y m d _ _ _ _ w hM hP b1 b2 rfl h k (by omega) _ rfl (Or.inr (Or.inl ⟨q1, q2, rfl, rfl, rfl⟩))
    · exact walk_steps_go n0 y m d _ _ _ _ w hM hP b1 b2 rfl h k (by omega) _ rfl (Or.inr (Or.inr ⟨q1, q2, rfl, rfl, rfl⟩))
end Go.Proofs.YtjipemnphpnmiabDoor
