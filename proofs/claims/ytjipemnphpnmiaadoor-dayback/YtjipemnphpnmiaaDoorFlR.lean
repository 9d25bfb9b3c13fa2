import Derived.Test.YtjipemnphpnmiaaDoorToA
namespace Go.Proofs.YtjipemnphpnmiaaDoor
open Go.ChangeShapes Go.WideShapes Go.ChangeAt Go.RowKit
set_option linter.unusedVariables false
set_option maxHeartbeats 1000000 in
theorem rfirst_ok (y m d n : Nat) (w : World) (h : Dat y m d n) :
    Calls Tryd.prog 19 #[.int .i64 n] w fun e w' => e = .returned (.tuple #[.int .i64 ((n : Int) - d + 1), .int .i64 0]) ∧ Below w.heap.size w w' := by
  have h6 := h.lo
  have h7 := h.hi
  have h8 := h.dn
  have H := hide h
  clear h
  go_enter Tryd.func19, Tryd.ntmps19
  go_wp2_with (first | (go_at_call 17; refine (rto_ok y m d n _ (unhide H)).mono ?_; rintro e w' ⟨rfl, hw⟩; subst hw))
  go_ret2
  exact ⟨rfl, by repeat (first | exact Below.refl _ _ | apply Below.drew | apply below_drewN | apply bal)⟩
set_option maxHeartbeats 1000000 in
theorem rlast_ok (y m d n : Nat) (w : World) (h : Dat y m d n) :
    Calls Tryd.prog 21 #[.int .i64 n] w fun e w' => e = .returned (.tuple #[.int .i64 ((n : Int) - d + dm y m), .int .i64 0]) ∧ Below w.heap.size w w' := by
  have h6 := h.lo
  have h7 := h.hi
  have h8 := h.dn
  have hx := dm_hi y m
  have H := hide h
  have DC := hide (fun W => rsize y m W h.m1 h.m2)
  obtain ⟨X, hX⟩ : ∃ X, dm y m = X := ⟨_, rfl⟩
  rw [hX] at DC hx
  rw [hX]
  clear h hX
  go_enter Tryd.func21, Tryd.ntmps21
  go_wp2_with (first | (go_at_call 17; refine (rto_ok y m d n _ (unhide H)).mono ?_; rintro e w' ⟨rfl, hw⟩; subst hw))
  go_quiet (first | (go_at_call 33; refine Calls.quiet_of_same (unhide DC _)))
  go_wp2
  go_ret2
  exact ⟨rfl, by repeat (first | exact Below.refl _ _ | apply Below.drew | apply below_drewN | apply bal)⟩
set_option maxHeartbeats 1000000 in
theorem rweek_ok (n : Nat) (w : World) (h6 : 1 ≤ n) (h7 : n ≤ 3652059) :
    Calls Tryd.prog 23 #[.int .i64 n] w fun e w' => e = .returned (.tuple #[.int .i64 (((n : Int) - 1) % 7 + 1), .int .i64 0]) ∧ w' = w := by
  go_enter Tryd.func23, Tryd.ntmps23
  go_wp2
  go_ret2
  exact ⟨rfl, rfl⟩
set_option maxHeartbeats 1000000 in
theorem rfirst_bad (n : Int) (w : World) (h : n < 1 ∨ 1 ≤ n ∧ 3652059 < n) : Calls Tryd.prog 19 #[.int .i64 n] w fun e w' => e = .returned (.tuple #[.int .i64 0, .int .i64 20]) ∧ Below w.heap.size w w' := by
  have H := hide h
  clear h
  go_enter Tryd.func19, Tryd.ntmps19
  go_wp2_with (first | (go_at_call 17; refine (rto_bad _ _ (unhide H)).mono ?_; rintro e w' ⟨rfl, hw⟩; subst hw))
  go_ret2
  exact ⟨rfl, by repeat (first | exact Below.refl _ _ | apply Below.drew | apply below_drewN | apply bal)⟩
set_option maxHeartbeats 1000000 in
theorem rlast_bad (n : Int) (w : World) (h : n < 1 ∨ 1 ≤ n ∧ 3652059 < n) : Calls Tryd.prog 21 #[.int .i64 n] w fun e w' => e = .returned (.tuple #[.int .i64 0, .int .i64 20]) ∧ Below w.heap.size w w' := by
  have H := hide h
  clear h
  go_enter Tryd.func21, Tryd.ntmps21
  go_wp2_with (first | (go_at_call 17; refine (rto_bad _ _ (unhide H)).mono ?_; rintro e w' ⟨rfl, hw⟩; subst hw))
  go_ret2
  exact ⟨rfl, by repeat (first | exact Below.refl _ _ | apply Below.drew | apply below_drewN | apply bal)⟩
set_option maxHeartbeats 1000000 in
theorem rweek_bad (n : Int) (w : World) (h : n < 1 ∨ 1 ≤ n ∧ 3652059 < n) : Calls Tryd.prog 23 #[.int .i64 n] w fun e w' => e = .returned (.tuple #[.int .i64 0, .int .i64 20]) ∧ w' = w := by
  rcases h with h | ⟨h, h'⟩
  all_goals
    go_enter Tryd.func23, Tryd.ntmps23
    go_wp2
    go_ret2
    exact ⟨rfl, rfl⟩
end Go.Proofs.YtjipemnphpnmiaaDoor
