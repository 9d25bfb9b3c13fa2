import Derived.Test.YtjipemnphpnmiabDoorToA
namespace Go.Proofs.YtjipemnphpnmiabDoor
open Go.ChangeShapes Go.WideShapes Go.ChangeAt Go.RowKit
set_option linter.unusedVariables false
theorem fld2 (a b c : Int) (W : World) : (Instr.field 25 (.agg #[.int .i64 a, .int .i64 b, .int .i64 c]) 2).run Tryd.prog W = .ok (.int .i64 c) W := by kernel_rfl
set_option maxHeartbeats 1000000 in
theorem dfirst_ok (y m d n : Nat) (w : World) (hM : Mon w) (h : Dat y m d n) :
    Calls Tryd.prog 14 #[.int .i64 n] w fun e w' => e = .returned (.tuple #[.int .i64 ((n : Int) - d + 1), .int .i64 0]) ∧ Below w.heap.size w w' := by
  have h6 := h.lo
  have h7 := h.hi
  have h8 := h.dn
  have HM := hide hM
  have H := hide h
  clear h hM
  have hf := fun W => fld2 y m d W
  go_enter Tryd.func14, Tryd.ntmps14
  go_wp2_with (first | (go_at_call 24; refine (isday_yes _ _ (by omega) (by omega)).mono ?_; rintro e w' ⟨rfl, hw⟩; subst hw) | (go_at_call 25; refine (date_any y m d n _ (unhide HM) (unhide H)).mono ?_; rintro e w' ⟨rfl, hw⟩; subst hw))
  go_ret2
  exact ⟨rfl, by repeat (first | exact Below.refl _ _ | apply Below.drew | apply below_drewN | apply bal)⟩
theorem mdn {w : World} (h : Mon w) {k : Nat} : Mon (w.drewN k) := h
set_option maxHeartbeats 1000000 in
theorem dlast_ok (y m d n : Nat) (w : World) (hM : Mon w) (h : Dat y m d n) :
    Calls Tryd.prog 15 #[.int .i64 n] w fun e w' => e = .returned (.tuple #[.int .i64 ((n : Int) - d + dm y m), .int .i64 0]) ∧ Below w.heap.size w w' := by
  have h6 := h.lo
  have h7 := h.hi
  have h8 := h.dn
  have hx := dm_hi y m
  have HM := hide hM
  have H := hide h
  have DC := hide (fun W (hW : Mon W) => dof y m W hW h.m1 h.m2)
  obtain ⟨X, hX⟩ : ∃ X, dm y m = X := ⟨_, rfl⟩
  rw [hX] at DC hx
  rw [hX]
  clear h hM hX
  go_enter Tryd.func15, Tryd.ntmps15
  go_wp2_with (first | (go_at_call 24; refine (isday_yes _ _ (by omega) (by omega)).mono ?_; rintro e w' ⟨rfl, hw⟩; subst hw) | (go_at_call 25; refine (date_any y m d n _ (unhide HM) (unhide H)).mono ?_; rintro e w' ⟨rfl, hw⟩; subst hw))
  go_quiet (first | (go_at_call 26; refine Calls.quiet_of_same (unhide DC _ (mdn (mon3 (unhide HM) _ _ _)))))
  go_wp2
  go_ret2
  exact ⟨rfl, by repeat (first | exact Below.refl _ _ | apply Below.drew | apply below_drewN | apply bal)⟩
set_option maxHeartbeats 1000000 in
theorem dweek_ok (n : Nat) (w : World) (h6 : 1 ≤ n) (h7 : n ≤ 3652059) :
    Calls Tryd.prog 11 #[.int .i64 n] w fun e w' => e = .returned (.tuple #[.int .i64 (((n : Int) - 1) % 7 + 1), .int .i64 0]) ∧ w' = w := by
  go_enter Tryd.func11, Tryd.ntmps11
  go_wp2_with (first | (go_at_call 24; refine (isday_yes _ _ (by omega) (by omega)).mono ?_; rintro e w' ⟨rfl, hw⟩; subst hw))
  go_ret2
  exact ⟨rfl, rfl⟩
set_option maxHeartbeats 1000000 in
theorem dfirst_bad (n : Int) (w : World) (h : n < 1 ∨ 3652059 < n) : Calls Tryd.prog 14 #[.int .i64 n] w fun e w' => e = .returned (.tuple #[.int .i64 0, .int .i64 20]) ∧ Below w.heap.size w w' := by
  have H := hide h
  clear h
  go_enter Tryd.func14, Tryd.ntmps14
  go_wp2_with (first | (go_at_call 24; refine (isday_no _ _ (unhide H)).mono ?_; rintro e w' ⟨rfl, hw⟩; subst hw))
  go_ret2
  exact ⟨rfl, by repeat (first | exact Below.refl _ _ | apply Below.drew | apply below_drewN | apply bal)⟩
set_option maxHeartbeats 1000000 in
theorem dlast_bad (n : Int) (w : World) (h : n < 1 ∨ 3652059 < n) : Calls Tryd.prog 15 #[.int .i64 n] w fun e w' => e = .returned (.tuple #[.int .i64 0, .int .i64 20]) ∧ Below w.heap.size w w' := by
  have H := hide h
  clear h
  go_enter Tryd.func15, Tryd.ntmps15
  go_wp2_with (first | (go_at_call 24; refine (isday_no _ _ (unhide H)).mono ?_; rintro e w' ⟨rfl, hw⟩; subst hw))
  go_ret2
  exact ⟨rfl, by repeat (first | exact Below.refl _ _ | apply Below.drew | apply below_drewN | apply bal)⟩
set_option maxHeartbeats 1000000 in
theorem dweek_bad (n : Int) (w : World) (h : n < 1 ∨ 3652059 < n) : Calls Tryd.prog 11 #[.int .i64 n] w fun e w' => e = .returned (.tuple #[.int .i64 0, .int .i64 20]) ∧ w' = w := by
  have H := hide h
  clear h
  go_enter Tryd.func11, Tryd.ntmps11
  go_wp2_with (first | (go_at_call 24; refine (isday_no _ _ (unhide H)).mono ?_; rintro e w' ⟨rfl, hw⟩; subst hw))
  go_ret2
  exact ⟨rfl, rfl⟩
end Go.Proofs.YtjipemnphpnmiabDoor
