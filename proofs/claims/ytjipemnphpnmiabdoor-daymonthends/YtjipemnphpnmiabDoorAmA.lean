import Derived.Test.YtjipemnphpnmiabDoorNmA
namespace Go.Proofs.YtjipemnphpnmiabDoor
open Go.ChangeShapes Go.WideShapes Go.ChangeAt Go.RowKit
set_option linter.unusedVariables false
set_option maxHeartbeats 1000000 in
theorem dam_no (n b : Int) (w : World) (h : n < 1 ∨ 3652059 < n) :
    Calls Tryd.prog 16 #[.int .i64 n, .int .i64 b] w fun e w' => e = .returned (.tuple #[.int .i64 0, .int .i64 20]) ∧ Below w.heap.size w w' := by
  have H := hide h
  clear h
  go_enter Tryd.func16, Tryd.ntmps16
  go_wp2_with (first | (go_at_call 24; refine (isday_no _ _ (unhide H)).mono ?_; rintro e w' ⟨rfl, hw⟩; subst hw))
  go_ret2
  exact ⟨rfl, by repeat (first | exact Below.refl _ _ | apply Below.drew | apply below_drewN | apply bal)⟩
set_option maxHeartbeats 1000000 in
theorem dam_out (y m d n : Nat) (b : Int) (w : World) (hM : Mon w) (h : Dat y m d n) (T : Nat) (hT : T = 12 * y + m - 1) (hb : b < 12 - (T : Int) ∨ ¬ b < 12 - (T : Int) ∧ 119999 - (T : Int) < b) :
    Calls Tryd.prog 16 #[.int .i64 n, .int .i64 b] w fun e w' => e = .returned (.tuple #[.int .i64 0, .int .i64 20]) ∧ Below w.heap.size w w' := by
  have h6 := h.lo
  have h7 := h.hi
  have h1 := h.y1
  have h2 := h.y2
  have h3 := h.m1
  have h4 := h.m2
  have hT2 : (y : Int) * 12 + (m : Int) - 1 = (T : Int) := by omega
  have hT3 : T ≤ 119999 := by omega
  have hT4 : 12 ≤ T := by omega
  have HM := hide hM
  have H := hide h
  clear h hM hT
  rcases hb with hb | ⟨hb, hb'⟩
  all_goals
    go_enter Tryd.func16, Tryd.ntmps16
    go_wp2_with (first | (go_at_call 24; refine (isday_yes _ _ (by omega) (by omega)).mono ?_; rintro e w' ⟨rfl, hw⟩; subst hw) | (go_at_call 25; refine (date_any y m d n _ (unhide HM) (unhide H)).mono ?_; rintro e w' ⟨rfl, hw⟩; subst hw))
    go_ret2
    exact ⟨rfl, by repeat (first | exact Below.refl _ _ | apply Below.drew | apply below_drewN | apply bal)⟩
set_option maxHeartbeats 1000000 in
theorem dam_ok (y m d n : Nat) (b : Int) (w : World) (hM : Mon w) (h : Dat y m d n) (T U a c : Nat) (e N : Nat) (hT : T = 12 * y + m - 1) (hU : (U : Int) = T + b) (hU1 : 12 ≤ U) (hU2 : U < 120000) (ha : U / 12 = a) (hc : U % 12 + 1 = c)
    (HN : Hid (∀ W, Below w.heap.size w W → Calls Tryd.prog 28 #[.agg #[.int .i64 a, .int .i64 c, .int .i64 d]] W fun r w' => r = .returned (.agg #[.int .i64 a, .int .i64 c, .int .i64 e]) ∧ Below w.heap.size w w'))
    (HC : Hid (∀ W, Below w.heap.size w W → Calls Tryd.prog 27 #[.agg #[.int .i64 a, .int .i64 c, .int .i64 e]] W fun r w' => r = .returned (.int .i64 N) ∧ Below w.heap.size w w')) :
    Calls Tryd.prog 16 #[.int .i64 n, .int .i64 b] w fun r w' => r = .returned (.tuple #[.int .i64 N, .int .i64 0]) ∧ Below w.heap.size w w' := by
  have h6 := h.lo
  have h7 := h.hi
  have h1 := h.y1
  have h2 := h.y2
  have h3 := h.m1
  have h4 := h.m2
  have hT2 : (y : Int) * 12 + (m : Int) - 1 = (T : Int) := by omega
  have hT3 : T ≤ 119999 := by omega
  have hT4 : 12 ≤ T := by omega
  have hb1 : ¬ b < 12 - (T : Int) := by omega
  have hb2 : ¬ 119999 - (T : Int) < b := by omega
  have hTb : (T : Int) + b = (U : Int) := by omega
  have hq1 : (U : Int) / 12 = (a : Int) := by omega
  have hq2 : (U : Int) % 12 + 1 = (c : Int) := by omega
  have HM := hide hM
  have H := hide h
  clear h hM hT hU ha hc
  go_enter Tryd.func16, Tryd.ntmps16
  go_wp2_with (first | (go_at_call 24; refine (isday_yes _ _ (by omega) (by omega)).mono ?_; rintro e w' ⟨rfl, hw⟩; subst hw) | (go_at_call 25; refine (date_any y m d n _ (unhide HM) (unhide H)).mono ?_; rintro e w' ⟨rfl, hw⟩; subst hw))
  refine (unhide HN _ (by repeat (first | exact Below.refl _ _ | apply Below.drew | apply below_drewN | apply bal))).mono ?_
  rintro e1 w1 ⟨rfl, c1⟩
  go_wp2_with fail
  refine (unhide HC _ c1).mono ?_
  rintro e2 w2 ⟨rfl, c2⟩
  have C2 := hide c2
  clear c1 c2
  go_wp2
  go_ret2
  exact ⟨rfl, unhide C2⟩
end Go.Proofs.YtjipemnphpnmiabDoor
