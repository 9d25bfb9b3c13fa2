import Derived.Test.YtjipemnphpnmiabDoorFiA
import Derived.Test.YtjipemnphpnmiabDoorAdB
namespace Go.Proofs.YtjipemnphpnmiabDoor
open Go.ChangeShapes Go.WideShapes Go.ChangeAt Go.RowKit
set_option linter.unusedVariables false
set_option maxHeartbeats 2000000 in
theorem walk_cycle_out (n0 : Int) (n : Nat) (w : World) (hM : Mon w) (hP : Pow w) (b1 : -9223372036854775808 ≤ n0) (b2 : n0 ≤ 9223372036854775807) (e1 : wi n0 = n) (h1 : 1 ≤ n) (h2 : n ≤ 3652059) (hn : 3652059 < n + 146097) :
    Calls Tryd.prog 5 #[.int .i64 n0] w fun e w' => e = .returned (.bool true) ∧ Below w.heap.size w w' := by
  have A1 := hide (first_ok w hM hP)
  have A2 := hide (fun W => within_any n0 W b1 b2)
  have A3 := hide (fun W => dadd_out n 146097 W (by omega) (by omega) (by omega))
  rw [e1] at A2
  clear hM hP b1 b2 e1
  go_enter Tryd.func5, Tryd.ntmps5
  go_wp2_with fail
  refine (unhide A1).mono ?_
  rintro e w1 ⟨rfl, c1⟩
  have B1 := hide c1
  clear c1
  go_wp2_with fail
  refine (unhide A2 _).mono ?_
  rintro e w0 ⟨rfl, hw⟩
  rw [hw]
  clear hw w0
  go_wp2_with fail
  refine (unhide A3 _).mono ?_
  rintro e w0 ⟨rfl, hw⟩
  rw [hw]
  clear hw w0
  have hq : (3505962 : Int) < (n : Int) := by omega
  go_wp2
  go_ret
  exact ⟨by simp; try omega, unhide B1⟩
set_option maxHeartbeats 2000000 in
theorem walk_cycle_go (n0 : Int) (y m d n : Nat) (w : World) (hM : Mon w) (hP : Pow w) (b1 : -9223372036854775808 ≤ n0) (b2 : n0 ≤ 9223372036854775807) (e1 : wi n0 = n) (h : Dat y m d n) (h' : Dat (y + 400) m d (n + 146097)) :
    Calls Tryd.prog 5 #[.int .i64 n0] w fun e w' => e = .returned (.bool true) ∧ Below w.heap.size w w' := by
  have h6 := h.lo
  have h7 := h'.hi
  have h2 := h.y2
  have A1 := hide (first_ok w hM hP)
  have A2 := hide (fun W => within_any n0 W b1 b2)
  have A3 := hide (fun W => dadd_ok n 146097 W (by omega) (by omega) (by omega) (by omega))
  have A4 := hide (fun W (hW : Below w.heap.size w W) => dto_ok y m d n W (hM.below hW) h)
  have A5 := hide (fun W (hW : Below w.heap.size w W) => dto_ok (y + 400) m d (n + 146097) W (hM.below hW) h')
  have A6 := hide (fun W => dweek_ok n W h.lo h.hi)
  have A7 := hide (fun W => dweek_ok (n + 146097) W h'.lo h'.hi)
  rw [e1] at A2
  rw [show ((n + 146097 : Nat) : Int) = (n : Int) + 146097 by omega] at A5 A7
  rw [show ((n : Int) + 146097 - 1) % 7 + 1 = ((n : Int) - 1) % 7 + 1 by omega] at A7
  obtain ⟨P, hP4⟩ : ∃ P : Nat, ((n : Int) - 1) % 7 + 1 = (P : Int) := ⟨(((n : Int) - 1) % 7 + 1).toNat, by omega⟩
  rw [hP4] at A6 A7
  clear hM hP b1 b2 e1 h h' hP4
  go_enter Tryd.func5, Tryd.ntmps5
  go_wp2_with fail
  refine (unhide A1).mono ?_
  rintro e w1 ⟨rfl, c1⟩
  have B1 := hide c1
  clear c1
  go_wp2_with fail
  refine (unhide A2 _).mono ?_
  rintro e w0 ⟨rfl, hw⟩
  rw [hw]
  clear hw w0
  go_wp2_with fail
  refine (unhide A3 _).mono ?_
  rintro e w0 ⟨rfl, hw⟩
  rw [hw]
  clear hw w0
  go_wp2_with fail
  refine (unhide A4 _ (unhide B1)).mono ?_
  rintro e w0 ⟨rfl, hw⟩
  rw [hw]
  clear hw w0
  go_wp2_with fail
  refine (unhide A5 _ (bal (bal (bal (bal (unhide B1) _) _) _) _)).mono ?_
  rintro e w0 ⟨rfl, hw⟩
  rw [hw]
  clear hw w0
  go_wp2_with fail
  refine (unhide A6 _).mono ?_
  rintro e w0 ⟨rfl, hw⟩
  rw [hw]
  clear hw w0
  go_wp2_with fail
  refine (unhide A7 _).mono ?_
  rintro e w0 ⟨rfl, hw⟩
  rw [hw]
  clear hw w0
  go_wp2
  go_ret
  exact ⟨rfl, bal (bal (bal (bal (bal (bal (bal (bal (unhide B1) _) _) _) _) _) _) _) _⟩
theorem walk_cycle (n0 : Int) (w : World) (hM : Mon w) (hP : Pow w) (b1 : -9223372036854775808 ≤ n0) (b2 : n0 ≤ 9223372036854775807) :
    Calls Tryd.prog 5 #[.int .i64 n0] w fun e w' => e = .returned (.bool true) ∧ Below w.heap.size w w' := by
  by_cases hn : wi n0 + 146097 ≤ 3652059
  · obtain ⟨y, m, d, h⟩ := dat_ex (wi n0) (wi_lo _) (wi_hi _)
    exact walk_cycle_go n0 y m d _ w hM hP b1 b2 rfl h (h.cyc hn)
  · exact walk_cycle_out n0 _ w hM hP b1 b2 rfl (wi_lo _) (wi_hi _) (by omega)
end Go.Proofs.YtjipemnphpnmiabDoor
