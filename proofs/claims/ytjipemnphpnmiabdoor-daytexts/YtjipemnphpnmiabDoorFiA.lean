import Derived.Test.YtjipemnphpnmiabDoorPrA
namespace Go.Proofs.YtjipemnphpnmiabDoor
open Go.ChangeShapes Go.WideShapes Go.ChangeAt Go.RowKit
set_option linter.unusedVariables false
theorem dat_first29 : Dat 2024 2 29 738945 := ⟨by decide, by decide, by decide, by decide, by decide, by decide, by decide⟩
theorem tx_first : tx 2024 2 29 = [50, 48, 50, 52, 45, 48, 50, 45, 50, 57] := by decide
set_option maxHeartbeats 1000000 in
theorem first_ok (w : World) (hM : Mon w) (hP : Pow w) : Calls Tryd.prog 8 #[] w fun e w' => e = .returned (.bool true) ∧ Below w.heap.size w w' := by
  have A1 := hide (dfrom_ok 2024 2 29 738945 w hM dat_first29)
  have A2 := hide (fun W (hW : Below w.heap.size w W) => carry hW (dprint_ok 2024 2 29 738945 W (hM.below hW) (hP.below pow_no hW) dat_first29))
  rw [tx_first] at A2
  clear hM hP
  go_enter Tryd.func8, Tryd.ntmps8
  go_wp2_with fail
  refine (unhide A1).mono ?_
  rintro e w1 ⟨rfl, c1⟩
  go_wp2_with fail
  refine (unhide A2 _ c1).mono ?_
  rintro e w2 ⟨rfl, c2⟩
  have C2 := hide c2
  clear c1 c2
  go_wp2
  go_ret
  exact ⟨rfl, unhide C2⟩
/-- a day out of any number -/
def wi (n : Int) : Nat := if n < 0 then (1 + (-(n + 1)) % 3652059).toNat else (1 + n % 3652059).toNat
theorem wi_lo (n : Int) : 1 ≤ wi n := by unfold wi; split <;> omega
theorem wi_hi (n : Int) : wi n ≤ 3652059 := by unfold wi; split <;> omega
set_option maxHeartbeats 1000000 in
theorem within_any (n : Int) (w : World) (h1 : -9223372036854775808 ≤ n) (h2 : n ≤ 9223372036854775807) : Calls Tryd.prog 9 #[.int .i64 n] w fun e w' => e = .returned (.int .i64 (wi n)) ∧ w' = w := by
  by_cases h : n < 0
  · have e : (wi n : Int) = 1 + (-(n + 1)) % 3652059 := by unfold wi; rw [if_pos h]; omega
    obtain ⟨k, hk⟩ : ∃ k : Nat, -(n + 1) = (k : Int) := ⟨(-(n + 1)).toNat, by omega⟩
    rw [e, hk]
    have h4 : k ≤ 9223372036854775807 := by omega
    clear e
    go_enter Tryd.func9, Tryd.ntmps9
    go_wp2
    go_ret
    exact ⟨rfl, rfl⟩
  · have e : (wi n : Int) = 1 + n % 3652059 := by unfold wi; rw [if_neg h]; omega
    rw [e]
    clear e
    go_enter Tryd.func9, Tryd.ntmps9
    go_wp2
    go_ret
    exact ⟨rfl, rfl⟩
end Go.Proofs.YtjipemnphpnmiabDoor
