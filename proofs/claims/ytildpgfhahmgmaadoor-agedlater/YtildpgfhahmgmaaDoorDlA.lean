/- the law's own makers: key (34). -/
import Derived.Test.YtildpgfhahmgmaaDoorShA
import Derived.Test.YtildpgfhahmgmaaDoorRgs
namespace Go.Proofs.YtildpgfhahmgmaaDoor
open Go Go.Shelf Go.ChangeShapes Go.WideShapes Go.ChangeAt Go.RowKit Go.Maps
set_option linter.unusedVariables false
def keyS (i : Nat) : ByteArray := ⟨#[107, UInt8.ofNat (65 + i % 26), UInt8.ofNat (65 + i / 26)]⟩
set_option maxRecDepth 100000 in
theorem key_0 (w : World) : Calls Tryd.prog 34 #[.int .i64 0] w fun e w' => e = .returned (.string (keyS 0)) ∧ w' = w := by
  go_enter Tryd.func34, Tryd.ntmps34
  go_wp2_with fail
  go_ret
  exact ⟨by kernel_rfl, rfl⟩
set_option maxRecDepth 100000 in
theorem key_1 (w : World) : Calls Tryd.prog 34 #[.int .i64 1] w fun e w' => e = .returned (.string (keyS 1)) ∧ w' = w := by
  go_enter Tryd.func34, Tryd.ntmps34
  go_wp2_with fail
  go_ret
  exact ⟨by kernel_rfl, rfl⟩
set_option maxRecDepth 100000 in
theorem key_2 (w : World) : Calls Tryd.prog 34 #[.int .i64 2] w fun e w' => e = .returned (.string (keyS 2)) ∧ w' = w := by
  go_enter Tryd.func34, Tryd.ntmps34
  go_wp2_with fail
  go_ret
  exact ⟨by kernel_rfl, rfl⟩
set_option maxRecDepth 100000 in
theorem key_3 (w : World) : Calls Tryd.prog 34 #[.int .i64 3] w fun e w' => e = .returned (.string (keyS 3)) ∧ w' = w := by
  go_enter Tryd.func34, Tryd.ntmps34
  go_wp2_with fail
  go_ret
  exact ⟨by kernel_rfl, rfl⟩
set_option maxRecDepth 100000 in
theorem key_4 (w : World) : Calls Tryd.prog 34 #[.int .i64 4] w fun e w' => e = .returned (.string (keyS 4)) ∧ w' = w := by
  go_enter Tryd.func34, Tryd.ntmps34
  go_wp2_with fail
  go_ret
  exact ⟨by kernel_rfl, rfl⟩
set_option maxRecDepth 100000 in
theorem key_5 (w : World) : Calls Tryd.prog 34 #[.int .i64 5] w fun e w' => e = .returned (.string (keyS 5)) ∧ w' = w := by
  go_enter Tryd.func34, Tryd.ntmps34
  go_wp2_with fail
  go_ret
  exact ⟨by kernel_rfl, rfl⟩
set_option maxRecDepth 100000 in
theorem key_6 (w : World) : Calls Tryd.prog 34 #[.int .i64 6] w fun e w' => e = .returned (.string (keyS 6)) ∧ w' = w := by
  go_enter Tryd.func34, Tryd.ntmps34
  go_wp2_with fail
  go_ret
  exact ⟨by kernel_rfl, rfl⟩
set_option maxRecDepth 100000 in
theorem key_7 (w : World) : Calls Tryd.prog 34 #[.int .i64 7] w fun e w' => e = .returned (.string (keyS 7)) ∧ w' = w := by
  go_enter Tryd.func34, Tryd.ntmps34
  go_wp2_with fail
  go_ret
  exact ⟨by kernel_rfl, rfl⟩
set_option maxRecDepth 100000 in
theorem key_8 (w : World) : Calls Tryd.prog 34 #[.int .i64 8] w fun e w' => e = .returned (.string (keyS 8)) ∧ w' = w := by
  go_enter Tryd.func34, Tryd.ntmps34
  go_wp2_with fail
  go_ret
  exact ⟨by kernel_rfl, rfl⟩
set_option maxRecDepth 100000 in
theorem key_9 (w : World) : Calls Tryd.prog 34 #[.int .i64 9] w fun e w' => e = .returned (.string (keyS 9)) ∧ w' = w := by
  go_enter Tryd.func34, Tryd.ntmps34
  go_wp2_with fail
  go_ret
  exact ⟨by kernel_rfl, rfl⟩
set_option maxRecDepth 100000 in
theorem key_10 (w : World) : Calls Tryd.prog 34 #[.int .i64 10] w fun e w' => e = .returned (.string (keyS 10)) ∧ w' = w := by
  go_enter Tryd.func34, Tryd.ntmps34
  go_wp2_with fail
  go_ret
  exact ⟨by kernel_rfl, rfl⟩
set_option maxRecDepth 100000 in
theorem key_11 (w : World) : Calls Tryd.prog 34 #[.int .i64 11] w fun e w' => e = .returned (.string (keyS 11)) ∧ w' = w := by
  go_enter Tryd.func34, Tryd.ntmps34
  go_wp2_with fail
  go_ret
  exact ⟨by kernel_rfl, rfl⟩
set_option maxRecDepth 100000 in
theorem key_12 (w : World) : Calls Tryd.prog 34 #[.int .i64 12] w fun e w' => e = .returned (.string (keyS 12)) ∧ w' = w := by
  go_enter Tryd.func34, Tryd.ntmps34
  go_wp2_with fail
  go_ret
  exact ⟨by kernel_rfl, rfl⟩
set_option maxRecDepth 100000 in
theorem key_13 (w : World) : Calls Tryd.prog 34 #[.int .i64 13] w fun e w' => e = .returned (.string (keyS 13)) ∧ w' = w := by
  go_enter Tryd.func34, Tryd.ntmps34
  go_wp2_with fail
  go_ret
  exact ⟨by kernel_rfl, rfl⟩
set_option maxRecDepth 100000 in
theorem key_14 (w : World) : Calls Tryd.prog 34 #[.int .i64 14] w fun e w' => e = .returned (.string (keyS 14)) ∧ w' = w := by
  go_enter Tryd.func34, Tryd.ntmps34
  go_wp2_with fail
  go_ret
  exact ⟨by kernel_rfl, rfl⟩
set_option maxRecDepth 100000 in
theorem key_15 (w : World) : Calls Tryd.prog 34 #[.int .i64 15] w fun e w' => e = .returned (.string (keyS 15)) ∧ w' = w := by
  go_enter Tryd.func34, Tryd.ntmps34
  go_wp2_with fail
  go_ret
  exact ⟨by kernel_rfl, rfl⟩
set_option maxRecDepth 100000 in
theorem key_16 (w : World) : Calls Tryd.prog 34 #[.int .i64 16] w fun e w' => e = .returned (.string (keyS 16)) ∧ w' = w := by
  go_enter Tryd.func34, Tryd.ntmps34
  go_wp2_with fail
  go_ret
  exact ⟨by kernel_rfl, rfl⟩
set_option maxRecDepth 100000 in
theorem key_17 (w : World) : Calls Tryd.prog 34 #[.int .i64 17] w fun e w' => e = .returned (.string (keyS 17)) ∧ w' = w := by
  go_enter Tryd.func34, Tryd.ntmps34
  go_wp2_with fail
  go_ret
  exact ⟨by kernel_rfl, rfl⟩
set_option maxRecDepth 100000 in
theorem key_18 (w : World) : Calls Tryd.prog 34 #[.int .i64 18] w fun e w' => e = .returned (.string (keyS 18)) ∧ w' = w := by
  go_enter Tryd.func34, Tryd.ntmps34
  go_wp2_with fail
  go_ret
  exact ⟨by kernel_rfl, rfl⟩
set_option maxRecDepth 100000 in
theorem key_19 (w : World) : Calls Tryd.prog 34 #[.int .i64 19] w fun e w' => e = .returned (.string (keyS 19)) ∧ w' = w := by
  go_enter Tryd.func34, Tryd.ntmps34
  go_wp2_with fail
  go_ret
  exact ⟨by kernel_rfl, rfl⟩
set_option maxRecDepth 100000 in
theorem key_20 (w : World) : Calls Tryd.prog 34 #[.int .i64 20] w fun e w' => e = .returned (.string (keyS 20)) ∧ w' = w := by
  go_enter Tryd.func34, Tryd.ntmps34
  go_wp2_with fail
  go_ret
  exact ⟨by kernel_rfl, rfl⟩
set_option maxRecDepth 100000 in
theorem key_21 (w : World) : Calls Tryd.prog 34 #[.int .i64 21] w fun e w' => e = .returned (.string (keyS 21)) ∧ w' = w := by
  go_enter Tryd.func34, Tryd.ntmps34
  go_wp2_with fail
  go_ret
  exact ⟨by kernel_rfl, rfl⟩
set_option maxRecDepth 100000 in
theorem key_22 (w : World) : Calls Tryd.prog 34 #[.int .i64 22] w fun e w' => e = .returned (.string (keyS 22)) ∧ w' = w := by
  go_enter Tryd.func34, Tryd.ntmps34
  go_wp2_with fail
  go_ret
  exact ⟨by kernel_rfl, rfl⟩
set_option maxRecDepth 100000 in
theorem key_23 (w : World) : Calls Tryd.prog 34 #[.int .i64 23] w fun e w' => e = .returned (.string (keyS 23)) ∧ w' = w := by
  go_enter Tryd.func34, Tryd.ntmps34
  go_wp2_with fail
  go_ret
  exact ⟨by kernel_rfl, rfl⟩
set_option maxRecDepth 100000 in
theorem key_24 (w : World) : Calls Tryd.prog 34 #[.int .i64 24] w fun e w' => e = .returned (.string (keyS 24)) ∧ w' = w := by
  go_enter Tryd.func34, Tryd.ntmps34
  go_wp2_with fail
  go_ret
  exact ⟨by kernel_rfl, rfl⟩
set_option maxRecDepth 100000 in
theorem key_25 (w : World) : Calls Tryd.prog 34 #[.int .i64 25] w fun e w' => e = .returned (.string (keyS 25)) ∧ w' = w := by
  go_enter Tryd.func34, Tryd.ntmps34
  go_wp2_with fail
  go_ret
  exact ⟨by kernel_rfl, rfl⟩
set_option maxRecDepth 100000 in
theorem key_26 (w : World) : Calls Tryd.prog 34 #[.int .i64 26] w fun e w' => e = .returned (.string (keyS 26)) ∧ w' = w := by
  go_enter Tryd.func34, Tryd.ntmps34
  go_wp2_with fail
  go_ret
  exact ⟨by kernel_rfl, rfl⟩
set_option maxRecDepth 100000 in
theorem key_27 (w : World) : Calls Tryd.prog 34 #[.int .i64 27] w fun e w' => e = .returned (.string (keyS 27)) ∧ w' = w := by
  go_enter Tryd.func34, Tryd.ntmps34
  go_wp2_with fail
  go_ret
  exact ⟨by kernel_rfl, rfl⟩
set_option maxRecDepth 100000 in
theorem key_28 (w : World) : Calls Tryd.prog 34 #[.int .i64 28] w fun e w' => e = .returned (.string (keyS 28)) ∧ w' = w := by
  go_enter Tryd.func34, Tryd.ntmps34
  go_wp2_with fail
  go_ret
  exact ⟨by kernel_rfl, rfl⟩
set_option maxRecDepth 100000 in
theorem key_29 (w : World) : Calls Tryd.prog 34 #[.int .i64 29] w fun e w' => e = .returned (.string (keyS 29)) ∧ w' = w := by
  go_enter Tryd.func34, Tryd.ntmps34
  go_wp2_with fail
  go_ret
  exact ⟨by kernel_rfl, rfl⟩
set_option maxRecDepth 100000 in
theorem key_30 (w : World) : Calls Tryd.prog 34 #[.int .i64 30] w fun e w' => e = .returned (.string (keyS 30)) ∧ w' = w := by
  go_enter Tryd.func34, Tryd.ntmps34
  go_wp2_with fail
  go_ret
  exact ⟨by kernel_rfl, rfl⟩
set_option maxRecDepth 100000 in
theorem key_31 (w : World) : Calls Tryd.prog 34 #[.int .i64 31] w fun e w' => e = .returned (.string (keyS 31)) ∧ w' = w := by
  go_enter Tryd.func34, Tryd.ntmps34
  go_wp2_with fail
  go_ret
  exact ⟨by kernel_rfl, rfl⟩
set_option maxRecDepth 100000 in
theorem key_32 (w : World) : Calls Tryd.prog 34 #[.int .i64 32] w fun e w' => e = .returned (.string (keyS 32)) ∧ w' = w := by
  go_enter Tryd.func34, Tryd.ntmps34
  go_wp2_with fail
  go_ret
  exact ⟨by kernel_rfl, rfl⟩
set_option maxRecDepth 100000 in
theorem key_33 (w : World) : Calls Tryd.prog 34 #[.int .i64 33] w fun e w' => e = .returned (.string (keyS 33)) ∧ w' = w := by
  go_enter Tryd.func34, Tryd.ntmps34
  go_wp2_with fail
  go_ret
  exact ⟨by kernel_rfl, rfl⟩
set_option maxRecDepth 100000 in
theorem key_34 (w : World) : Calls Tryd.prog 34 #[.int .i64 34] w fun e w' => e = .returned (.string (keyS 34)) ∧ w' = w := by
  go_enter Tryd.func34, Tryd.ntmps34
  go_wp2_with fail
  go_ret
  exact ⟨by kernel_rfl, rfl⟩
set_option maxRecDepth 100000 in
theorem key_35 (w : World) : Calls Tryd.prog 34 #[.int .i64 35] w fun e w' => e = .returned (.string (keyS 35)) ∧ w' = w := by
  go_enter Tryd.func34, Tryd.ntmps34
  go_wp2_with fail
  go_ret
  exact ⟨by kernel_rfl, rfl⟩
set_option maxRecDepth 100000 in
theorem key_36 (w : World) : Calls Tryd.prog 34 #[.int .i64 36] w fun e w' => e = .returned (.string (keyS 36)) ∧ w' = w := by
  go_enter Tryd.func34, Tryd.ntmps34
  go_wp2_with fail
  go_ret
  exact ⟨by kernel_rfl, rfl⟩
set_option maxRecDepth 100000 in
theorem key_37 (w : World) : Calls Tryd.prog 34 #[.int .i64 37] w fun e w' => e = .returned (.string (keyS 37)) ∧ w' = w := by
  go_enter Tryd.func34, Tryd.ntmps34
  go_wp2_with fail
  go_ret
  exact ⟨by kernel_rfl, rfl⟩
set_option maxRecDepth 100000 in
theorem key_38 (w : World) : Calls Tryd.prog 34 #[.int .i64 38] w fun e w' => e = .returned (.string (keyS 38)) ∧ w' = w := by
  go_enter Tryd.func34, Tryd.ntmps34
  go_wp2_with fail
  go_ret
  exact ⟨by kernel_rfl, rfl⟩
set_option maxRecDepth 100000 in
theorem key_39 (w : World) : Calls Tryd.prog 34 #[.int .i64 39] w fun e w' => e = .returned (.string (keyS 39)) ∧ w' = w := by
  go_enter Tryd.func34, Tryd.ntmps34
  go_wp2_with fail
  go_ret
  exact ⟨by kernel_rfl, rfl⟩
set_option maxRecDepth 100000 in
theorem key_40 (w : World) : Calls Tryd.prog 34 #[.int .i64 40] w fun e w' => e = .returned (.string (keyS 40)) ∧ w' = w := by
  go_enter Tryd.func34, Tryd.ntmps34
  go_wp2_with fail
  go_ret
  exact ⟨by kernel_rfl, rfl⟩
set_option maxRecDepth 100000 in
theorem key_41 (w : World) : Calls Tryd.prog 34 #[.int .i64 41] w fun e w' => e = .returned (.string (keyS 41)) ∧ w' = w := by
  go_enter Tryd.func34, Tryd.ntmps34
  go_wp2_with fail
  go_ret
  exact ⟨by kernel_rfl, rfl⟩
set_option maxRecDepth 100000 in
theorem key_42 (w : World) : Calls Tryd.prog 34 #[.int .i64 42] w fun e w' => e = .returned (.string (keyS 42)) ∧ w' = w := by
  go_enter Tryd.func34, Tryd.ntmps34
  go_wp2_with fail
  go_ret
  exact ⟨by kernel_rfl, rfl⟩
set_option maxRecDepth 100000 in
theorem key_43 (w : World) : Calls Tryd.prog 34 #[.int .i64 43] w fun e w' => e = .returned (.string (keyS 43)) ∧ w' = w := by
  go_enter Tryd.func34, Tryd.ntmps34
  go_wp2_with fail
  go_ret
  exact ⟨by kernel_rfl, rfl⟩
set_option maxRecDepth 100000 in
theorem key_44 (w : World) : Calls Tryd.prog 34 #[.int .i64 44] w fun e w' => e = .returned (.string (keyS 44)) ∧ w' = w := by
  go_enter Tryd.func34, Tryd.ntmps34
  go_wp2_with fail
  go_ret
  exact ⟨by kernel_rfl, rfl⟩
set_option maxRecDepth 100000 in
theorem key_45 (w : World) : Calls Tryd.prog 34 #[.int .i64 45] w fun e w' => e = .returned (.string (keyS 45)) ∧ w' = w := by
  go_enter Tryd.func34, Tryd.ntmps34
  go_wp2_with fail
  go_ret
  exact ⟨by kernel_rfl, rfl⟩
set_option maxRecDepth 100000 in
theorem key_46 (w : World) : Calls Tryd.prog 34 #[.int .i64 46] w fun e w' => e = .returned (.string (keyS 46)) ∧ w' = w := by
  go_enter Tryd.func34, Tryd.ntmps34
  go_wp2_with fail
  go_ret
  exact ⟨by kernel_rfl, rfl⟩
set_option maxRecDepth 100000 in
theorem key_47 (w : World) : Calls Tryd.prog 34 #[.int .i64 47] w fun e w' => e = .returned (.string (keyS 47)) ∧ w' = w := by
  go_enter Tryd.func34, Tryd.ntmps34
  go_wp2_with fail
  go_ret
  exact ⟨by kernel_rfl, rfl⟩
set_option maxRecDepth 100000 in
theorem key_48 (w : World) : Calls Tryd.prog 34 #[.int .i64 48] w fun e w' => e = .returned (.string (keyS 48)) ∧ w' = w := by
  go_enter Tryd.func34, Tryd.ntmps34
  go_wp2_with fail
  go_ret
  exact ⟨by kernel_rfl, rfl⟩
set_option maxRecDepth 100000 in
theorem key_49 (w : World) : Calls Tryd.prog 34 #[.int .i64 49] w fun e w' => e = .returned (.string (keyS 49)) ∧ w' = w := by
  go_enter Tryd.func34, Tryd.ntmps34
  go_wp2_with fail
  go_ret
  exact ⟨by kernel_rfl, rfl⟩
theorem key_any (i : Nat) (h : i < 50) (w : World) : Calls Tryd.prog 34 #[.int .i64 i] w fun e w' => e = .returned (.string (keyS i)) ∧ w' = w := by
  match i, h with
  | 0, _ => exact key_0 w
  | 1, _ => exact key_1 w
  | 2, _ => exact key_2 w
  | 3, _ => exact key_3 w
  | 4, _ => exact key_4 w
  | 5, _ => exact key_5 w
  | 6, _ => exact key_6 w
  | 7, _ => exact key_7 w
  | 8, _ => exact key_8 w
  | 9, _ => exact key_9 w
  | 10, _ => exact key_10 w
  | 11, _ => exact key_11 w
  | 12, _ => exact key_12 w
  | 13, _ => exact key_13 w
  | 14, _ => exact key_14 w
  | 15, _ => exact key_15 w
  | 16, _ => exact key_16 w
  | 17, _ => exact key_17 w
  | 18, _ => exact key_18 w
  | 19, _ => exact key_19 w
  | 20, _ => exact key_20 w
  | 21, _ => exact key_21 w
  | 22, _ => exact key_22 w
  | 23, _ => exact key_23 w
  | 24, _ => exact key_24 w
  | 25, _ => exact key_25 w
  | 26, _ => exact key_26 w
  | 27, _ => exact key_27 w
  | 28, _ => exact key_28 w
  | 29, _ => exact key_29 w
  | 30, _ => exact key_30 w
  | 31, _ => exact key_31 w
  | 32, _ => exact key_32 w
  | 33, _ => exact key_33 w
  | 34, _ => exact key_34 w
  | 35, _ => exact key_35 w
  | 36, _ => exact key_36 w
  | 37, _ => exact key_37 w
  | 38, _ => exact key_38 w
  | 39, _ => exact key_39 w
  | 40, _ => exact key_40 w
  | 41, _ => exact key_41 w
  | 42, _ => exact key_42 w
  | 43, _ => exact key_43 w
  | 44, _ => exact key_44 w
  | 45, _ => exact key_45 w
  | 46, _ => exact key_46 w
  | 47, _ => exact key_47 w
  | 48, _ => exact key_48 w
  | 49, _ => exact key_49 w
  | n + 50, h => omega
theorem keyS_inj : ∀ i < 50, ∀ j < 50, keyS i = keyS j → i = j := by decide +kernel
end Go.Proofs.YtildpgfhahmgmaaDoor
