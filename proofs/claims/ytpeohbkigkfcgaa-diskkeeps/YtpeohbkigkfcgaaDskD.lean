/- disk: change (123), whatever is to be done. -/
import Derived.Test.YtpeohbkigkfcgaaDskC
namespace Go.Proofs.Ytpeohbkigkfcgaa
open Go Go.ChangeShapes Go.WideShapes Go.ChangeAt Go.RowKit
set_option linter.unusedVariables false
set_option maxRecDepth 100000 in
set_option maxHeartbeats 4000000 in
theorem change_down (d : Nat) (r : Int) (dv : Value) (w : World) (c3 : w.cell? ⟨d, 3, none⟩ = some (.bool true)) : Calls Try.prog 40 #[.pointer (some ⟨d, 0, none⟩), .int .i64 r, dv] w fun e w' => e = .returned (.int .i64 34) ∧ w' = w := by
  go_enter Try.func40, Try.ntmps40
  go_wp2_with fail
  go_ret
  exact ⟨rfl, rfl⟩
set_option maxRecDepth 100000 in
set_option maxHeartbeats 4000000 in
theorem change_refused (d : Nat) (r : Int) (hr : r ≠ 0) (dv : Value) (w : World) (c3 : w.cell? ⟨d, 3, none⟩ = some (.bool false)) : Calls Try.prog 40 #[.pointer (some ⟨d, 0, none⟩), .int .i64 r, dv] w fun e w' => e = .returned (.int .i64 r) ∧ w' = w := by
  have h1 : (r == 0) = false := by simpa using hr
  have h2 : (r != 0) = true := by simpa using hr
  go_enter Try.func40, Try.ntmps40
  go_wp2_with fail
  go_ret
  exact ⟨rfl, rfl⟩
set_option maxRecDepth 100000 in
set_option maxHeartbeats 4000000 in
theorem change_fails (d : Nat) (dv : Value) (w : World) (c2 : w.cell? ⟨d, 2, none⟩ = some (.int .i64 0)) (c3 : w.cell? ⟨d, 3, none⟩ = some (.bool false)) (f2 : w.frozen? ⟨d, 2, none⟩ = false) (f3 : w.frozen? ⟨d, 3, none⟩ = false) :
    Calls Try.prog 40 #[.pointer (some ⟨d, 0, none⟩), .int .i64 0, dv] w fun e w' => e = .returned (.int .i64 34) ∧ w' = (w.setCell ⟨d, 2, none⟩ (.int .i64 (-1))).setCell ⟨d, 3, none⟩ (.bool true) := by
  go_enter Try.func40, Try.ntmps40
  go_wp2_with fail
  go_ret
  exact ⟨rfl, rfl⟩
set_option maxRecDepth 100000 in
set_option maxHeartbeats 4000000 in
theorem change_does (d : Nat) (fuse : Int) (hf0 : fuse ≠ 0) (hf1 : fuse ≤ 9223372036854775807) (g : Nat) (lb : Array Value) (eg : ∀ args w, (callFunc g args).run Try.prog w = .ok (.enter g args) w) (w w1 : World) (R : World → Prop) (c2 : w.cell? ⟨d, 2, none⟩ = some (.int .i64 fuse)) (c3 : w.cell? ⟨d, 3, none⟩ = some (.bool false)) (f2 : w.frozen? ⟨d, 2, none⟩ = false)
    (hw1 : w1 = if 0 < fuse then w.setCell ⟨d, 2, none⟩ (.int .i64 (fuse - 1)) else w) (hdo : Calls Try.prog g lb w1 fun e w' => (∃ v, e = .returned v) ∧ R w') :
    Calls Try.prog 40 #[.pointer (some ⟨d, 0, none⟩), .int .i64 0, .func (.func g) #[] lb] w fun e w' => e = .returned (.int .i64 0) ∧ R w' := by
  have h1 : (fuse == 0) = false := by simpa using hf0
  have HDO := hide hdo
  clear hdo
  by_cases hp : 0 < fuse
  · rw [if_pos hp] at hw1
    have e1 : wrap64 (fuse - 1) = fuse - 1 := by unfold wrap64; omega
    rw [hw1] at HDO
    go_enter Try.func40, Try.ntmps40
    go_wp2_with fail
    refine (unhide HDO).mono ?_
    rintro e w2 ⟨⟨v, rfl⟩, hR⟩
    have HR := hide hR
    clear hR
    go_wp2_with fail
    go_ret
    exact ⟨rfl, unhide HR⟩
  · rw [if_neg hp] at hw1
    rw [hw1] at HDO
    go_enter Try.func40, Try.ntmps40
    go_wp2_with fail
    refine (unhide HDO).mono ?_
    rintro e w2 ⟨⟨v, rfl⟩, hR⟩
    have HR := hide hR
    clear hR
    go_wp2_with fail
    go_ret
    exact ⟨rfl, unhide HR⟩
end Go.Proofs.Ytpeohbkigkfcgaa
