import Derived.Test.YtmgnlgobkkfjhaaGreatDoorW09
import Derived.Test.YtmgnlgobkkfjhaaGreatDoorW26
/- The keeper's lists of the other kinds, of which none is kept: looked at, filled, grown. By tools/kb1.py. -/
namespace Go.Proofs.YtmgnlgobkkfjhaaGreatDoor.Kg
open Go Go.Shelf Go.ChangeShapes Go.WideShapes Go.ChangeAt Go.RowKit Go.Maps
set_option linter.unusedVariables false
/-- a kind of which nothing is kept -/
def Idle (f j : Nat) (v : Value) : Prop := ∀ (bk : Nat) (w : World), w.cell? ⟨bk, j, none⟩ = some (.slice none 0 0) → Calls Tryz.prog f #[.pointer (some ⟨bk, 0, none⟩)] w fun e w' => e = .returned v ∧ w' = w
set_option maxHeartbeats 1000000 in
theorem intact0 : Idle 95 1 (.bool true) := by
  intro bk w h
  go_enter Tryz.func95, Tryz.ntmps95
  go_wp2_with fail
  go_loopw [3] (fun i wr => i = .int .i64 0 ∧ wr = w) (fun i _ => 0)
  case atStart => exact ⟨rfl, rfl⟩
  case round =>
    obtain ⟨rfl, rfl⟩ := hrel
    go_wp2_with fail
    go_ret
    exact ⟨rfl, rfl⟩
set_option maxHeartbeats 1000000 in
theorem fill0 : Idle 32 1 (.tuple #[]) := by
  intro bk w h
  go_enter Tryz.func32, Tryz.ntmps32
  go_wp2_with fail
  go_loopw [2] (fun i wr => i = .int .i64 0 ∧ wr = w) (fun i _ => 0)
  case atStart => exact ⟨rfl, rfl⟩
  case round =>
    obtain ⟨rfl, rfl⟩ := hrel
    go_wp2_with fail
    go_end0
    exact ⟨rfl, rfl⟩
set_option maxHeartbeats 1000000 in
theorem grow0 : Idle 52 1 (.tuple #[]) := by
  intro bk w h
  go_enter Tryz.func52, Tryz.ntmps52
  go_wp2_with fail
  go_loopw [2] (fun i wr => i = .int .i64 0 ∧ wr = w) (fun i _ => 0)
  case atStart => exact ⟨rfl, rfl⟩
  case round =>
    obtain ⟨rfl, rfl⟩ := hrel
    go_wp2_with fail
    go_end0
    exact ⟨rfl, rfl⟩
set_option maxHeartbeats 1000000 in
theorem intact1 : Idle 96 2 (.bool true) := by
  intro bk w h
  go_enter Tryz.func96, Tryz.ntmps96
  go_wp2_with fail
  go_loopw [3] (fun i wr => i = .int .i64 0 ∧ wr = w) (fun i _ => 0)
  case atStart => exact ⟨rfl, rfl⟩
  case round =>
    obtain ⟨rfl, rfl⟩ := hrel
    go_wp2_with fail
    go_ret
    exact ⟨rfl, rfl⟩
set_option maxHeartbeats 1000000 in
theorem fill1 : Idle 33 2 (.tuple #[]) := by
  intro bk w h
  go_enter Tryz.func33, Tryz.ntmps33
  go_wp2_with fail
  go_loopw [2] (fun i wr => i = .int .i64 0 ∧ wr = w) (fun i _ => 0)
  case atStart => exact ⟨rfl, rfl⟩
  case round =>
    obtain ⟨rfl, rfl⟩ := hrel
    go_wp2_with fail
    go_end0
    exact ⟨rfl, rfl⟩
set_option maxHeartbeats 1000000 in
theorem grow1 : Idle 53 2 (.tuple #[]) := by
  intro bk w h
  go_enter Tryz.func53, Tryz.ntmps53
  go_wp2_with fail
  go_loopw [2] (fun i wr => i = .int .i64 0 ∧ wr = w) (fun i _ => 0)
  case atStart => exact ⟨rfl, rfl⟩
  case round =>
    obtain ⟨rfl, rfl⟩ := hrel
    go_wp2_with fail
    go_end0
    exact ⟨rfl, rfl⟩
set_option maxHeartbeats 1000000 in
theorem intact2 : Idle 97 3 (.bool true) := by
  intro bk w h
  go_enter Tryz.func97, Tryz.ntmps97
  go_wp2_with fail
  go_loopw [3] (fun i wr => i = .int .i64 0 ∧ wr = w) (fun i _ => 0)
  case atStart => exact ⟨rfl, rfl⟩
  case round =>
    obtain ⟨rfl, rfl⟩ := hrel
    go_wp2_with fail
    go_ret
    exact ⟨rfl, rfl⟩
set_option maxHeartbeats 1000000 in
theorem fill2 : Idle 34 3 (.tuple #[]) := by
  intro bk w h
  go_enter Tryz.func34, Tryz.ntmps34
  go_wp2_with fail
  go_loopw [2] (fun i wr => i = .int .i64 0 ∧ wr = w) (fun i _ => 0)
  case atStart => exact ⟨rfl, rfl⟩
  case round =>
    obtain ⟨rfl, rfl⟩ := hrel
    go_wp2_with fail
    go_end0
    exact ⟨rfl, rfl⟩
set_option maxHeartbeats 1000000 in
theorem grow2 : Idle 54 3 (.tuple #[]) := by
  intro bk w h
  go_enter Tryz.func54, Tryz.ntmps54
  go_wp2_with fail
  go_loopw [2] (fun i wr => i = .int .i64 0 ∧ wr = w) (fun i _ => 0)
  case atStart => exact ⟨rfl, rfl⟩
  case round =>
    obtain ⟨rfl, rfl⟩ := hrel
    go_wp2_with fail
    go_end0
    exact ⟨rfl, rfl⟩
set_option maxHeartbeats 1000000 in
theorem intact3 : Idle 98 4 (.bool true) := by
  intro bk w h
  go_enter Tryz.func98, Tryz.ntmps98
  go_wp2_with fail
  go_loopw [3] (fun i wr => i = .int .i64 0 ∧ wr = w) (fun i _ => 0)
  case atStart => exact ⟨rfl, rfl⟩
  case round =>
    obtain ⟨rfl, rfl⟩ := hrel
    go_wp2_with fail
    go_ret
    exact ⟨rfl, rfl⟩
set_option maxHeartbeats 1000000 in
theorem fill3 : Idle 35 4 (.tuple #[]) := by
  intro bk w h
  go_enter Tryz.func35, Tryz.ntmps35
  go_wp2_with fail
  go_loopw [2] (fun i wr => i = .int .i64 0 ∧ wr = w) (fun i _ => 0)
  case atStart => exact ⟨rfl, rfl⟩
  case round =>
    obtain ⟨rfl, rfl⟩ := hrel
    go_wp2_with fail
    go_end0
    exact ⟨rfl, rfl⟩
set_option maxHeartbeats 1000000 in
theorem grow3 : Idle 55 4 (.tuple #[]) := by
  intro bk w h
  go_enter Tryz.func55, Tryz.ntmps55
  go_wp2_with fail
  go_loopw [2] (fun i wr => i = .int .i64 0 ∧ wr = w) (fun i _ => 0)
  case atStart => exact ⟨rfl, rfl⟩
  case round =>
    obtain ⟨rfl, rfl⟩ := hrel
    go_wp2_with fail
    go_end0
    exact ⟨rfl, rfl⟩
set_option maxHeartbeats 1000000 in
theorem intact4 : Idle 99 5 (.bool true) := by
  intro bk w h
  go_enter Tryz.func99, Tryz.ntmps99
  go_wp2_with fail
  go_loopw [3] (fun i wr => i = .int .i64 0 ∧ wr = w) (fun i _ => 0)
  case atStart => exact ⟨rfl, rfl⟩
  case round =>
    obtain ⟨rfl, rfl⟩ := hrel
    go_wp2_with fail
    go_ret
    exact ⟨rfl, rfl⟩
set_option maxHeartbeats 1000000 in
theorem fill4 : Idle 36 5 (.tuple #[]) := by
  intro bk w h
  go_enter Tryz.func36, Tryz.ntmps36
  go_wp2_with fail
  go_loopw [2] (fun i wr => i = .int .i64 0 ∧ wr = w) (fun i _ => 0)
  case atStart => exact ⟨rfl, rfl⟩
  case round =>
    obtain ⟨rfl, rfl⟩ := hrel
    go_wp2_with fail
    go_end0
    exact ⟨rfl, rfl⟩
set_option maxHeartbeats 1000000 in
theorem grow4 : Idle 56 5 (.tuple #[]) := by
  intro bk w h
  go_enter Tryz.func56, Tryz.ntmps56
  go_wp2_with fail
  go_loopw [2] (fun i wr => i = .int .i64 0 ∧ wr = w) (fun i _ => 0)
  case atStart => exact ⟨rfl, rfl⟩
  case round =>
    obtain ⟨rfl, rfl⟩ := hrel
    go_wp2_with fail
    go_end0
    exact ⟨rfl, rfl⟩
set_option maxHeartbeats 1000000 in
theorem intact5 : Idle 100 6 (.bool true) := by
  intro bk w h
  go_enter Tryz.func100, Tryz.ntmps100
  go_wp2_with fail
  go_loopw [3] (fun i wr => i = .int .i64 0 ∧ wr = w) (fun i _ => 0)
  case atStart => exact ⟨rfl, rfl⟩
  case round =>
    obtain ⟨rfl, rfl⟩ := hrel
    go_wp2_with fail
    go_ret
    exact ⟨rfl, rfl⟩
set_option maxHeartbeats 1000000 in
theorem fill5 : Idle 37 6 (.tuple #[]) := by
  intro bk w h
  go_enter Tryz.func37, Tryz.ntmps37
  go_wp2_with fail
  go_loopw [2] (fun i wr => i = .int .i64 0 ∧ wr = w) (fun i _ => 0)
  case atStart => exact ⟨rfl, rfl⟩
  case round =>
    obtain ⟨rfl, rfl⟩ := hrel
    go_wp2_with fail
    go_end0
    exact ⟨rfl, rfl⟩
set_option maxHeartbeats 1000000 in
theorem grow5 : Idle 57 6 (.tuple #[]) := by
  intro bk w h
  go_enter Tryz.func57, Tryz.ntmps57
  go_wp2_with fail
  go_loopw [2] (fun i wr => i = .int .i64 0 ∧ wr = w) (fun i _ => 0)
  case atStart => exact ⟨rfl, rfl⟩
  case round =>
    obtain ⟨rfl, rfl⟩ := hrel
    go_wp2_with fail
    go_end0
    exact ⟨rfl, rfl⟩
set_option maxHeartbeats 1000000 in
theorem intact6 : Idle 101 7 (.bool true) := by
  intro bk w h
  go_enter Tryz.func101, Tryz.ntmps101
  go_wp2_with fail
  go_loopw [3] (fun i wr => i = .int .i64 0 ∧ wr = w) (fun i _ => 0)
  case atStart => exact ⟨rfl, rfl⟩
  case round =>
    obtain ⟨rfl, rfl⟩ := hrel
    go_wp2_with fail
    go_ret
    exact ⟨rfl, rfl⟩
set_option maxHeartbeats 1000000 in
theorem fill6 : Idle 38 7 (.tuple #[]) := by
  intro bk w h
  go_enter Tryz.func38, Tryz.ntmps38
  go_wp2_with fail
  go_loopw [2] (fun i wr => i = .int .i64 0 ∧ wr = w) (fun i _ => 0)
  case atStart => exact ⟨rfl, rfl⟩
  case round =>
    obtain ⟨rfl, rfl⟩ := hrel
    go_wp2_with fail
    go_end0
    exact ⟨rfl, rfl⟩
set_option maxHeartbeats 1000000 in
theorem grow6 : Idle 58 7 (.tuple #[]) := by
  intro bk w h
  go_enter Tryz.func58, Tryz.ntmps58
  go_wp2_with fail
  go_loopw [2] (fun i wr => i = .int .i64 0 ∧ wr = w) (fun i _ => 0)
  case atStart => exact ⟨rfl, rfl⟩
  case round =>
    obtain ⟨rfl, rfl⟩ := hrel
    go_wp2_with fail
    go_end0
    exact ⟨rfl, rfl⟩
set_option maxHeartbeats 1000000 in
theorem intact7 : Idle 102 8 (.bool true) := by
  intro bk w h
  go_enter Tryz.func102, Tryz.ntmps102
  go_wp2_with fail
  go_loopw [3] (fun i wr => i = .int .i64 0 ∧ wr = w) (fun i _ => 0)
  case atStart => exact ⟨rfl, rfl⟩
  case round =>
    obtain ⟨rfl, rfl⟩ := hrel
    go_wp2_with fail
    go_ret
    exact ⟨rfl, rfl⟩
set_option maxHeartbeats 1000000 in
theorem fill7 : Idle 39 8 (.tuple #[]) := by
  intro bk w h
  go_enter Tryz.func39, Tryz.ntmps39
  go_wp2_with fail
  go_loopw [2] (fun i wr => i = .int .i64 0 ∧ wr = w) (fun i _ => 0)
  case atStart => exact ⟨rfl, rfl⟩
  case round =>
    obtain ⟨rfl, rfl⟩ := hrel
    go_wp2_with fail
    go_end0
    exact ⟨rfl, rfl⟩
set_option maxHeartbeats 1000000 in
theorem grow7 : Idle 59 8 (.tuple #[]) := by
  intro bk w h
  go_enter Tryz.func59, Tryz.ntmps59
  go_wp2_with fail
  go_loopw [2] (fun i wr => i = .int .i64 0 ∧ wr = w) (fun i _ => 0)
  case atStart => exact ⟨rfl, rfl⟩
  case round =>
    obtain ⟨rfl, rfl⟩ := hrel
    go_wp2_with fail
    go_end0
    exact ⟨rfl, rfl⟩
set_option maxHeartbeats 1000000 in
theorem intact8 : Idle 103 9 (.bool true) := by
  intro bk w h
  go_enter Tryz.func103, Tryz.ntmps103
  go_wp2_with fail
  go_loopw [3] (fun i wr => i = .int .i64 0 ∧ wr = w) (fun i _ => 0)
  case atStart => exact ⟨rfl, rfl⟩
  case round =>
    obtain ⟨rfl, rfl⟩ := hrel
    go_wp2_with fail
    go_ret
    exact ⟨rfl, rfl⟩
set_option maxHeartbeats 1000000 in
theorem fill8 : Idle 40 9 (.tuple #[]) := by
  intro bk w h
  go_enter Tryz.func40, Tryz.ntmps40
  go_wp2_with fail
  go_loopw [2] (fun i wr => i = .int .i64 0 ∧ wr = w) (fun i _ => 0)
  case atStart => exact ⟨rfl, rfl⟩
  case round =>
    obtain ⟨rfl, rfl⟩ := hrel
    go_wp2_with fail
    go_end0
    exact ⟨rfl, rfl⟩
set_option maxHeartbeats 1000000 in
theorem grow8 : Idle 60 9 (.tuple #[]) := by
  intro bk w h
  go_enter Tryz.func60, Tryz.ntmps60
  go_wp2_with fail
  go_loopw [2] (fun i wr => i = .int .i64 0 ∧ wr = w) (fun i _ => 0)
  case atStart => exact ⟨rfl, rfl⟩
  case round =>
    obtain ⟨rfl, rfl⟩ := hrel
    go_wp2_with fail
    go_end0
    exact ⟨rfl, rfl⟩
set_option maxHeartbeats 1000000 in
theorem intact9 : Idle 104 10 (.bool true) := by
  intro bk w h
  go_enter Tryz.func104, Tryz.ntmps104
  go_wp2_with fail
  go_loopw [3] (fun i wr => i = .int .i64 0 ∧ wr = w) (fun i _ => 0)
  case atStart => exact ⟨rfl, rfl⟩
  case round =>
    obtain ⟨rfl, rfl⟩ := hrel
    go_wp2_with fail
    go_ret
    exact ⟨rfl, rfl⟩
set_option maxHeartbeats 1000000 in
theorem fill9 : Idle 41 10 (.tuple #[]) := by
  intro bk w h
  go_enter Tryz.func41, Tryz.ntmps41
  go_wp2_with fail
  go_loopw [2] (fun i wr => i = .int .i64 0 ∧ wr = w) (fun i _ => 0)
  case atStart => exact ⟨rfl, rfl⟩
  case round =>
    obtain ⟨rfl, rfl⟩ := hrel
    go_wp2_with fail
    go_end0
    exact ⟨rfl, rfl⟩
set_option maxHeartbeats 1000000 in
theorem grow9 : Idle 61 10 (.tuple #[]) := by
  intro bk w h
  go_enter Tryz.func61, Tryz.ntmps61
  go_wp2_with fail
  go_loopw [2] (fun i wr => i = .int .i64 0 ∧ wr = w) (fun i _ => 0)
  case atStart => exact ⟨rfl, rfl⟩
  case round =>
    obtain ⟨rfl, rfl⟩ := hrel
    go_wp2_with fail
    go_end0
    exact ⟨rfl, rfl⟩
set_option maxHeartbeats 1000000 in
theorem intact11 : Idle 106 12 (.bool true) := by
  intro bk w h
  go_enter Tryz.func106, Tryz.ntmps106
  go_wp2_with fail
  go_loopw [3] (fun i wr => i = .int .i64 0 ∧ wr = w) (fun i _ => 0)
  case atStart => exact ⟨rfl, rfl⟩
  case round =>
    obtain ⟨rfl, rfl⟩ := hrel
    go_wp2_with fail
    go_ret
    exact ⟨rfl, rfl⟩
set_option maxHeartbeats 1000000 in
theorem fill11 : Idle 43 12 (.tuple #[]) := by
  intro bk w h
  go_enter Tryz.func43, Tryz.ntmps43
  go_wp2_with fail
  go_loopw [2] (fun i wr => i = .int .i64 0 ∧ wr = w) (fun i _ => 0)
  case atStart => exact ⟨rfl, rfl⟩
  case round =>
    obtain ⟨rfl, rfl⟩ := hrel
    go_wp2_with fail
    go_end0
    exact ⟨rfl, rfl⟩
set_option maxHeartbeats 1000000 in
theorem grow11 : Idle 63 12 (.tuple #[]) := by
  intro bk w h
  go_enter Tryz.func63, Tryz.ntmps63
  go_wp2_with fail
  go_loopw [2] (fun i wr => i = .int .i64 0 ∧ wr = w) (fun i _ => 0)
  case atStart => exact ⟨rfl, rfl⟩
  case round =>
    obtain ⟨rfl, rfl⟩ := hrel
    go_wp2_with fail
    go_end0
    exact ⟨rfl, rfl⟩
set_option maxHeartbeats 1000000 in
theorem intact12 : Idle 107 13 (.bool true) := by
  intro bk w h
  go_enter Tryz.func107, Tryz.ntmps107
  go_wp2_with fail
  go_loopw [3] (fun i wr => i = .int .i64 0 ∧ wr = w) (fun i _ => 0)
  case atStart => exact ⟨rfl, rfl⟩
  case round =>
    obtain ⟨rfl, rfl⟩ := hrel
    go_wp2_with fail
    go_ret
    exact ⟨rfl, rfl⟩
set_option maxHeartbeats 1000000 in
theorem fill12 : Idle 44 13 (.tuple #[]) := by
  intro bk w h
  go_enter Tryz.func44, Tryz.ntmps44
  go_wp2_with fail
  go_loopw [2] (fun i wr => i = .int .i64 0 ∧ wr = w) (fun i _ => 0)
  case atStart => exact ⟨rfl, rfl⟩
  case round =>
    obtain ⟨rfl, rfl⟩ := hrel
    go_wp2_with fail
    go_end0
    exact ⟨rfl, rfl⟩
set_option maxHeartbeats 1000000 in
theorem grow12 : Idle 64 13 (.tuple #[]) := by
  intro bk w h
  go_enter Tryz.func64, Tryz.ntmps64
  go_wp2_with fail
  go_loopw [2] (fun i wr => i = .int .i64 0 ∧ wr = w) (fun i _ => 0)
  case atStart => exact ⟨rfl, rfl⟩
  case round =>
    obtain ⟨rfl, rfl⟩ := hrel
    go_wp2_with fail
    go_end0
    exact ⟨rfl, rfl⟩
set_option maxHeartbeats 1000000 in
theorem intact13 : Idle 108 14 (.bool true) := by
  intro bk w h
  go_enter Tryz.func108, Tryz.ntmps108
  go_wp2_with fail
  go_loopw [3] (fun i wr => i = .int .i64 0 ∧ wr = w) (fun i _ => 0)
  case atStart => exact ⟨rfl, rfl⟩
  case round =>
    obtain ⟨rfl, rfl⟩ := hrel
    go_wp2_with fail
    go_ret
    exact ⟨rfl, rfl⟩
set_option maxHeartbeats 1000000 in
theorem fill13 : Idle 45 14 (.tuple #[]) := by
  intro bk w h
  go_enter Tryz.func45, Tryz.ntmps45
  go_wp2_with fail
  go_loopw [2] (fun i wr => i = .int .i64 0 ∧ wr = w) (fun i _ => 0)
  case atStart => exact ⟨rfl, rfl⟩
  case round =>
    obtain ⟨rfl, rfl⟩ := hrel
    go_wp2_with fail
    go_end0
    exact ⟨rfl, rfl⟩
set_option maxHeartbeats 1000000 in
theorem grow13 : Idle 65 14 (.tuple #[]) := by
  intro bk w h
  go_enter Tryz.func65, Tryz.ntmps65
  go_wp2_with fail
  go_loopw [2] (fun i wr => i = .int .i64 0 ∧ wr = w) (fun i _ => 0)
  case atStart => exact ⟨rfl, rfl⟩
  case round =>
    obtain ⟨rfl, rfl⟩ := hrel
    go_wp2_with fail
    go_end0
    exact ⟨rfl, rfl⟩
set_option maxHeartbeats 1000000 in
theorem intact14 : Idle 109 15 (.bool true) := by
  intro bk w h
  go_enter Tryz.func109, Tryz.ntmps109
  go_wp2_with fail
  go_loopw [3] (fun i wr => i = .int .i64 0 ∧ wr = w) (fun i _ => 0)
  case atStart => exact ⟨rfl, rfl⟩
  case round =>
    obtain ⟨rfl, rfl⟩ := hrel
    go_wp2_with fail
    go_ret
    exact ⟨rfl, rfl⟩
set_option maxHeartbeats 1000000 in
theorem fill14 : Idle 46 15 (.tuple #[]) := by
  intro bk w h
  go_enter Tryz.func46, Tryz.ntmps46
  go_wp2_with fail
  go_loopw [2] (fun i wr => i = .int .i64 0 ∧ wr = w) (fun i _ => 0)
  case atStart => exact ⟨rfl, rfl⟩
  case round =>
    obtain ⟨rfl, rfl⟩ := hrel
    go_wp2_with fail
    go_end0
    exact ⟨rfl, rfl⟩
set_option maxHeartbeats 1000000 in
theorem grow14 : Idle 66 15 (.tuple #[]) := by
  intro bk w h
  go_enter Tryz.func66, Tryz.ntmps66
  go_wp2_with fail
  go_loopw [2] (fun i wr => i = .int .i64 0 ∧ wr = w) (fun i _ => 0)
  case atStart => exact ⟨rfl, rfl⟩
  case round =>
    obtain ⟨rfl, rfl⟩ := hrel
    go_wp2_with fail
    go_end0
    exact ⟨rfl, rfl⟩
set_option maxHeartbeats 1000000 in
theorem intact15 : Idle 110 16 (.bool true) := by
  intro bk w h
  go_enter Tryz.func110, Tryz.ntmps110
  go_wp2_with fail
  go_loopw [3] (fun i wr => i = .int .i64 0 ∧ wr = w) (fun i _ => 0)
  case atStart => exact ⟨rfl, rfl⟩
  case round =>
    obtain ⟨rfl, rfl⟩ := hrel
    go_wp2_with fail
    go_ret
    exact ⟨rfl, rfl⟩
set_option maxHeartbeats 1000000 in
theorem fill15 : Idle 47 16 (.tuple #[]) := by
  intro bk w h
  go_enter Tryz.func47, Tryz.ntmps47
  go_wp2_with fail
  go_loopw [2] (fun i wr => i = .int .i64 0 ∧ wr = w) (fun i _ => 0)
  case atStart => exact ⟨rfl, rfl⟩
  case round =>
    obtain ⟨rfl, rfl⟩ := hrel
    go_wp2_with fail
    go_end0
    exact ⟨rfl, rfl⟩
set_option maxHeartbeats 1000000 in
theorem grow15 : Idle 67 16 (.tuple #[]) := by
  intro bk w h
  go_enter Tryz.func67, Tryz.ntmps67
  go_wp2_with fail
  go_loopw [2] (fun i wr => i = .int .i64 0 ∧ wr = w) (fun i _ => 0)
  case atStart => exact ⟨rfl, rfl⟩
  case round =>
    obtain ⟨rfl, rfl⟩ := hrel
    go_wp2_with fail
    go_end0
    exact ⟨rfl, rfl⟩
set_option maxHeartbeats 1000000 in
theorem intact16 : Idle 111 17 (.bool true) := by
  intro bk w h
  go_enter Tryz.func111, Tryz.ntmps111
  go_wp2_with fail
  go_loopw [3] (fun i wr => i = .int .i64 0 ∧ wr = w) (fun i _ => 0)
  case atStart => exact ⟨rfl, rfl⟩
  case round =>
    obtain ⟨rfl, rfl⟩ := hrel
    go_wp2_with fail
    go_ret
    exact ⟨rfl, rfl⟩
set_option maxHeartbeats 1000000 in
theorem fill16 : Idle 48 17 (.tuple #[]) := by
  intro bk w h
  go_enter Tryz.func48, Tryz.ntmps48
  go_wp2_with fail
  go_loopw [2] (fun i wr => i = .int .i64 0 ∧ wr = w) (fun i _ => 0)
  case atStart => exact ⟨rfl, rfl⟩
  case round =>
    obtain ⟨rfl, rfl⟩ := hrel
    go_wp2_with fail
    go_end0
    exact ⟨rfl, rfl⟩
set_option maxHeartbeats 1000000 in
theorem grow16 : Idle 68 17 (.tuple #[]) := by
  intro bk w h
  go_enter Tryz.func68, Tryz.ntmps68
  go_wp2_with fail
  go_loopw [2] (fun i wr => i = .int .i64 0 ∧ wr = w) (fun i _ => 0)
  case atStart => exact ⟨rfl, rfl⟩
  case round =>
    obtain ⟨rfl, rfl⟩ := hrel
    go_wp2_with fail
    go_end0
    exact ⟨rfl, rfl⟩
set_option maxHeartbeats 1000000 in
theorem intact17 : Idle 112 18 (.bool true) := by
  intro bk w h
  go_enter Tryz.func112, Tryz.ntmps112
  go_wp2_with fail
  go_loopw [3] (fun i wr => i = .int .i64 0 ∧ wr = w) (fun i _ => 0)
  case atStart => exact ⟨rfl, rfl⟩
  case round =>
    obtain ⟨rfl, rfl⟩ := hrel
    go_wp2_with fail
    go_ret
    exact ⟨rfl, rfl⟩
set_option maxHeartbeats 1000000 in
theorem fill17 : Idle 49 18 (.tuple #[]) := by
  intro bk w h
  go_enter Tryz.func49, Tryz.ntmps49
  go_wp2_with fail
  go_loopw [2] (fun i wr => i = .int .i64 0 ∧ wr = w) (fun i _ => 0)
  case atStart => exact ⟨rfl, rfl⟩
  case round =>
    obtain ⟨rfl, rfl⟩ := hrel
    go_wp2_with fail
    go_end0
    exact ⟨rfl, rfl⟩
set_option maxHeartbeats 1000000 in
theorem grow17 : Idle 69 18 (.tuple #[]) := by
  intro bk w h
  go_enter Tryz.func69, Tryz.ntmps69
  go_wp2_with fail
  go_loopw [2] (fun i wr => i = .int .i64 0 ∧ wr = w) (fun i _ => 0)
  case atStart => exact ⟨rfl, rfl⟩
  case round =>
    obtain ⟨rfl, rfl⟩ := hrel
    go_wp2_with fail
    go_end0
    exact ⟨rfl, rfl⟩
set_option maxHeartbeats 1000000 in
theorem intact18 : Idle 113 19 (.bool true) := by
  intro bk w h
  go_enter Tryz.func113, Tryz.ntmps113
  go_wp2_with fail
  go_loopw [3] (fun i wr => i = .int .i64 0 ∧ wr = w) (fun i _ => 0)
  case atStart => exact ⟨rfl, rfl⟩
  case round =>
    obtain ⟨rfl, rfl⟩ := hrel
    go_wp2_with fail
    go_ret
    exact ⟨rfl, rfl⟩
set_option maxHeartbeats 1000000 in
theorem fill18 : Idle 50 19 (.tuple #[]) := by
  intro bk w h
  go_enter Tryz.func50, Tryz.ntmps50
  go_wp2_with fail
  go_loopw [2] (fun i wr => i = .int .i64 0 ∧ wr = w) (fun i _ => 0)
  case atStart => exact ⟨rfl, rfl⟩
  case round =>
    obtain ⟨rfl, rfl⟩ := hrel
    go_wp2_with fail
    go_end0
    exact ⟨rfl, rfl⟩
set_option maxHeartbeats 1000000 in
theorem grow18 : Idle 70 19 (.tuple #[]) := by
  intro bk w h
  go_enter Tryz.func70, Tryz.ntmps70
  go_wp2_with fail
  go_loopw [2] (fun i wr => i = .int .i64 0 ∧ wr = w) (fun i _ => 0)
  case atStart => exact ⟨rfl, rfl⟩
  case round =>
    obtain ⟨rfl, rfl⟩ := hrel
    go_wp2_with fail
    go_end0
    exact ⟨rfl, rfl⟩
set_option maxHeartbeats 1000000 in
theorem intact19 : Idle 114 20 (.bool true) := by
  intro bk w h
  go_enter Tryz.func114, Tryz.ntmps114
  go_wp2_with fail
  go_loopw [3] (fun i wr => i = .int .i64 0 ∧ wr = w) (fun i _ => 0)
  case atStart => exact ⟨rfl, rfl⟩
  case round =>
    obtain ⟨rfl, rfl⟩ := hrel
    go_wp2_with fail
    go_ret
    exact ⟨rfl, rfl⟩
set_option maxHeartbeats 1000000 in
theorem fill19 : Idle 51 20 (.tuple #[]) := by
  intro bk w h
  go_enter Tryz.func51, Tryz.ntmps51
  go_wp2_with fail
  go_loopw [2] (fun i wr => i = .int .i64 0 ∧ wr = w) (fun i _ => 0)
  case atStart => exact ⟨rfl, rfl⟩
  case round =>
    obtain ⟨rfl, rfl⟩ := hrel
    go_wp2_with fail
    go_end0
    exact ⟨rfl, rfl⟩
set_option maxHeartbeats 1000000 in
theorem grow19 : Idle 71 20 (.tuple #[]) := by
  intro bk w h
  go_enter Tryz.func71, Tryz.ntmps71
  go_wp2_with fail
  go_loopw [2] (fun i wr => i = .int .i64 0 ∧ wr = w) (fun i _ => 0)
  case atStart => exact ⟨rfl, rfl⟩
  case round =>
    obtain ⟨rfl, rfl⟩ := hrel
    go_wp2_with fail
    go_end0
    exact ⟨rfl, rfl⟩
end Go.Proofs.YtmgnlgobkkfjhaaGreatDoor.Kg
/- The book of the law: its next number, the pages of days, nothing of the other kinds. By tools/kb1.py. -/
namespace Go.Proofs.YtmgnlgobkkfjhaaGreatDoor.Kg
open Go Go.Shelf Go.ChangeShapes Go.WideShapes Go.ChangeAt Go.RowKit Go.Maps
set_option linter.unusedVariables false
/-- what a change of some blocks leaves -/
structure Sep (w w' : World) (S S' : Nat → Prop) : Prop where
  os : w'.os = w.os
  tape : w'.tape = w.tape
  output : w'.output = w.output
  size : w.heap.size ≤ w'.heap.size
  block : ∀ q, q < w.heap.size → ¬ S q → w'.heap[q]? = w.heap[q]?
  new : ∀ q, S' q → S q ∨ w.heap.size ≤ q
theorem Sep.trans {a b c : World} {S S' S'' : Nat → Prop} (h : Sep a b S S') (k : Sep b c S' S'') : Sep a c S S'' :=
  ⟨k.os.trans h.os, k.tape.trans h.tape, k.output.trans h.output, Nat.le_trans h.size k.size, fun q hq hn => (k.block q (Nat.lt_of_lt_of_le hq h.size) (fun e => (h.new q e).elim hn (fun e => by omega))).trans (h.block q hq hn), fun q hq => (k.new q hq).elim (fun e => h.new q e) (fun e => .inr (Nat.le_trans h.size e))⟩
theorem Sep.of_below {w w' : World} (U : Nat → Prop) (h : Below w.heap.size w w') : Sep w w' U U := ⟨h.os, h.tape, h.output, h.size, fun q hq _ => h.block q hq, fun q hq => .inl hq⟩
theorem Sep.below {w w' : World} {S S' : Nat → Prop} {B : Nat} (h : Sep w w' S S') (hS : ∀ q, S q → B ≤ q) (hB : B ≤ w.heap.size) : Below B w w' := ⟨h.os, h.tape, h.output, h.size, fun q hq => h.block q (Nat.lt_of_lt_of_le hq hB) (fun e => by have := hS q e; omega)⟩
structure KBIs (w : World) (bk k m1 : Nat) (R1 : Value) (p1 : Nat → Pg Dq) (U : Nat → Prop) : Prop where
  c0 : w.cell? ⟨bk, 0, none⟩ = some (.int .i64 (k : Int))
  b1 : KindAt zQ w bk m1 R1 p1
  l1 : m1 ≤ 96
  lk : k ≤ m1
  bare : ∀ j, 1 ≤ j → j ≤ 20 → j ≠ 11 → w.cell? ⟨bk, j, none⟩ = some (.slice none 0 0)
  u1 : ∀ q, Fp R1 p1 m1 q → U q
  ul : ∀ q, U q → q ≠ bk ∧ 2 ≤ q ∧ q < w.heap.size
theorem KindAt.on {α : Type} {Z : Kk α} {w w' : World} {bk m : Nat} {R : Value} {p : Nat → Pg α} (h : KindAt Z w bk m R p) (hz : w.heap.size ≤ w'.heap.size) (c1 : w'.cell? ⟨bk, Z.sl, none⟩ = w.cell? ⟨bk, Z.sl, none⟩) (cf : ∀ j, w'.frozen? ⟨bk, j, none⟩ = w.frozen? ⟨bk, j, none⟩) (hq : ∀ q, Fp R p m q → w'.heap[q]? = w.heap[q]?) (ht : w'.heap[1]? = w.heap[1]?) : KindAt Z w' bk m R p :=
  ⟨c1.trans h.c1, fun i => (cf i).trans (h.fz i), row_far h.row (fun q e => hq q (.inl e)), h.rb, fun i hi => (h.ok i hi).far hz (fun q e => hq q (.inr ⟨i, hi, e⟩)), fun i hi q e => ⟨(h.far i hi q e).1, (h.far i hi q e).2.1, by have := (h.far i hi q e).2.2; omega⟩, h.apart, h.tab.keep ht, h.b3, h.r3, h.p3⟩
theorem KBIs.on {w w' : World} {bk k m1 : Nat} {R1 : Value} {p1 : Nat → Pg Dq} {U : Nat → Prop} (h : KBIs w bk k m1 R1 p1 U) (hz : w.heap.size ≤ w'.heap.size) (hc : ∀ j, w'.cell? ⟨bk, j, none⟩ = w.cell? ⟨bk, j, none⟩) (cf : ∀ j, w'.frozen? ⟨bk, j, none⟩ = w.frozen? ⟨bk, j, none⟩) (h1 : w'.heap[1]? = w.heap[1]?) (hU : ∀ q, U q → w'.heap[q]? = w.heap[q]?) : KBIs w' bk k m1 R1 p1 U :=
  ⟨(hc 0).trans h.c0, h.b1.on hz (hc 11) cf (fun q hq => hU q (h.u1 q hq)) h1, h.l1, h.lk, fun j a b c => (hc j).trans (h.bare j a b c), h.u1, fun q hq => ⟨(h.ul q hq).1, (h.ul q hq).2.1, Nat.lt_of_lt_of_le (h.ul q hq).2.2 hz⟩⟩
theorem KBIs.below {w w' : World} {bk k m1 : Nat} {R1 : Value} {p1 : Nat → Pg Dq} {U : Nat → Prop} (h : KBIs w bk k m1 R1 p1 U) (hb : Below w.heap.size w w') : KBIs w' bk k m1 R1 p1 U :=
  h.on hb.size (fun j => World.cell?_of_block (hb.block bk h.b1.lt)) (fun j => World.frozen?_of_block (hb.block bk h.b1.lt)) (hb.block 1 h.b1.tab.lt) (fun q hq => hb.block q (h.ul q hq).2.2)
theorem KBIs.went1 {w w' : World} {bk k m1 : Nat} {R1 : Value} {p1 : Nat → Pg Dq} {U : Nat → Prop} {p' : Nat → Pg Dq} (h : KBIs w bk k m1 R1 p1 U) (hw : Went zQ w w' bk m1 R1 p1 p') : KBIs w' bk k m1 R1 p' (fun q => U q ∨ (w.heap.size ≤ q ∧ q < w'.heap.size)) ∧ Sep w w' U (fun q => U q ∨ (w.heap.size ≤ q ∧ q < w'.heap.size)) := by
  have hz := hw.2.1.size
  have hbl := h.b1.lt
  have hbk : w'.heap[bk]? = w.heap[bk]? := hw.far (fun hq => (h.b1.fp hq).1 rfl) hbl
  have cc : ∀ j, w'.cell? ⟨bk, j, none⟩ = w.cell? ⟨bk, j, none⟩ := fun j => World.cell?_of_block hbk
  refine ⟨⟨(cc 0).trans h.c0, hw.1, h.l1, h.lk, fun j a b c => (cc j).trans (h.bare j a b c), (fun q hq => (hw.fp hq).imp (h.u1 q) (fun e => ⟨e, (hw.1.fp hq).2⟩)), ?_⟩, ⟨hw.2.1.os, hw.2.1.tape, hw.2.1.output, hz, fun q hq hU => hw.far (fun e => hU (h.u1 q e)) hq, fun q hq => hq.imp id (fun e => e.1)⟩⟩
  rintro q (hq | hq)
  · exact ⟨(h.ul q hq).1, (h.ul q hq).2.1, Nat.lt_of_lt_of_le (h.ul q hq).2.2 hz⟩
  · have := h.b1.tab.lt
    exact ⟨by omega, by omega, hq.2⟩
/-- a book took a list: what became of the rest -/
structure Took (w w' : World) (bk : Nat) (U U' : Nat → Prop) (L : Value) : Prop where
  size : w.heap.size ≤ w'.heap.size
  os : w'.os = w.os
  tape : w'.tape = w.tape
  output : w'.output = w.output
  block : ∀ q, q < w.heap.size → q ≠ bk → ¬ U q → L.ownBlock ≠ some q → w'.heap[q]? = w.heap[q]?
  new : ∀ q, U' q → U q ∨ L.ownBlock = some q ∨ w.heap.size ≤ q
theorem Took.refl (w : World) (bk : Nat) (U : Nat → Prop) (L : Value) : Took w w bk U U L := ⟨Nat.le_refl _, rfl, rfl, rfl, fun _ _ _ _ _ => rfl, fun _ h => .inl h⟩
theorem KBIs.more1 {w w' : World} {bk k m1 : Nat} {R1 : Value} {p1 : Nat → Pg Dq} {U : Nat → Prop} {L : Value} {s : Nat} (h : KBIs w bk k m1 R1 p1 U) (hm : m1 < 96) (hL : ∀ q, L.ownBlock = some q → q ≠ bk ∧ 2 ≤ q ∧ q < w.heap.size ∧ ¬ U q) (hw : More zQ w w' bk m1 k R1 p1 L s) : ∃ R' P, P.s = s ∧ KBIs w' bk (k + 1) (m1 + 1) R' (upd p1 m1 P) (fun q => U q ∨ L.ownBlock = some q ∨ (w.heap.size ≤ q ∧ q < w'.heap.size)) ∧ Took w w' bk U (fun q => U q ∨ L.ownBlock = some q ∨ (w.heap.size ≤ q ∧ q < w'.heap.size)) L := by
  obtain ⟨R', P, hs, hk, c0, ci, hfp, hz, os, tp, ou, hblk⟩ := hw
  have hbl := h.b1.lt
  refine ⟨R', P, hs, ⟨by rw [c0]; simp, hk, by omega, by have := h.lk; omega, fun j a b c => (ci j (by omega) c).trans (h.bare j a b c), (fun q hq => (hfp q hq).imp (h.u1 q) (fun e => e.imp id (fun e => ⟨e, (hk.fp hq).2⟩))), ?_⟩, ⟨hz, os, tp, ou, fun q h1 h2 h3 h4 => hblk q h1 h2 (fun e => h3 (h.u1 q e)) h4, fun q hq => hq.imp id (fun e => e.imp id (fun e => e.1))⟩⟩
  rintro q (hq | hq | hq)
  · exact ⟨(h.ul q hq).1, (h.ul q hq).2.1, Nat.lt_of_lt_of_le (h.ul q hq).2.2 hz⟩
  · exact ⟨(hL q hq).1, (hL q hq).2.1, Nat.lt_of_lt_of_le (hL q hq).2.2.1 hz⟩
  · have := h.b1.tab.lt
    exact ⟨by omega, by omega, hq.2⟩
end Go.Proofs.YtmgnlgobkkfjhaaGreatDoor.Kg
/- The book of the law: all of it looked at (31). By tools/kb1.py. -/
namespace Go.Proofs.YtmgnlgobkkfjhaaGreatDoor.Kg
open Go Go.Shelf Go.ChangeShapes Go.WideShapes Go.ChangeAt Go.RowKit Go.Maps
set_option linter.unusedVariables false
set_option maxRecDepth 100000 in
set_option maxHeartbeats 8000000 in
theorem KBIs.intact {w : World} {bk k m1 : Nat} {R1 : Value} {p1 : Nat → Pg Dq} {U : Nat → Prop} (h : KBIs w bk k m1 R1 p1 U) (s1 : ∀ i, i < m1 → (p1 i).s ≠ 1) : Calls Tryz.prog 31 #[.pointer (some ⟨bk, 0, none⟩)] w fun e w' => e = .returned (.bool true) ∧ Below w.heap.size w w' := by
  have H0 := hide h
  have B0 : Hid (Below w.heap.size w w) := Below.refl _ _
  have S1 := hide s1
  clear h s1
  go_enter Tryz.func31, Tryz.ntmps31
  go_wp2_with fail
  refine (intact0 bk w ((unhide H0).bare 1 (by omega) (by omega) (by omega))).mono ?_
  rintro e wz ⟨rfl, hw⟩
  rw [hw]
  clear hw wz
  go_wp2_with fail
  refine (intact1 bk w ((unhide H0).bare 2 (by omega) (by omega) (by omega))).mono ?_
  rintro e wz ⟨rfl, hw⟩
  rw [hw]
  clear hw wz
  go_wp2_with fail
  refine (intact2 bk w ((unhide H0).bare 3 (by omega) (by omega) (by omega))).mono ?_
  rintro e wz ⟨rfl, hw⟩
  rw [hw]
  clear hw wz
  go_wp2_with fail
  refine (intact3 bk w ((unhide H0).bare 4 (by omega) (by omega) (by omega))).mono ?_
  rintro e wz ⟨rfl, hw⟩
  rw [hw]
  clear hw wz
  go_wp2_with fail
  refine (intact4 bk w ((unhide H0).bare 5 (by omega) (by omega) (by omega))).mono ?_
  rintro e wz ⟨rfl, hw⟩
  rw [hw]
  clear hw wz
  go_wp2_with fail
  refine (intact5 bk w ((unhide H0).bare 6 (by omega) (by omega) (by omega))).mono ?_
  rintro e wz ⟨rfl, hw⟩
  rw [hw]
  clear hw wz
  go_wp2_with fail
  refine (intact6 bk w ((unhide H0).bare 7 (by omega) (by omega) (by omega))).mono ?_
  rintro e wz ⟨rfl, hw⟩
  rw [hw]
  clear hw wz
  go_wp2_with fail
  refine (intact7 bk w ((unhide H0).bare 8 (by omega) (by omega) (by omega))).mono ?_
  rintro e wz ⟨rfl, hw⟩
  rw [hw]
  clear hw wz
  go_wp2_with fail
  refine (intact8 bk w ((unhide H0).bare 9 (by omega) (by omega) (by omega))).mono ?_
  rintro e wz ⟨rfl, hw⟩
  rw [hw]
  clear hw wz
  go_wp2_with fail
  refine (intact9 bk w ((unhide H0).bare 10 (by omega) (by omega) (by omega))).mono ?_
  rintro e wz ⟨rfl, hw⟩
  rw [hw]
  clear hw wz
  go_wp2_with fail
  refine (intactQ (unhide H0).b1 (unhide H0).l1 (unhide S1)).mono ?_
  rintro e w1 ⟨rfl, hb⟩
  have H1 := hide ((unhide H0).below hb)
  have B1 : Hid (Below w.heap.size w w1) := (unhide B0).trans (hb.mono (unhide B0).size)
  clear hb
  go_wp2_with fail
  refine (intact11 bk w1 ((unhide H1).bare 12 (by omega) (by omega) (by omega))).mono ?_
  rintro e wz ⟨rfl, hw⟩
  rw [hw]
  clear hw wz
  go_wp2_with fail
  refine (intact12 bk w1 ((unhide H1).bare 13 (by omega) (by omega) (by omega))).mono ?_
  rintro e wz ⟨rfl, hw⟩
  rw [hw]
  clear hw wz
  go_wp2_with fail
  refine (intact13 bk w1 ((unhide H1).bare 14 (by omega) (by omega) (by omega))).mono ?_
  rintro e wz ⟨rfl, hw⟩
  rw [hw]
  clear hw wz
  go_wp2_with fail
  refine (intact14 bk w1 ((unhide H1).bare 15 (by omega) (by omega) (by omega))).mono ?_
  rintro e wz ⟨rfl, hw⟩
  rw [hw]
  clear hw wz
  go_wp2_with fail
  refine (intact15 bk w1 ((unhide H1).bare 16 (by omega) (by omega) (by omega))).mono ?_
  rintro e wz ⟨rfl, hw⟩
  rw [hw]
  clear hw wz
  go_wp2_with fail
  refine (intact16 bk w1 ((unhide H1).bare 17 (by omega) (by omega) (by omega))).mono ?_
  rintro e wz ⟨rfl, hw⟩
  rw [hw]
  clear hw wz
  go_wp2_with fail
  refine (intact17 bk w1 ((unhide H1).bare 18 (by omega) (by omega) (by omega))).mono ?_
  rintro e wz ⟨rfl, hw⟩
  rw [hw]
  clear hw wz
  go_wp2_with fail
  refine (intact18 bk w1 ((unhide H1).bare 19 (by omega) (by omega) (by omega))).mono ?_
  rintro e wz ⟨rfl, hw⟩
  rw [hw]
  clear hw wz
  go_wp2_with fail
  refine (intact19 bk w1 ((unhide H1).bare 20 (by omega) (by omega) (by omega))).mono ?_
  rintro e wz ⟨rfl, hw⟩
  rw [hw]
  clear hw wz
  go_wp2_with fail
  go_ret
  exact ⟨rfl, unhide B1⟩
end Go.Proofs.YtmgnlgobkkfjhaaGreatDoor.Kg
