import Derived.Test.YtpeefmbdhkfhmaaGreatDoorW05
import Derived.Test.YtpeefmbdhkfhmaaGreatDoorW30
import Derived.Test.YtpeefmbdhkfhmaaGreatDoorW33
/- The keeper's lists of the other kinds, of which none is kept: looked at, filled, grown. By tools/genkb.py. -/
namespace Go.Proofs.YtpeefmbdhkfhmaaGreatDoor.Kg
open Go Go.Shelf Go.ChangeShapes Go.WideShapes Go.ChangeAt Go.RowKit Go.Maps
set_option linter.unusedVariables false
/-- a kind of which nothing is kept -/
def Idle (f j : Nat) (v : Value) : Prop := ∀ (bk : Nat) (w : World), w.cell? ⟨bk, j, none⟩ = some (.slice none 0 0) → Calls Tryz.prog f #[.pointer (some ⟨bk, 0, none⟩)] w fun e w' => e = .returned v ∧ w' = w
set_option maxHeartbeats 1000000 in
theorem intact0 : Idle 106 1 (.bool true) := by
  intro bk w h
  go_enter Tryz.func106, Tryz.ntmps106
  go_wp2_with fail
  go_loopw [3] (fun i wr => i = .int .i64 0 ∧ wr = w) (fun i _ => 0)
  case atStart => exact ⟨rfl, rfl⟩
  case round =>
    obtain ⟨rfl, rfl⟩ := hrel
    go_wp2_with fail
    go_ret
    exact ⟨rfl, rfl⟩
set_option maxHeartbeats 1000000 in
theorem fill0 : Idle 39 1 (.tuple #[]) := by
  intro bk w h
  go_enter Tryz.func39, Tryz.ntmps39
  go_wp2_with fail
  go_loopw [2] (fun i wr => i = .int .i64 0 ∧ wr = w) (fun i _ => 0)
  case atStart => exact ⟨rfl, rfl⟩
  case round =>
    obtain ⟨rfl, rfl⟩ := hrel
    go_wp2_with fail
    go_end0
    exact ⟨rfl, rfl⟩
set_option maxHeartbeats 1000000 in
theorem grow0 : Idle 59 1 (.tuple #[]) := by
  intro bk w h
  go_enter Tryz.func59, Tryz.ntmps59
  go_wp2_with fail
  go_loopw [2] (fun i wr => i = .int .i64 0 ∧ wr = w) (fun i _ => 0)
  case atStart => exact ⟨rfl, rfl⟩
  case round =>
    obtain ⟨rfl, rfl⟩ := hrel
    go_wp2_with fail
    go_end0
    exact ⟨rfl, rfl⟩
set_option maxHeartbeats 1000000 in
theorem intact1 : Idle 107 2 (.bool true) := by
  intro bk w h
  go_enter Tryz.func107, Tryz.ntmps107
  go_wp2_with fail
  go_loopw [3] (fun i wr => i = .int .i64 0 ∧ wr = w) (fun i _ => 0)
  case atStart => exact ⟨rfl, rfl⟩
  case round =>
    obtain ⟨rfl, rfl⟩ := hrel
    go_wp2_with fail
    go_ret
    exact ⟨rfl, rfl⟩
set_option maxHeartbeats 1000000 in
theorem fill1 : Idle 40 2 (.tuple #[]) := by
  intro bk w h
  go_enter Tryz.func40, Tryz.ntmps40
  go_wp2_with fail
  go_loopw [2] (fun i wr => i = .int .i64 0 ∧ wr = w) (fun i _ => 0)
  case atStart => exact ⟨rfl, rfl⟩
  case round =>
    obtain ⟨rfl, rfl⟩ := hrel
    go_wp2_with fail
    go_end0
    exact ⟨rfl, rfl⟩
set_option maxHeartbeats 1000000 in
theorem grow1 : Idle 60 2 (.tuple #[]) := by
  intro bk w h
  go_enter Tryz.func60, Tryz.ntmps60
  go_wp2_with fail
  go_loopw [2] (fun i wr => i = .int .i64 0 ∧ wr = w) (fun i _ => 0)
  case atStart => exact ⟨rfl, rfl⟩
  case round =>
    obtain ⟨rfl, rfl⟩ := hrel
    go_wp2_with fail
    go_end0
    exact ⟨rfl, rfl⟩
set_option maxHeartbeats 1000000 in
theorem intact2 : Idle 108 3 (.bool true) := by
  intro bk w h
  go_enter Tryz.func108, Tryz.ntmps108
  go_wp2_with fail
  go_loopw [3] (fun i wr => i = .int .i64 0 ∧ wr = w) (fun i _ => 0)
  case atStart => exact ⟨rfl, rfl⟩
  case round =>
    obtain ⟨rfl, rfl⟩ := hrel
    go_wp2_with fail
    go_ret
    exact ⟨rfl, rfl⟩
set_option maxHeartbeats 1000000 in
theorem fill2 : Idle 41 3 (.tuple #[]) := by
  intro bk w h
  go_enter Tryz.func41, Tryz.ntmps41
  go_wp2_with fail
  go_loopw [2] (fun i wr => i = .int .i64 0 ∧ wr = w) (fun i _ => 0)
  case atStart => exact ⟨rfl, rfl⟩
  case round =>
    obtain ⟨rfl, rfl⟩ := hrel
    go_wp2_with fail
    go_end0
    exact ⟨rfl, rfl⟩
set_option maxHeartbeats 1000000 in
theorem grow2 : Idle 61 3 (.tuple #[]) := by
  intro bk w h
  go_enter Tryz.func61, Tryz.ntmps61
  go_wp2_with fail
  go_loopw [2] (fun i wr => i = .int .i64 0 ∧ wr = w) (fun i _ => 0)
  case atStart => exact ⟨rfl, rfl⟩
  case round =>
    obtain ⟨rfl, rfl⟩ := hrel
    go_wp2_with fail
    go_end0
    exact ⟨rfl, rfl⟩
set_option maxHeartbeats 1000000 in
theorem intact3 : Idle 109 4 (.bool true) := by
  intro bk w h
  go_enter Tryz.func109, Tryz.ntmps109
  go_wp2_with fail
  go_loopw [3] (fun i wr => i = .int .i64 0 ∧ wr = w) (fun i _ => 0)
  case atStart => exact ⟨rfl, rfl⟩
  case round =>
    obtain ⟨rfl, rfl⟩ := hrel
    go_wp2_with fail
    go_ret
    exact ⟨rfl, rfl⟩
set_option maxHeartbeats 1000000 in
theorem fill3 : Idle 42 4 (.tuple #[]) := by
  intro bk w h
  go_enter Tryz.func42, Tryz.ntmps42
  go_wp2_with fail
  go_loopw [2] (fun i wr => i = .int .i64 0 ∧ wr = w) (fun i _ => 0)
  case atStart => exact ⟨rfl, rfl⟩
  case round =>
    obtain ⟨rfl, rfl⟩ := hrel
    go_wp2_with fail
    go_end0
    exact ⟨rfl, rfl⟩
set_option maxHeartbeats 1000000 in
theorem grow3 : Idle 62 4 (.tuple #[]) := by
  intro bk w h
  go_enter Tryz.func62, Tryz.ntmps62
  go_wp2_with fail
  go_loopw [2] (fun i wr => i = .int .i64 0 ∧ wr = w) (fun i _ => 0)
  case atStart => exact ⟨rfl, rfl⟩
  case round =>
    obtain ⟨rfl, rfl⟩ := hrel
    go_wp2_with fail
    go_end0
    exact ⟨rfl, rfl⟩
set_option maxHeartbeats 1000000 in
theorem intact4 : Idle 110 5 (.bool true) := by
  intro bk w h
  go_enter Tryz.func110, Tryz.ntmps110
  go_wp2_with fail
  go_loopw [3] (fun i wr => i = .int .i64 0 ∧ wr = w) (fun i _ => 0)
  case atStart => exact ⟨rfl, rfl⟩
  case round =>
    obtain ⟨rfl, rfl⟩ := hrel
    go_wp2_with fail
    go_ret
    exact ⟨rfl, rfl⟩
set_option maxHeartbeats 1000000 in
theorem fill4 : Idle 43 5 (.tuple #[]) := by
  intro bk w h
  go_enter Tryz.func43, Tryz.ntmps43
  go_wp2_with fail
  go_loopw [2] (fun i wr => i = .int .i64 0 ∧ wr = w) (fun i _ => 0)
  case atStart => exact ⟨rfl, rfl⟩
  case round =>
    obtain ⟨rfl, rfl⟩ := hrel
    go_wp2_with fail
    go_end0
    exact ⟨rfl, rfl⟩
set_option maxHeartbeats 1000000 in
theorem grow4 : Idle 63 5 (.tuple #[]) := by
  intro bk w h
  go_enter Tryz.func63, Tryz.ntmps63
  go_wp2_with fail
  go_loopw [2] (fun i wr => i = .int .i64 0 ∧ wr = w) (fun i _ => 0)
  case atStart => exact ⟨rfl, rfl⟩
  case round =>
    obtain ⟨rfl, rfl⟩ := hrel
    go_wp2_with fail
    go_end0
    exact ⟨rfl, rfl⟩
set_option maxHeartbeats 1000000 in
theorem intact5 : Idle 111 6 (.bool true) := by
  intro bk w h
  go_enter Tryz.func111, Tryz.ntmps111
  go_wp2_with fail
  go_loopw [3] (fun i wr => i = .int .i64 0 ∧ wr = w) (fun i _ => 0)
  case atStart => exact ⟨rfl, rfl⟩
  case round =>
    obtain ⟨rfl, rfl⟩ := hrel
    go_wp2_with fail
    go_ret
    exact ⟨rfl, rfl⟩
set_option maxHeartbeats 1000000 in
theorem fill5 : Idle 44 6 (.tuple #[]) := by
  intro bk w h
  go_enter Tryz.func44, Tryz.ntmps44
  go_wp2_with fail
  go_loopw [2] (fun i wr => i = .int .i64 0 ∧ wr = w) (fun i _ => 0)
  case atStart => exact ⟨rfl, rfl⟩
  case round =>
    obtain ⟨rfl, rfl⟩ := hrel
    go_wp2_with fail
    go_end0
    exact ⟨rfl, rfl⟩
set_option maxHeartbeats 1000000 in
theorem grow5 : Idle 64 6 (.tuple #[]) := by
  intro bk w h
  go_enter Tryz.func64, Tryz.ntmps64
  go_wp2_with fail
  go_loopw [2] (fun i wr => i = .int .i64 0 ∧ wr = w) (fun i _ => 0)
  case atStart => exact ⟨rfl, rfl⟩
  case round =>
    obtain ⟨rfl, rfl⟩ := hrel
    go_wp2_with fail
    go_end0
    exact ⟨rfl, rfl⟩
set_option maxHeartbeats 1000000 in
theorem intact6 : Idle 112 7 (.bool true) := by
  intro bk w h
  go_enter Tryz.func112, Tryz.ntmps112
  go_wp2_with fail
  go_loopw [3] (fun i wr => i = .int .i64 0 ∧ wr = w) (fun i _ => 0)
  case atStart => exact ⟨rfl, rfl⟩
  case round =>
    obtain ⟨rfl, rfl⟩ := hrel
    go_wp2_with fail
    go_ret
    exact ⟨rfl, rfl⟩
set_option maxHeartbeats 1000000 in
theorem fill6 : Idle 45 7 (.tuple #[]) := by
  intro bk w h
  go_enter Tryz.func45, Tryz.ntmps45
  go_wp2_with fail
  go_loopw [2] (fun i wr => i = .int .i64 0 ∧ wr = w) (fun i _ => 0)
  case atStart => exact ⟨rfl, rfl⟩
  case round =>
    obtain ⟨rfl, rfl⟩ := hrel
    go_wp2_with fail
    go_end0
    exact ⟨rfl, rfl⟩
set_option maxHeartbeats 1000000 in
theorem grow6 : Idle 65 7 (.tuple #[]) := by
  intro bk w h
  go_enter Tryz.func65, Tryz.ntmps65
  go_wp2_with fail
  go_loopw [2] (fun i wr => i = .int .i64 0 ∧ wr = w) (fun i _ => 0)
  case atStart => exact ⟨rfl, rfl⟩
  case round =>
    obtain ⟨rfl, rfl⟩ := hrel
    go_wp2_with fail
    go_end0
    exact ⟨rfl, rfl⟩
set_option maxHeartbeats 1000000 in
theorem intact7 : Idle 113 8 (.bool true) := by
  intro bk w h
  go_enter Tryz.func113, Tryz.ntmps113
  go_wp2_with fail
  go_loopw [3] (fun i wr => i = .int .i64 0 ∧ wr = w) (fun i _ => 0)
  case atStart => exact ⟨rfl, rfl⟩
  case round =>
    obtain ⟨rfl, rfl⟩ := hrel
    go_wp2_with fail
    go_ret
    exact ⟨rfl, rfl⟩
set_option maxHeartbeats 1000000 in
theorem fill7 : Idle 46 8 (.tuple #[]) := by
  intro bk w h
  go_enter Tryz.func46, Tryz.ntmps46
  go_wp2_with fail
  go_loopw [2] (fun i wr => i = .int .i64 0 ∧ wr = w) (fun i _ => 0)
  case atStart => exact ⟨rfl, rfl⟩
  case round =>
    obtain ⟨rfl, rfl⟩ := hrel
    go_wp2_with fail
    go_end0
    exact ⟨rfl, rfl⟩
set_option maxHeartbeats 1000000 in
theorem grow7 : Idle 66 8 (.tuple #[]) := by
  intro bk w h
  go_enter Tryz.func66, Tryz.ntmps66
  go_wp2_with fail
  go_loopw [2] (fun i wr => i = .int .i64 0 ∧ wr = w) (fun i _ => 0)
  case atStart => exact ⟨rfl, rfl⟩
  case round =>
    obtain ⟨rfl, rfl⟩ := hrel
    go_wp2_with fail
    go_end0
    exact ⟨rfl, rfl⟩
set_option maxHeartbeats 1000000 in
theorem intact10 : Idle 116 11 (.bool true) := by
  intro bk w h
  go_enter Tryz.func116, Tryz.ntmps116
  go_wp2_with fail
  go_loopw [3] (fun i wr => i = .int .i64 0 ∧ wr = w) (fun i _ => 0)
  case atStart => exact ⟨rfl, rfl⟩
  case round =>
    obtain ⟨rfl, rfl⟩ := hrel
    go_wp2_with fail
    go_ret
    exact ⟨rfl, rfl⟩
set_option maxHeartbeats 1000000 in
theorem fill10 : Idle 49 11 (.tuple #[]) := by
  intro bk w h
  go_enter Tryz.func49, Tryz.ntmps49
  go_wp2_with fail
  go_loopw [2] (fun i wr => i = .int .i64 0 ∧ wr = w) (fun i _ => 0)
  case atStart => exact ⟨rfl, rfl⟩
  case round =>
    obtain ⟨rfl, rfl⟩ := hrel
    go_wp2_with fail
    go_end0
    exact ⟨rfl, rfl⟩
set_option maxHeartbeats 1000000 in
theorem grow10 : Idle 69 11 (.tuple #[]) := by
  intro bk w h
  go_enter Tryz.func69, Tryz.ntmps69
  go_wp2_with fail
  go_loopw [2] (fun i wr => i = .int .i64 0 ∧ wr = w) (fun i _ => 0)
  case atStart => exact ⟨rfl, rfl⟩
  case round =>
    obtain ⟨rfl, rfl⟩ := hrel
    go_wp2_with fail
    go_end0
    exact ⟨rfl, rfl⟩
set_option maxHeartbeats 1000000 in
theorem intact11 : Idle 117 12 (.bool true) := by
  intro bk w h
  go_enter Tryz.func117, Tryz.ntmps117
  go_wp2_with fail
  go_loopw [3] (fun i wr => i = .int .i64 0 ∧ wr = w) (fun i _ => 0)
  case atStart => exact ⟨rfl, rfl⟩
  case round =>
    obtain ⟨rfl, rfl⟩ := hrel
    go_wp2_with fail
    go_ret
    exact ⟨rfl, rfl⟩
set_option maxHeartbeats 1000000 in
theorem fill11 : Idle 50 12 (.tuple #[]) := by
  intro bk w h
  go_enter Tryz.func50, Tryz.ntmps50
  go_wp2_with fail
  go_loopw [2] (fun i wr => i = .int .i64 0 ∧ wr = w) (fun i _ => 0)
  case atStart => exact ⟨rfl, rfl⟩
  case round =>
    obtain ⟨rfl, rfl⟩ := hrel
    go_wp2_with fail
    go_end0
    exact ⟨rfl, rfl⟩
set_option maxHeartbeats 1000000 in
theorem grow11 : Idle 70 12 (.tuple #[]) := by
  intro bk w h
  go_enter Tryz.func70, Tryz.ntmps70
  go_wp2_with fail
  go_loopw [2] (fun i wr => i = .int .i64 0 ∧ wr = w) (fun i _ => 0)
  case atStart => exact ⟨rfl, rfl⟩
  case round =>
    obtain ⟨rfl, rfl⟩ := hrel
    go_wp2_with fail
    go_end0
    exact ⟨rfl, rfl⟩
set_option maxHeartbeats 1000000 in
theorem intact12 : Idle 118 13 (.bool true) := by
  intro bk w h
  go_enter Tryz.func118, Tryz.ntmps118
  go_wp2_with fail
  go_loopw [3] (fun i wr => i = .int .i64 0 ∧ wr = w) (fun i _ => 0)
  case atStart => exact ⟨rfl, rfl⟩
  case round =>
    obtain ⟨rfl, rfl⟩ := hrel
    go_wp2_with fail
    go_ret
    exact ⟨rfl, rfl⟩
set_option maxHeartbeats 1000000 in
theorem fill12 : Idle 51 13 (.tuple #[]) := by
  intro bk w h
  go_enter Tryz.func51, Tryz.ntmps51
  go_wp2_with fail
  go_loopw [2] (fun i wr => i = .int .i64 0 ∧ wr = w) (fun i _ => 0)
  case atStart => exact ⟨rfl, rfl⟩
  case round =>
    obtain ⟨rfl, rfl⟩ := hrel
    go_wp2_with fail
    go_end0
    exact ⟨rfl, rfl⟩
set_option maxHeartbeats 1000000 in
theorem grow12 : Idle 71 13 (.tuple #[]) := by
  intro bk w h
  go_enter Tryz.func71, Tryz.ntmps71
  go_wp2_with fail
  go_loopw [2] (fun i wr => i = .int .i64 0 ∧ wr = w) (fun i _ => 0)
  case atStart => exact ⟨rfl, rfl⟩
  case round =>
    obtain ⟨rfl, rfl⟩ := hrel
    go_wp2_with fail
    go_end0
    exact ⟨rfl, rfl⟩
set_option maxHeartbeats 1000000 in
theorem intact13 : Idle 119 14 (.bool true) := by
  intro bk w h
  go_enter Tryz.func119, Tryz.ntmps119
  go_wp2_with fail
  go_loopw [3] (fun i wr => i = .int .i64 0 ∧ wr = w) (fun i _ => 0)
  case atStart => exact ⟨rfl, rfl⟩
  case round =>
    obtain ⟨rfl, rfl⟩ := hrel
    go_wp2_with fail
    go_ret
    exact ⟨rfl, rfl⟩
set_option maxHeartbeats 1000000 in
theorem fill13 : Idle 52 14 (.tuple #[]) := by
  intro bk w h
  go_enter Tryz.func52, Tryz.ntmps52
  go_wp2_with fail
  go_loopw [2] (fun i wr => i = .int .i64 0 ∧ wr = w) (fun i _ => 0)
  case atStart => exact ⟨rfl, rfl⟩
  case round =>
    obtain ⟨rfl, rfl⟩ := hrel
    go_wp2_with fail
    go_end0
    exact ⟨rfl, rfl⟩
set_option maxHeartbeats 1000000 in
theorem grow13 : Idle 72 14 (.tuple #[]) := by
  intro bk w h
  go_enter Tryz.func72, Tryz.ntmps72
  go_wp2_with fail
  go_loopw [2] (fun i wr => i = .int .i64 0 ∧ wr = w) (fun i _ => 0)
  case atStart => exact ⟨rfl, rfl⟩
  case round =>
    obtain ⟨rfl, rfl⟩ := hrel
    go_wp2_with fail
    go_end0
    exact ⟨rfl, rfl⟩
set_option maxHeartbeats 1000000 in
theorem intact14 : Idle 120 15 (.bool true) := by
  intro bk w h
  go_enter Tryz.func120, Tryz.ntmps120
  go_wp2_with fail
  go_loopw [3] (fun i wr => i = .int .i64 0 ∧ wr = w) (fun i _ => 0)
  case atStart => exact ⟨rfl, rfl⟩
  case round =>
    obtain ⟨rfl, rfl⟩ := hrel
    go_wp2_with fail
    go_ret
    exact ⟨rfl, rfl⟩
set_option maxHeartbeats 1000000 in
theorem fill14 : Idle 53 15 (.tuple #[]) := by
  intro bk w h
  go_enter Tryz.func53, Tryz.ntmps53
  go_wp2_with fail
  go_loopw [2] (fun i wr => i = .int .i64 0 ∧ wr = w) (fun i _ => 0)
  case atStart => exact ⟨rfl, rfl⟩
  case round =>
    obtain ⟨rfl, rfl⟩ := hrel
    go_wp2_with fail
    go_end0
    exact ⟨rfl, rfl⟩
set_option maxHeartbeats 1000000 in
theorem grow14 : Idle 73 15 (.tuple #[]) := by
  intro bk w h
  go_enter Tryz.func73, Tryz.ntmps73
  go_wp2_with fail
  go_loopw [2] (fun i wr => i = .int .i64 0 ∧ wr = w) (fun i _ => 0)
  case atStart => exact ⟨rfl, rfl⟩
  case round =>
    obtain ⟨rfl, rfl⟩ := hrel
    go_wp2_with fail
    go_end0
    exact ⟨rfl, rfl⟩
set_option maxHeartbeats 1000000 in
theorem intact15 : Idle 121 16 (.bool true) := by
  intro bk w h
  go_enter Tryz.func121, Tryz.ntmps121
  go_wp2_with fail
  go_loopw [3] (fun i wr => i = .int .i64 0 ∧ wr = w) (fun i _ => 0)
  case atStart => exact ⟨rfl, rfl⟩
  case round =>
    obtain ⟨rfl, rfl⟩ := hrel
    go_wp2_with fail
    go_ret
    exact ⟨rfl, rfl⟩
set_option maxHeartbeats 1000000 in
theorem fill15 : Idle 54 16 (.tuple #[]) := by
  intro bk w h
  go_enter Tryz.func54, Tryz.ntmps54
  go_wp2_with fail
  go_loopw [2] (fun i wr => i = .int .i64 0 ∧ wr = w) (fun i _ => 0)
  case atStart => exact ⟨rfl, rfl⟩
  case round =>
    obtain ⟨rfl, rfl⟩ := hrel
    go_wp2_with fail
    go_end0
    exact ⟨rfl, rfl⟩
set_option maxHeartbeats 1000000 in
theorem grow15 : Idle 74 16 (.tuple #[]) := by
  intro bk w h
  go_enter Tryz.func74, Tryz.ntmps74
  go_wp2_with fail
  go_loopw [2] (fun i wr => i = .int .i64 0 ∧ wr = w) (fun i _ => 0)
  case atStart => exact ⟨rfl, rfl⟩
  case round =>
    obtain ⟨rfl, rfl⟩ := hrel
    go_wp2_with fail
    go_end0
    exact ⟨rfl, rfl⟩
set_option maxHeartbeats 1000000 in
theorem intact16 : Idle 122 17 (.bool true) := by
  intro bk w h
  go_enter Tryz.func122, Tryz.ntmps122
  go_wp2_with fail
  go_loopw [3] (fun i wr => i = .int .i64 0 ∧ wr = w) (fun i _ => 0)
  case atStart => exact ⟨rfl, rfl⟩
  case round =>
    obtain ⟨rfl, rfl⟩ := hrel
    go_wp2_with fail
    go_ret
    exact ⟨rfl, rfl⟩
set_option maxHeartbeats 1000000 in
theorem fill16 : Idle 55 17 (.tuple #[]) := by
  intro bk w h
  go_enter Tryz.func55, Tryz.ntmps55
  go_wp2_with fail
  go_loopw [2] (fun i wr => i = .int .i64 0 ∧ wr = w) (fun i _ => 0)
  case atStart => exact ⟨rfl, rfl⟩
  case round =>
    obtain ⟨rfl, rfl⟩ := hrel
    go_wp2_with fail
    go_end0
    exact ⟨rfl, rfl⟩
set_option maxHeartbeats 1000000 in
theorem grow16 : Idle 75 17 (.tuple #[]) := by
  intro bk w h
  go_enter Tryz.func75, Tryz.ntmps75
  go_wp2_with fail
  go_loopw [2] (fun i wr => i = .int .i64 0 ∧ wr = w) (fun i _ => 0)
  case atStart => exact ⟨rfl, rfl⟩
  case round =>
    obtain ⟨rfl, rfl⟩ := hrel
    go_wp2_with fail
    go_end0
    exact ⟨rfl, rfl⟩
set_option maxHeartbeats 1000000 in
theorem intact17 : Idle 123 18 (.bool true) := by
  intro bk w h
  go_enter Tryz.func123, Tryz.ntmps123
  go_wp2_with fail
  go_loopw [3] (fun i wr => i = .int .i64 0 ∧ wr = w) (fun i _ => 0)
  case atStart => exact ⟨rfl, rfl⟩
  case round =>
    obtain ⟨rfl, rfl⟩ := hrel
    go_wp2_with fail
    go_ret
    exact ⟨rfl, rfl⟩
set_option maxHeartbeats 1000000 in
theorem fill17 : Idle 56 18 (.tuple #[]) := by
  intro bk w h
  go_enter Tryz.func56, Tryz.ntmps56
  go_wp2_with fail
  go_loopw [2] (fun i wr => i = .int .i64 0 ∧ wr = w) (fun i _ => 0)
  case atStart => exact ⟨rfl, rfl⟩
  case round =>
    obtain ⟨rfl, rfl⟩ := hrel
    go_wp2_with fail
    go_end0
    exact ⟨rfl, rfl⟩
set_option maxHeartbeats 1000000 in
theorem grow17 : Idle 76 18 (.tuple #[]) := by
  intro bk w h
  go_enter Tryz.func76, Tryz.ntmps76
  go_wp2_with fail
  go_loopw [2] (fun i wr => i = .int .i64 0 ∧ wr = w) (fun i _ => 0)
  case atStart => exact ⟨rfl, rfl⟩
  case round =>
    obtain ⟨rfl, rfl⟩ := hrel
    go_wp2_with fail
    go_end0
    exact ⟨rfl, rfl⟩
set_option maxHeartbeats 1000000 in
theorem intact18 : Idle 124 19 (.bool true) := by
  intro bk w h
  go_enter Tryz.func124, Tryz.ntmps124
  go_wp2_with fail
  go_loopw [3] (fun i wr => i = .int .i64 0 ∧ wr = w) (fun i _ => 0)
  case atStart => exact ⟨rfl, rfl⟩
  case round =>
    obtain ⟨rfl, rfl⟩ := hrel
    go_wp2_with fail
    go_ret
    exact ⟨rfl, rfl⟩
set_option maxHeartbeats 1000000 in
theorem fill18 : Idle 57 19 (.tuple #[]) := by
  intro bk w h
  go_enter Tryz.func57, Tryz.ntmps57
  go_wp2_with fail
  go_loopw [2] (fun i wr => i = .int .i64 0 ∧ wr = w) (fun i _ => 0)
  case atStart => exact ⟨rfl, rfl⟩
  case round =>
    obtain ⟨rfl, rfl⟩ := hrel
    go_wp2_with fail
    go_end0
    exact ⟨rfl, rfl⟩
set_option maxHeartbeats 1000000 in
theorem grow18 : Idle 77 19 (.tuple #[]) := by
  intro bk w h
  go_enter Tryz.func77, Tryz.ntmps77
  go_wp2_with fail
  go_loopw [2] (fun i wr => i = .int .i64 0 ∧ wr = w) (fun i _ => 0)
  case atStart => exact ⟨rfl, rfl⟩
  case round =>
    obtain ⟨rfl, rfl⟩ := hrel
    go_wp2_with fail
    go_end0
    exact ⟨rfl, rfl⟩
set_option maxHeartbeats 1000000 in
theorem intact19 : Idle 125 20 (.bool true) := by
  intro bk w h
  go_enter Tryz.func125, Tryz.ntmps125
  go_wp2_with fail
  go_loopw [3] (fun i wr => i = .int .i64 0 ∧ wr = w) (fun i _ => 0)
  case atStart => exact ⟨rfl, rfl⟩
  case round =>
    obtain ⟨rfl, rfl⟩ := hrel
    go_wp2_with fail
    go_ret
    exact ⟨rfl, rfl⟩
set_option maxHeartbeats 1000000 in
theorem fill19 : Idle 58 20 (.tuple #[]) := by
  intro bk w h
  go_enter Tryz.func58, Tryz.ntmps58
  go_wp2_with fail
  go_loopw [2] (fun i wr => i = .int .i64 0 ∧ wr = w) (fun i _ => 0)
  case atStart => exact ⟨rfl, rfl⟩
  case round =>
    obtain ⟨rfl, rfl⟩ := hrel
    go_wp2_with fail
    go_end0
    exact ⟨rfl, rfl⟩
set_option maxHeartbeats 1000000 in
theorem grow19 : Idle 78 20 (.tuple #[]) := by
  intro bk w h
  go_enter Tryz.func78, Tryz.ntmps78
  go_wp2_with fail
  go_loopw [2] (fun i wr => i = .int .i64 0 ∧ wr = w) (fun i _ => 0)
  case atStart => exact ⟨rfl, rfl⟩
  case round =>
    obtain ⟨rfl, rfl⟩ := hrel
    go_wp2_with fail
    go_end0
    exact ⟨rfl, rfl⟩
end Go.Proofs.YtpeefmbdhkfhmaaGreatDoor.Kg
/- The book of a play: its next number, the pages of balances and of columns, nothing of the other kinds. By tools/genkb.py. -/
namespace Go.Proofs.YtpeefmbdhkfhmaaGreatDoor.Kg
open Go Go.Shelf Go.ChangeShapes Go.WideShapes Go.ChangeAt Go.RowKit Go.Maps
set_option linter.unusedVariables false
/-- what a change of some blocks leaves -/
structure Sep (w w' : World) (S S' : Nat → Prop) : Prop where
  os : w'.os = w.os
  tape : w'.tape = w.tape
  output : w'.output = w.output
  size : w.heap.size ≤ w'.heap.size
  block : ∀ q, q < w.heap.size → ¬ S q → w'.heap[q]? = w.heap[q]?
  new : ∀ q, S' q → S q ∨ w.heap.size ≤ q
theorem Sep.trans {a b c : World} {S S' S'' : Nat → Prop} (h : Sep a b S S') (k : Sep b c S' S'') : Sep a c S S'' :=
  ⟨k.os.trans h.os, k.tape.trans h.tape, k.output.trans h.output, Nat.le_trans h.size k.size, fun q hq hn => (k.block q (Nat.lt_of_lt_of_le hq h.size) (fun e => (h.new q e).elim hn (fun e => by omega))).trans (h.block q hq hn), fun q hq => (k.new q hq).elim (fun e => h.new q e) (fun e => .inr (Nat.le_trans h.size e))⟩
theorem Sep.of_below {w w' : World} (U : Nat → Prop) (h : Below w.heap.size w w') : Sep w w' U U := ⟨h.os, h.tape, h.output, h.size, fun q hq _ => h.block q hq, fun q hq => .inl hq⟩
theorem Sep.below {w w' : World} {S S' : Nat → Prop} {B : Nat} (h : Sep w w' S S') (hS : ∀ q, S q → B ≤ q) (hB : B ≤ w.heap.size) : Below B w w' := ⟨h.os, h.tape, h.output, h.size, fun q hq => h.block q (Nat.lt_of_lt_of_le hq hB) (fun e => by have := hS q e; omega)⟩
structure KBIs (w : World) (bk k m1 : Nat) (R1 : Value) (p1 : Nat → Pg Bl) (m2 : Nat) (R2 : Value) (p2 : Nat → Pg Cm) (U : Nat → Prop) : Prop where
  c0 : w.cell? ⟨bk, 0, none⟩ = some (.int .i64 (k : Int))
  b1 : KindAt zB w bk m1 R1 p1
  b2 : KindAt zM w bk m2 R2 p2
  l1 : m1 ≤ 96
  l2 : m2 ≤ 96
  lk : k ≤ m1 + m2
  bare : ∀ j, 1 ≤ j → j ≤ 20 → j ≠ 9 → j ≠ 10 → w.cell? ⟨bk, j, none⟩ = some (.slice none 0 0)
  d12 : ∀ q, Fp R1 p1 m1 q → ¬ Fp R2 p2 m2 q
  u1 : ∀ q, Fp R1 p1 m1 q → U q
  u2 : ∀ q, Fp R2 p2 m2 q → U q
  ul : ∀ q, U q → q ≠ bk ∧ 2 ≤ q ∧ q < w.heap.size
theorem KindAt.on {α : Type} {Z : Kk α} {w w' : World} {bk m : Nat} {R : Value} {p : Nat → Pg α} (h : KindAt Z w bk m R p) (hz : w.heap.size ≤ w'.heap.size) (c1 : w'.cell? ⟨bk, Z.sl, none⟩ = w.cell? ⟨bk, Z.sl, none⟩) (cf : ∀ j, w'.frozen? ⟨bk, j, none⟩ = w.frozen? ⟨bk, j, none⟩) (hq : ∀ q, Fp R p m q → w'.heap[q]? = w.heap[q]?) (ht : w'.heap[1]? = w.heap[1]?) : KindAt Z w' bk m R p :=
  ⟨c1.trans h.c1, fun i => (cf i).trans (h.fz i), row_far h.row (fun q e => hq q (.inl e)), h.rb, fun i hi => (h.ok i hi).far hz (fun q e => hq q (.inr ⟨i, hi, e⟩)), fun i hi q e => ⟨(h.far i hi q e).1, (h.far i hi q e).2.1, by have := (h.far i hi q e).2.2; omega⟩, h.apart, h.tab.keep ht, h.b3, h.r3, h.p3⟩
theorem KBIs.on {w w' : World} {bk k m1 : Nat} {R1 : Value} {p1 : Nat → Pg Bl} {m2 : Nat} {R2 : Value} {p2 : Nat → Pg Cm} {U : Nat → Prop} (h : KBIs w bk k m1 R1 p1 m2 R2 p2 U) (hz : w.heap.size ≤ w'.heap.size) (hc : ∀ j, 0 ≤ j → w'.cell? ⟨bk, j, none⟩ = w.cell? ⟨bk, j, none⟩) (cf : ∀ j, w'.frozen? ⟨bk, j, none⟩ = w.frozen? ⟨bk, j, none⟩) (h1 : w'.heap[1]? = w.heap[1]?) (hU : ∀ q, U q → w'.heap[q]? = w.heap[q]?) : KBIs w' bk k m1 R1 p1 m2 R2 p2 U :=
  ⟨(hc 0 (by omega)).trans h.c0, h.b1.on hz (hc 9 (by omega)) cf (fun q hq => hU q (h.u1 q hq)) h1, h.b2.on hz (hc 10 (by omega)) cf (fun q hq => hU q (h.u2 q hq)) h1, h.l1, h.l2, h.lk, fun j a b c d => (hc j (by omega)).trans (h.bare j a b c d), h.d12, h.u1, h.u2, fun q hq => ⟨(h.ul q hq).1, (h.ul q hq).2.1, Nat.lt_of_lt_of_le (h.ul q hq).2.2 hz⟩⟩
theorem KBIs.below {w w' : World} {bk k m1 : Nat} {R1 : Value} {p1 : Nat → Pg Bl} {m2 : Nat} {R2 : Value} {p2 : Nat → Pg Cm} {U : Nat → Prop} (h : KBIs w bk k m1 R1 p1 m2 R2 p2 U) (hb : Below w.heap.size w w') : KBIs w' bk k m1 R1 p1 m2 R2 p2 U :=
  h.on hb.size (fun j _ => World.cell?_of_block (hb.block bk h.b1.lt)) (fun j => World.frozen?_of_block (hb.block bk h.b1.lt)) (hb.block 1 h.b1.tab.lt) (fun q hq => hb.block q (h.ul q hq).2.2)
theorem KBIs.went1 {w w' : World} {bk k m1 : Nat} {R1 : Value} {p1 : Nat → Pg Bl} {m2 : Nat} {R2 : Value} {p2 : Nat → Pg Cm} {U : Nat → Prop} {p' : Nat → Pg Bl} (h : KBIs w bk k m1 R1 p1 m2 R2 p2 U) (hw : Went zB w w' bk m1 R1 p1 p') : KBIs w' bk k m1 R1 p' m2 R2 p2 (fun q => U q ∨ (w.heap.size ≤ q ∧ q < w'.heap.size)) ∧ Sep w w' U (fun q => U q ∨ (w.heap.size ≤ q ∧ q < w'.heap.size)) := by
  have hz := hw.2.1.size
  have hbl := h.b1.lt
  have hbk : w'.heap[bk]? = w.heap[bk]? := hw.far (fun hq => (h.b1.fp hq).1 rfl) hbl
  have h1 : w'.heap[1]? = w.heap[1]? := hw.far (fun hq => by have := (h.ul 1 (h.u1 1 hq)).2.1; omega) h.b1.tab.lt
  have cc : ∀ j, w'.cell? ⟨bk, j, none⟩ = w.cell? ⟨bk, j, none⟩ := fun j => World.cell?_of_block hbk
  have cf : ∀ j, w'.frozen? ⟨bk, j, none⟩ = w.frozen? ⟨bk, j, none⟩ := fun j => World.frozen?_of_block hbk
  have Bo : KindAt zM w' bk m2 R2 p2 := h.b2.on hz (cc _) cf (fun q hq => hw.far (fun z => h.d12 q z hq) (h.b2.fp hq).2) h1
  refine ⟨⟨(cc 0).trans h.c0, hw.1, Bo, h.l1, h.l2, h.lk, fun j a b c d => (cc j).trans (h.bare j a b c d), (fun q hq hq' => (hw.fp hq).elim (fun e => h.d12 q e hq') (fun e => by have := (h.b2.fp hq').2; omega)), (fun q hq => (hw.fp hq).imp (h.u1 q) (fun e => ⟨e, (hw.1.fp hq).2⟩)), (fun q hq => .inl (h.u2 q hq)), ?_⟩, ⟨hw.2.1.os, hw.2.1.tape, hw.2.1.output, hz, fun q hq hU => hw.far (fun e => hU (h.u1 q e)) hq, fun q hq => hq.imp id (fun e => e.1)⟩⟩
  rintro q (hq | hq)
  · exact ⟨(h.ul q hq).1, (h.ul q hq).2.1, Nat.lt_of_lt_of_le (h.ul q hq).2.2 hz⟩
  · have := h.b1.tab.lt
    exact ⟨by omega, by omega, hq.2⟩
theorem KBIs.went2 {w w' : World} {bk k m1 : Nat} {R1 : Value} {p1 : Nat → Pg Bl} {m2 : Nat} {R2 : Value} {p2 : Nat → Pg Cm} {U : Nat → Prop} {p' : Nat → Pg Cm} (h : KBIs w bk k m1 R1 p1 m2 R2 p2 U) (hw : Went zM w w' bk m2 R2 p2 p') : KBIs w' bk k m1 R1 p1 m2 R2 p' (fun q => U q ∨ (w.heap.size ≤ q ∧ q < w'.heap.size)) ∧ Sep w w' U (fun q => U q ∨ (w.heap.size ≤ q ∧ q < w'.heap.size)) := by
  have hz := hw.2.1.size
  have hbl := h.b1.lt
  have hbk : w'.heap[bk]? = w.heap[bk]? := hw.far (fun hq => (h.b2.fp hq).1 rfl) hbl
  have h1 : w'.heap[1]? = w.heap[1]? := hw.far (fun hq => by have := (h.ul 1 (h.u2 1 hq)).2.1; omega) h.b1.tab.lt
  have cc : ∀ j, w'.cell? ⟨bk, j, none⟩ = w.cell? ⟨bk, j, none⟩ := fun j => World.cell?_of_block hbk
  have cf : ∀ j, w'.frozen? ⟨bk, j, none⟩ = w.frozen? ⟨bk, j, none⟩ := fun j => World.frozen?_of_block hbk
  have Bo : KindAt zB w' bk m1 R1 p1 := h.b1.on hz (cc _) cf (fun q hq => hw.far (fun z => h.d12 q hq z) (h.b1.fp hq).2) h1
  refine ⟨⟨(cc 0).trans h.c0, Bo, hw.1, h.l1, h.l2, h.lk, fun j a b c d => (cc j).trans (h.bare j a b c d), (fun q hq hq' => (hw.fp hq').elim (fun e => h.d12 q hq e) (fun e => by have := (h.b1.fp hq).2; omega)), (fun q hq => .inl (h.u1 q hq)), (fun q hq => (hw.fp hq).imp (h.u2 q) (fun e => ⟨e, (hw.1.fp hq).2⟩)), ?_⟩, ⟨hw.2.1.os, hw.2.1.tape, hw.2.1.output, hz, fun q hq hU => hw.far (fun e => hU (h.u2 q e)) hq, fun q hq => hq.imp id (fun e => e.1)⟩⟩
  rintro q (hq | hq)
  · exact ⟨(h.ul q hq).1, (h.ul q hq).2.1, Nat.lt_of_lt_of_le (h.ul q hq).2.2 hz⟩
  · have := h.b1.tab.lt
    exact ⟨by omega, by omega, hq.2⟩
/-- a book took a list: what became of the rest -/
structure Took (w w' : World) (bk : Nat) (U U' : Nat → Prop) (L : Value) : Prop where
  size : w.heap.size ≤ w'.heap.size
  os : w'.os = w.os
  tape : w'.tape = w.tape
  output : w'.output = w.output
  low : ∀ j, j < 0 → w'.cell? ⟨bk, j, none⟩ = w.cell? ⟨bk, j, none⟩
  block : ∀ q, q < w.heap.size → q ≠ bk → ¬ U q → L.ownBlock ≠ some q → w'.heap[q]? = w.heap[q]?
  new : ∀ q, U' q → U q ∨ L.ownBlock = some q ∨ w.heap.size ≤ q
theorem Took.refl (w : World) (bk : Nat) (U : Nat → Prop) (L : Value) : Took w w bk U U L := ⟨Nat.le_refl _, rfl, rfl, rfl, fun _ _ => rfl, fun _ _ _ _ _ => rfl, fun _ h => .inl h⟩
theorem KBIs.more1 {w w' : World} {bk k m1 : Nat} {R1 : Value} {p1 : Nat → Pg Bl} {m2 : Nat} {R2 : Value} {p2 : Nat → Pg Cm} {U : Nat → Prop} {L : Value} {s : Nat} (h : KBIs w bk k m1 R1 p1 m2 R2 p2 U) (hm : m1 < 96) (hL : ∀ q, L.ownBlock = some q → q ≠ bk ∧ 2 ≤ q ∧ q < w.heap.size ∧ ¬ U q) (hw : More zB w w' bk m1 k R1 p1 L s) : ∃ R' P, P.s = s ∧ KBIs w' bk (k + 1) (m1 + 1) R' (upd p1 m1 P) m2 R2 p2 (fun q => U q ∨ L.ownBlock = some q ∨ (w.heap.size ≤ q ∧ q < w'.heap.size)) ∧ Took w w' bk U (fun q => U q ∨ L.ownBlock = some q ∨ (w.heap.size ≤ q ∧ q < w'.heap.size)) L := by
  obtain ⟨R', P, hs, hk, c0, ci, hfp, hz, os, tp, ou, hblk⟩ := hw
  have hbl := h.b1.lt
  have h1 : w'.heap[1]? = w.heap[1]? := hblk 1 h.b1.tab.lt (fun e => h.b1.b3 e.symm) (fun hq => by have := (h.ul 1 (h.u1 1 hq)).2.1; omega) (fun e => by have := (hL 1 e).2.1; omega)
  have cf : ∀ j, w'.frozen? ⟨bk, j, none⟩ = w.frozen? ⟨bk, j, none⟩ := fun j => (hk.fz j).trans (h.b1.fz j).symm
  have Bo : KindAt zM w' bk m2 R2 p2 := h.b2.on hz (ci _ (by decide) (by decide)) cf (fun q hq => hblk q (h.b2.fp hq).2 (h.b2.fp hq).1 (fun z => h.d12 q z hq) (fun e => (hL q e).2.2.2 (h.u2 q hq))) h1
  refine ⟨R', P, hs, ⟨by rw [c0]; simp, hk, Bo, (by omega), h.l2, by have := h.lk; omega, fun j a b c d => (ci j (by omega) (by first | exact c | exact d)).trans (h.bare j a b c d), (fun q hq hq' => (hfp q hq).elim (fun e => h.d12 q e hq') (fun e => e.elim (fun e => (hL q e).2.2.2 (h.u2 q hq')) (fun e => by have := (h.b2.fp hq').2; omega))), (fun q hq => (hfp q hq).imp (h.u1 q) (fun e => e.imp id (fun e => ⟨e, (hk.fp hq).2⟩))), (fun q hq => .inl (h.u2 q hq)), ?_⟩, ⟨hz, os, tp, ou, fun j hj => ci j (by omega) (by show j ≠ 9; omega), fun q h1 h2 h3 h4 => hblk q h1 h2 (fun e => h3 (h.u1 q e)) h4, fun q hq => hq.imp id (fun e => e.imp id (fun e => e.1))⟩⟩
  rintro q (hq | hq | hq)
  · exact ⟨(h.ul q hq).1, (h.ul q hq).2.1, Nat.lt_of_lt_of_le (h.ul q hq).2.2 hz⟩
  · exact ⟨(hL q hq).1, (hL q hq).2.1, Nat.lt_of_lt_of_le (hL q hq).2.2.1 hz⟩
  · have := h.b1.tab.lt
    exact ⟨by omega, by omega, hq.2⟩
theorem KBIs.more2 {w w' : World} {bk k m1 : Nat} {R1 : Value} {p1 : Nat → Pg Bl} {m2 : Nat} {R2 : Value} {p2 : Nat → Pg Cm} {U : Nat → Prop} {L : Value} {s : Nat} (h : KBIs w bk k m1 R1 p1 m2 R2 p2 U) (hm : m2 < 96) (hL : ∀ q, L.ownBlock = some q → q ≠ bk ∧ 2 ≤ q ∧ q < w.heap.size ∧ ¬ U q) (hw : More zM w w' bk m2 k R2 p2 L s) : ∃ R' P, P.s = s ∧ KBIs w' bk (k + 1) m1 R1 p1 (m2 + 1) R' (upd p2 m2 P) (fun q => U q ∨ L.ownBlock = some q ∨ (w.heap.size ≤ q ∧ q < w'.heap.size)) ∧ Took w w' bk U (fun q => U q ∨ L.ownBlock = some q ∨ (w.heap.size ≤ q ∧ q < w'.heap.size)) L := by
  obtain ⟨R', P, hs, hk, c0, ci, hfp, hz, os, tp, ou, hblk⟩ := hw
  have hbl := h.b1.lt
  have h1 : w'.heap[1]? = w.heap[1]? := hblk 1 h.b1.tab.lt (fun e => h.b1.b3 e.symm) (fun hq => by have := (h.ul 1 (h.u2 1 hq)).2.1; omega) (fun e => by have := (hL 1 e).2.1; omega)
  have cf : ∀ j, w'.frozen? ⟨bk, j, none⟩ = w.frozen? ⟨bk, j, none⟩ := fun j => (hk.fz j).trans (h.b1.fz j).symm
  have Bo : KindAt zB w' bk m1 R1 p1 := h.b1.on hz (ci _ (by decide) (by decide)) cf (fun q hq => hblk q (h.b1.fp hq).2 (h.b1.fp hq).1 (fun z => h.d12 q hq z) (fun e => (hL q e).2.2.2 (h.u1 q hq))) h1
  refine ⟨R', P, hs, ⟨by rw [c0]; simp, Bo, hk, h.l1, (by omega), by have := h.lk; omega, fun j a b c d => (ci j (by omega) (by first | exact c | exact d)).trans (h.bare j a b c d), (fun q hq hq' => (hfp q hq').elim (fun e => h.d12 q hq e) (fun e => e.elim (fun e => (hL q e).2.2.2 (h.u1 q hq)) (fun e => by have := (h.b1.fp hq).2; omega))), (fun q hq => .inl (h.u1 q hq)), (fun q hq => (hfp q hq).imp (h.u2 q) (fun e => e.imp id (fun e => ⟨e, (hk.fp hq).2⟩))), ?_⟩, ⟨hz, os, tp, ou, fun j hj => ci j (by omega) (by show j ≠ 10; omega), fun q h1 h2 h3 h4 => hblk q h1 h2 (fun e => h3 (h.u2 q e)) h4, fun q hq => hq.imp id (fun e => e.imp id (fun e => e.1))⟩⟩
  rintro q (hq | hq | hq)
  · exact ⟨(h.ul q hq).1, (h.ul q hq).2.1, Nat.lt_of_lt_of_le (h.ul q hq).2.2 hz⟩
  · exact ⟨(hL q hq).1, (hL q hq).2.1, Nat.lt_of_lt_of_le (hL q hq).2.2.1 hz⟩
  · have := h.b1.tab.lt
    exact ⟨by omega, by omega, hq.2⟩
end Go.Proofs.YtpeefmbdhkfhmaaGreatDoor.Kg
