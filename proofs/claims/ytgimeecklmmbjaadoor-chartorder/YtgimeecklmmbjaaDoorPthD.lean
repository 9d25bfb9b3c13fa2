/- chart: Path (14), by slices.Collect (50). -/
import Derived.Test.YtgimeecklmmbjaaDoorPthC
namespace Go.Proofs.YtgimeecklmmbjaaDoor
open Go Go.RowKit Go.Shelf Go.ChangeShapes Go.WideShapes Go.ChangeAt Go.Maps
set_option linter.unusedVariables false
def seqRen : Go.Shelf.Ren := ⟨fun | 8 => 36 | 11 => 49 | n => n, fun | 0 => 0 | 24 => 48 | 26 => 9 | 28 => 72 | 33 => 67 | n => n, fun | n => n⟩
theorem seq8 : SlLaysZ.n8 Tryd.prog seqRen := {
  mixed := by kernel_rfl
  f8 := ⟨Tryd.f36.name, by kernel_rfl, Tryd.func36.trans (congrArg some (by kernel_rfl))⟩
  f11 := ⟨Tryd.f49.name, by kernel_rfl, Tryd.func49.trans (congrArg some (by kernel_rfl))⟩
  t0 := Tryd.underlying0
  a0 := Tryd.isAgg0
  z0 := Tryd.sizeOf0
  v0 := Tryd.zeroValue0
  t24 := Tryd.underlying48
  a24 := Tryd.isAgg48
  z24 := Tryd.sizeOf48
  v24 := Tryd.zeroValue48
  t26 := Tryd.underlying9
  a26 := Tryd.isAgg9
  z26 := Tryd.sizeOf9
  v26 := Tryd.zeroValue9
  t28 := Tryd.underlying72
  a28 := Tryd.isAgg72
  z28 := Tryd.sizeOf72
  v28 := Tryd.zeroValue72
  i26 := by kernel_rfl }
/-- what Path hands back: the row of names, in memory of its own -/
def PathOut (s : ByteArray) (W : World) (e : Ending) (w' : World) : Prop :=
  ∃ v, e = .returned v ∧ w'.ownsRow W.heap.size 9 1 v (pathL s.data.toList).length (scells (fOf (pathL s.data.toList)) (pathL s.data.toList).length) ∧ (v = .slice none 0 0 ↔ (pathL s.data.toList).length = 0) ∧ Below W.heap.size W w'
theorem collect_up (s : ByteArray) (hs : s.size < 4611686018427387904) (B : Nat) (w : World) (hB : w.cell? ⟨B, 0, none⟩ = some (.string s)) : Calls Tryd.prog 36 #[.func (.func 48) #[] #[.pointer (some ⟨B, 0, none⟩)]] w fun e w' => PathOut s w e w' := by
  refine (callsIn_wide (n := 4)).1 ?_
  have h := AnyZ.collect_in seq8 Fence.wide 4 trivial trivial rfl (by omega) 48 #[.pointer (some ⟨B, 0, none⟩)] trivial enters82 (fun xs => xs = pathL s.data.toList) 6 (by unfold maxLen; omega) (by omega) w ((up_stops s hs B w hB 2 (by omega)).gives)
  refine h.mono ?_
  rintro e w' ⟨v, ss, he, rfl, hrow, hnil, hb⟩
  refine ⟨v, he, ?_, ?_, hb⟩
  · rw [scells_list]
    exact hrow
  · rw [hnil]
    exact List.length_eq_zero_iff.symm
set_option maxHeartbeats 1000000 in
theorem path_any (s : ByteArray) (hs : s.size < 4611686018427387904) (w : World) : Calls Tryd.prog 19 #[.string s] w fun e w' => PathOut s w e w' := by
  have hcol := hide (collect_up s hs w.heap.size (w.alloc (.cells #[.string s] 9)) (by simp))
  have du := hide (upwards_any s w)
  go_enter Tryd.func19, Tryd.ntmps19
  go_wp2_with fail
  refine (unhide du).mono ?_
  rintro e w1 ⟨rfl, hw⟩
  rw [hw]
  clear hw w1
  go_wp2_with fail
  refine (unhide hcol).mono ?_
  rintro e w1 ⟨v, rfl, hrow, hnil, hb⟩
  have HO : Hid (PathOut s w (.returned v) w1) := ⟨v, rfl, ownsRow_base_a hrow (by simp), hnil, ((Below.refl _ w).alloc (Nat.le_refl _) _).trans (hb.mono (by simp))⟩
  clear hrow hnil hb
  go_wp2_with fail
  go_ret
  exact unhide HO
end Go.Proofs.YtgimeecklmmbjaaDoor
