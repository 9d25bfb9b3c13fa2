import Derived.Test.YtddpladmkmpoaabDoorFirC
import Derived.Test.YtddpladmkmpoaabDoorRatE
import Derived.Test.YtddpladmkmpoaabDoorTxtD
namespace Go.Proofs.YtddpladmkmpoaabDoor
open Go.ChangeShapes Go.WideShapes Go.ChangeAt Go.RowKit
set_option linter.unusedVariables false
/-- the library's table of powers lies in its variable -/
def Pow (w : World) : Prop := Lib.TabIs Tryd.prog w "internal/strconv.uint64pow10" .u64 Lib.pow10Tab
theorem Pow.below {g : Nat} (hg : Tryd.prog.globalNamed "internal/strconv.uint64pow10" = some g) {w w' : World} (h : Pow w) (hb : Below w.heap.size w w') : Pow w' := by
  unfold Pow Lib.TabIs World.var? at h ⊢
  rw [hg] at h ⊢
  simp only [Option.bind_some] at h ⊢
  have hlt : g < w.heap.size := by
    rcases Nat.lt_or_ge g w.heap.size with h' | h'
    · exact h'
    · rw [Array.getElem?_eq_none h'] at h; cases h
  rw [hb.block g hlt]
  exact h
theorem pow_no : Tryd.prog.globalNamed "internal/strconv.uint64pow10" = some 5 := by kernel_rfl
theorem add23 : addSpec 2 3 = (5, 0) := by decide
theorem rat71 : ratioSpec 7 1 2 5 = (4, 0) := by decide
theorem txt05 : txt (-5) 2 = [45, 48, 46, 48, 53] := by decide
set_option maxRecDepth 100000 in
set_option maxHeartbeats 2000000 in
theorem first_ok (w : World) (hP : Pow w) : Calls Tryd.prog 7 #[] w fun e w' => e = .returned (.bool true) ∧ Below w.heap.size w w' := by
  have A1 := hide (madd_any 2 3 w (by decide) (by decide) (by decide) (by decide))
  have A2 := hide (mratio_any 7 1 2 5 w (by decide) (by decide) (by decide) (by decide) (by decide) (by decide))
  have A3 := hide (fun W (hW : Below w.heap.size w W) => mprint_any (-5) 2 W (by decide) (by decide) (by decide) (hP.below pow_no hW))
  rw [add23] at A1
  rw [rat71] at A2
  rw [txt05] at A3
  clear hP
  go_enter Tryd.func7, Tryd.ntmps7
  go_wp2_with fail
  refine (unhide A1).mono ?_
  rintro e w0 ⟨rfl, hw⟩
  rw [hw]
  clear hw w0
  go_wp2_with fail
  refine (unhide A2).mono ?_
  rintro e w1 ⟨rfl, c1⟩
  have B1 := hide c1
  clear c1
  go_wp2_with fail
  refine (unhide A3 _ (unhide B1)).mono ?_
  rintro e w2 ⟨rfl, c2⟩
  have B2 := hide ((unhide B1).trans (c2.mono (unhide B1).size))
  clear c2
  go_wp2_with fail
  refine (split3 w2.heap.size _ (by rw [World.size_alloc]; omega) (by simp) (by simp) (by simp)).mono ?_
  rintro e w3 ⟨pb, rfl, g0, g2, c3⟩
  have B3 := hide ((bal (unhide B2) _).trans (c3.mono (bal (unhide B2) _).size))
  clear c3
  go_wp2
  go_ret
  exact ⟨rfl, unhide B3⟩
end Go.Proofs.YtddpladmkmpoaabDoor
