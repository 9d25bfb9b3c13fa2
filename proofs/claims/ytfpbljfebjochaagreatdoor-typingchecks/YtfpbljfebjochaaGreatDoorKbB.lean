/- The book of the law: all of it looked at (17). By tools/kb1.py. -/
import Derived.Test.YtfpbljfebjochaaGreatDoorKbA
namespace Go.Proofs.YtfpbljfebjochaaGreatDoor.Kg
open Go Go.Shelf Go.ChangeShapes Go.WideShapes Go.ChangeAt Go.RowKit Go.Maps
set_option linter.unusedVariables false
set_option maxRecDepth 100000 in
set_option maxHeartbeats 8000000 in
theorem KBIs.intact {w : World} {bk k m1 : Nat} {R1 : Value} {p1 : Nat → Pg Int} {U : Nat → Prop} (h : KBIs w bk k m1 R1 p1 U) (s1 : ∀ i, i < m1 → (p1 i).s ≠ 1) : Calls Tryz.prog 17 #[.pointer (some ⟨bk, 0, none⟩)] w fun e w' => e = .returned (.bool true) ∧ Below w.heap.size w w' := by
  have H0 := hide h
  have B0 : Hid (Below w.heap.size w w) := Below.refl _ _
  have S1 := hide s1
  clear h s1
  go_enter Tryz.func17, Tryz.ntmps17
  go_wp2_with fail
  refine (intact0 bk w ((unhide H0).bare 1 (by omega) (by omega) (by omega))).mono ?_
  rintro e wz ⟨rfl, hw⟩
  rw [hw]
  clear hw wz
  go_wp2_with fail
  refine (intactx (unhide H0).b1 (unhide H0).l1 (unhide S1)).mono ?_
  rintro e w1 ⟨rfl, hb⟩
  have H1 := hide ((unhide H0).below hb)
  have B1 : Hid (Below w.heap.size w w1) := (unhide B0).trans (hb.mono (unhide B0).size)
  clear hb
  go_wp2_with fail
  refine (intact2 bk w1 ((unhide H1).bare 3 (by omega) (by omega) (by omega))).mono ?_
  rintro e wz ⟨rfl, hw⟩
  rw [hw]
  clear hw wz
  go_wp2_with fail
  refine (intact3 bk w1 ((unhide H1).bare 4 (by omega) (by omega) (by omega))).mono ?_
  rintro e wz ⟨rfl, hw⟩
  rw [hw]
  clear hw wz
  go_wp2_with fail
  refine (intact4 bk w1 ((unhide H1).bare 5 (by omega) (by omega) (by omega))).mono ?_
  rintro e wz ⟨rfl, hw⟩
  rw [hw]
  clear hw wz
  go_wp2_with fail
  refine (intact5 bk w1 ((unhide H1).bare 6 (by omega) (by omega) (by omega))).mono ?_
  rintro e wz ⟨rfl, hw⟩
  rw [hw]
  clear hw wz
  go_wp2_with fail
  refine (intact6 bk w1 ((unhide H1).bare 7 (by omega) (by omega) (by omega))).mono ?_
  rintro e wz ⟨rfl, hw⟩
  rw [hw]
  clear hw wz
  go_wp2_with fail
  refine (intact7 bk w1 ((unhide H1).bare 8 (by omega) (by omega) (by omega))).mono ?_
  rintro e wz ⟨rfl, hw⟩
  rw [hw]
  clear hw wz
  go_wp2_with fail
  refine (intact8 bk w1 ((unhide H1).bare 9 (by omega) (by omega) (by omega))).mono ?_
  rintro e wz ⟨rfl, hw⟩
  rw [hw]
  clear hw wz
  go_wp2_with fail
  refine (intact9 bk w1 ((unhide H1).bare 10 (by omega) (by omega) (by omega))).mono ?_
  rintro e wz ⟨rfl, hw⟩
  rw [hw]
  clear hw wz
  go_wp2_with fail
  refine (intact10 bk w1 ((unhide H1).bare 11 (by omega) (by omega) (by omega))).mono ?_
  rintro e wz ⟨rfl, hw⟩
  rw [hw]
  clear hw wz
  go_wp2_with fail
  refine (intact11 bk w1 ((unhide H1).bare 12 (by omega) (by omega) (by omega))).mono ?_
  rintro e wz ⟨rfl, hw⟩
  rw [hw]
  clear hw wz
  go_wp2_with fail
  refine (intact12 bk w1 ((unhide H1).bare 13 (by omega) (by omega) (by omega))).mono ?_
  rintro e wz ⟨rfl, hw⟩
  rw [hw]
  clear hw wz
  go_wp2_with fail
  refine (intact13 bk w1 ((unhide H1).bare 14 (by omega) (by omega) (by omega))).mono ?_
  rintro e wz ⟨rfl, hw⟩
  rw [hw]
  clear hw wz
  go_wp2_with fail
  refine (intact14 bk w1 ((unhide H1).bare 15 (by omega) (by omega) (by omega))).mono ?_
  rintro e wz ⟨rfl, hw⟩
  rw [hw]
  clear hw wz
  go_wp2_with fail
  refine (intact15 bk w1 ((unhide H1).bare 16 (by omega) (by omega) (by omega))).mono ?_
  rintro e wz ⟨rfl, hw⟩
  rw [hw]
  clear hw wz
  go_wp2_with fail
  refine (intact16 bk w1 ((unhide H1).bare 17 (by omega) (by omega) (by omega))).mono ?_
  rintro e wz ⟨rfl, hw⟩
  rw [hw]
  clear hw wz
  go_wp2_with fail
  refine (intact17 bk w1 ((unhide H1).bare 18 (by omega) (by omega) (by omega))).mono ?_
  rintro e wz ⟨rfl, hw⟩
  rw [hw]
  clear hw wz
  go_wp2_with fail
  refine (intact18 bk w1 ((unhide H1).bare 19 (by omega) (by omega) (by omega))).mono ?_
  rintro e wz ⟨rfl, hw⟩
  rw [hw]
  clear hw wz
  go_wp2_with fail
  refine (intact19 bk w1 ((unhide H1).bare 20 (by omega) (by omega) (by omega))).mono ?_
  rintro e wz ⟨rfl, hw⟩
  rw [hw]
  clear hw wz
  go_wp2_with fail
  go_ret
  exact ⟨rfl, unhide B1⟩
end Go.Proofs.YtfpbljfebjochaaGreatDoor.Kg
