/- The keeper's book: all of it looked at (30). -/
import Derived.Test.YthiiommpeaejaaaGreatDoorPtxL
import Derived.Test.YthiiommpeaejaaaGreatDoorKepT
namespace Go.Proofs.YthiiommpeaejaaaGreatDoor
open Go Go.ChangeShapes Go.WideShapes Go.ChangeAt Go.RowKit
set_option linter.unusedVariables false
attribute [local go_sem] setCell_drewN alloc_drewN
set_option maxRecDepth 100000 in
set_option maxHeartbeats 8000000 in
theorem intact_all {w : World} {bk m k : Nat} {R : Value} {p : Nat → Pg} (h : BookAt w bk m k R p) (hm : m ≤ 96) (hs : ∀ i, i < m → (p i).s ≠ 1) : Calls Tryz.prog 30 #[.pointer (some ⟨bk, 0, none⟩)] w fun e w' => e = .returned (.bool true) ∧ Below w.heap.size w w' := by
  have HB := hide h
  have hI := hide (intact_book h hm hs)
  have hbare0 := hide h.bare
  clear h hs
  go_enter Tryz.func30, Tryz.ntmps30
  go_wp2_with fail
  refine (intact1 bk w (unhide hbare0 1 (by omega) (by omega) (by omega))).mono ?_
  rintro e w0 ⟨rfl, hw⟩
  rw [hw]
  clear hw w0
  go_wp2_with fail
  refine (intact2 bk w (unhide hbare0 2 (by omega) (by omega) (by omega))).mono ?_
  rintro e w0 ⟨rfl, hw⟩
  rw [hw]
  clear hw w0
  go_wp2_with fail
  refine (intact3 bk w (unhide hbare0 3 (by omega) (by omega) (by omega))).mono ?_
  rintro e w0 ⟨rfl, hw⟩
  rw [hw]
  clear hw w0
  go_wp2_with fail
  refine (unhide hI).mono ?_
  rintro e w1 ⟨rfl, hb1⟩
  have HB1 := hide hb1
  have hbare := hide ((unhide HB).below hb1).bare
  clear hb1
  go_wp2_with fail
  refine (intact5 bk w1 (unhide hbare 5 (by omega) (by omega) (by omega))).mono ?_
  rintro e w0 ⟨rfl, hw⟩
  rw [hw]
  clear hw w0
  go_wp2_with fail
  refine (intact6 bk w1 (unhide hbare 6 (by omega) (by omega) (by omega))).mono ?_
  rintro e w0 ⟨rfl, hw⟩
  rw [hw]
  clear hw w0
  go_wp2_with fail
  refine (intact7 bk w1 (unhide hbare 7 (by omega) (by omega) (by omega))).mono ?_
  rintro e w0 ⟨rfl, hw⟩
  rw [hw]
  clear hw w0
  go_wp2_with fail
  refine (intact8 bk w1 (unhide hbare 8 (by omega) (by omega) (by omega))).mono ?_
  rintro e w0 ⟨rfl, hw⟩
  rw [hw]
  clear hw w0
  go_wp2_with fail
  refine (intact9 bk w1 (unhide hbare 9 (by omega) (by omega) (by omega))).mono ?_
  rintro e w0 ⟨rfl, hw⟩
  rw [hw]
  clear hw w0
  go_wp2_with fail
  refine (intact10 bk w1 (unhide hbare 10 (by omega) (by omega) (by omega))).mono ?_
  rintro e w0 ⟨rfl, hw⟩
  rw [hw]
  clear hw w0
  go_wp2_with fail
  refine (intact11 bk w1 (unhide hbare 11 (by omega) (by omega) (by omega))).mono ?_
  rintro e w0 ⟨rfl, hw⟩
  rw [hw]
  clear hw w0
  go_wp2_with fail
  refine (intact12 bk w1 (unhide hbare 12 (by omega) (by omega) (by omega))).mono ?_
  rintro e w0 ⟨rfl, hw⟩
  rw [hw]
  clear hw w0
  go_wp2_with fail
  refine (intact13 bk w1 (unhide hbare 13 (by omega) (by omega) (by omega))).mono ?_
  rintro e w0 ⟨rfl, hw⟩
  rw [hw]
  clear hw w0
  go_wp2_with fail
  refine (intact14 bk w1 (unhide hbare 14 (by omega) (by omega) (by omega))).mono ?_
  rintro e w0 ⟨rfl, hw⟩
  rw [hw]
  clear hw w0
  go_wp2_with fail
  refine (intact15 bk w1 (unhide hbare 15 (by omega) (by omega) (by omega))).mono ?_
  rintro e w0 ⟨rfl, hw⟩
  rw [hw]
  clear hw w0
  go_wp2_with fail
  refine (intact16 bk w1 (unhide hbare 16 (by omega) (by omega) (by omega))).mono ?_
  rintro e w0 ⟨rfl, hw⟩
  rw [hw]
  clear hw w0
  go_wp2_with fail
  refine (intact17 bk w1 (unhide hbare 17 (by omega) (by omega) (by omega))).mono ?_
  rintro e w0 ⟨rfl, hw⟩
  rw [hw]
  clear hw w0
  go_wp2_with fail
  refine (intact18 bk w1 (unhide hbare 18 (by omega) (by omega) (by omega))).mono ?_
  rintro e w0 ⟨rfl, hw⟩
  rw [hw]
  clear hw w0
  go_wp2_with fail
  refine (intact19 bk w1 (unhide hbare 19 (by omega) (by omega) (by omega))).mono ?_
  rintro e w0 ⟨rfl, hw⟩
  rw [hw]
  clear hw w0
  go_wp2_with fail
  refine (intact20 bk w1 (unhide hbare 20 (by omega) (by omega) (by omega))).mono ?_
  rintro e w0 ⟨rfl, hw⟩
  rw [hw]
  clear hw w0
  go_wp2_with fail
  go_ret
  exact ⟨rfl, unhide HB1⟩
end Go.Proofs.YthiiommpeaejaaaGreatDoor
