/- The keeper's book: Settle (19). -/
import Derived.Test.YthiiommpeaejaaaGreatDoorPtxM
namespace Go.Proofs.YthiiommpeaejaaaGreatDoor
open Go Go.ChangeShapes Go.WideShapes Go.ChangeAt Go.RowKit
set_option linter.unusedVariables false
attribute [local go_sem] setCell_drewN alloc_drewN
set_option maxRecDepth 100000 in
set_option maxHeartbeats 8000000 in
theorem settle_all {w : World} {bk m k : Nat} {R : Value} {p : Nat → Pg} (h : BookAt w bk m k R p) (hm : m ≤ 96) (hs : ∀ i, i < m → (p i).s ≠ 1) : Calls Tryz.prog 19 #[.pointer (some ⟨bk, 0, none⟩)] w fun e w' => e = .returned (.bool true) ∧ Rest w w' R p m := by
  have HB := hide h
  have hI := hide (intact_all h hm hs)
  clear h hs
  go_enter Tryz.func19, Tryz.ntmps19
  go_wp2_with fail
  refine (unhide hI).mono ?_
  rintro e w1 ⟨rfl, hb1⟩
  have HB1 := hide hb1
  have B1 := hide ((unhide HB).below hb1)
  have hbare1 := hide (unhide B1).bare
  clear hb1 hI
  go_wp2_with fail
  refine (fill1 bk w1 (unhide hbare1 1 (by omega) (by omega) (by omega))).mono ?_
  rintro e w0 ⟨rfl, hw⟩
  rw [hw]
  clear hw w0
  go_wp2_with fail
  refine (fill2 bk w1 (unhide hbare1 2 (by omega) (by omega) (by omega))).mono ?_
  rintro e w0 ⟨rfl, hw⟩
  rw [hw]
  clear hw w0
  go_wp2_with fail
  refine (fill3 bk w1 (unhide hbare1 3 (by omega) (by omega) (by omega))).mono ?_
  rintro e w0 ⟨rfl, hw⟩
  rw [hw]
  clear hw w0
  go_wp2_with fail
  refine (fill_book (unhide B1) hm).mono ?_
  rintro e w2 ⟨rfl, p2, hw2, hs2⟩
  have W2 := hide hw2
  have S2 := hide hs2
  have hbare := hide hw2.1.bare
  clear hw2 hs2 hbare1
  go_wp2_with fail
  refine (fill5 bk w2 (unhide hbare 5 (by omega) (by omega) (by omega))).mono ?_
  rintro e w0 ⟨rfl, hw⟩
  rw [hw]
  clear hw w0
  go_wp2_with fail
  refine (fill6 bk w2 (unhide hbare 6 (by omega) (by omega) (by omega))).mono ?_
  rintro e w0 ⟨rfl, hw⟩
  rw [hw]
  clear hw w0
  go_wp2_with fail
  refine (fill7 bk w2 (unhide hbare 7 (by omega) (by omega) (by omega))).mono ?_
  rintro e w0 ⟨rfl, hw⟩
  rw [hw]
  clear hw w0
  go_wp2_with fail
  refine (fill8 bk w2 (unhide hbare 8 (by omega) (by omega) (by omega))).mono ?_
  rintro e w0 ⟨rfl, hw⟩
  rw [hw]
  clear hw w0
  go_wp2_with fail
  refine (fill9 bk w2 (unhide hbare 9 (by omega) (by omega) (by omega))).mono ?_
  rintro e w0 ⟨rfl, hw⟩
  rw [hw]
  clear hw w0
  go_wp2_with fail
  refine (fill10 bk w2 (unhide hbare 10 (by omega) (by omega) (by omega))).mono ?_
  rintro e w0 ⟨rfl, hw⟩
  rw [hw]
  clear hw w0
  go_wp2_with fail
  refine (fill11 bk w2 (unhide hbare 11 (by omega) (by omega) (by omega))).mono ?_
  rintro e w0 ⟨rfl, hw⟩
  rw [hw]
  clear hw w0
  go_wp2_with fail
  refine (fill12 bk w2 (unhide hbare 12 (by omega) (by omega) (by omega))).mono ?_
  rintro e w0 ⟨rfl, hw⟩
  rw [hw]
  clear hw w0
  go_wp2_with fail
  refine (fill13 bk w2 (unhide hbare 13 (by omega) (by omega) (by omega))).mono ?_
  rintro e w0 ⟨rfl, hw⟩
  rw [hw]
  clear hw w0
  go_wp2_with fail
  refine (fill14 bk w2 (unhide hbare 14 (by omega) (by omega) (by omega))).mono ?_
  rintro e w0 ⟨rfl, hw⟩
  rw [hw]
  clear hw w0
  go_wp2_with fail
  refine (fill15 bk w2 (unhide hbare 15 (by omega) (by omega) (by omega))).mono ?_
  rintro e w0 ⟨rfl, hw⟩
  rw [hw]
  clear hw w0
  go_wp2_with fail
  refine (fill16 bk w2 (unhide hbare 16 (by omega) (by omega) (by omega))).mono ?_
  rintro e w0 ⟨rfl, hw⟩
  rw [hw]
  clear hw w0
  go_wp2_with fail
  refine (fill17 bk w2 (unhide hbare 17 (by omega) (by omega) (by omega))).mono ?_
  rintro e w0 ⟨rfl, hw⟩
  rw [hw]
  clear hw w0
  go_wp2_with fail
  refine (fill18 bk w2 (unhide hbare 18 (by omega) (by omega) (by omega))).mono ?_
  rintro e w0 ⟨rfl, hw⟩
  rw [hw]
  clear hw w0
  go_wp2_with fail
  refine (fill19 bk w2 (unhide hbare 19 (by omega) (by omega) (by omega))).mono ?_
  rintro e w0 ⟨rfl, hw⟩
  rw [hw]
  clear hw w0
  go_wp2_with fail
  refine (fill20 bk w2 (unhide hbare 20 (by omega) (by omega) (by omega))).mono ?_
  rintro e w0 ⟨rfl, hw⟩
  rw [hw]
  clear hw w0
  go_wp2_with fail
  refine (grow1 bk w2 (unhide hbare 1 (by omega) (by omega) (by omega))).mono ?_
  rintro e w0 ⟨rfl, hw⟩
  rw [hw]
  clear hw w0
  go_wp2_with fail
  refine (grow2 bk w2 (unhide hbare 2 (by omega) (by omega) (by omega))).mono ?_
  rintro e w0 ⟨rfl, hw⟩
  rw [hw]
  clear hw w0
  go_wp2_with fail
  refine (grow3 bk w2 (unhide hbare 3 (by omega) (by omega) (by omega))).mono ?_
  rintro e w0 ⟨rfl, hw⟩
  rw [hw]
  clear hw w0
  go_wp2_with fail
  refine (grow_book (unhide W2).1 hm (unhide S2)).mono ?_
  rintro e w3 ⟨rfl, p3, hw3, hs3⟩
  have W3 := hide hw3
  have S3 := hide hs3
  have hbare3 := hide hw3.1.bare
  clear hw3 hs3 hbare
  go_wp2_with fail
  refine (grow5 bk w3 (unhide hbare3 5 (by omega) (by omega) (by omega))).mono ?_
  rintro e w0 ⟨rfl, hw⟩
  rw [hw]
  clear hw w0
  go_wp2_with fail
  refine (grow6 bk w3 (unhide hbare3 6 (by omega) (by omega) (by omega))).mono ?_
  rintro e w0 ⟨rfl, hw⟩
  rw [hw]
  clear hw w0
  go_wp2_with fail
  refine (grow7 bk w3 (unhide hbare3 7 (by omega) (by omega) (by omega))).mono ?_
  rintro e w0 ⟨rfl, hw⟩
  rw [hw]
  clear hw w0
  go_wp2_with fail
  refine (grow8 bk w3 (unhide hbare3 8 (by omega) (by omega) (by omega))).mono ?_
  rintro e w0 ⟨rfl, hw⟩
  rw [hw]
  clear hw w0
  go_wp2_with fail
  refine (grow9 bk w3 (unhide hbare3 9 (by omega) (by omega) (by omega))).mono ?_
  rintro e w0 ⟨rfl, hw⟩
  rw [hw]
  clear hw w0
  go_wp2_with fail
  refine (grow10 bk w3 (unhide hbare3 10 (by omega) (by omega) (by omega))).mono ?_
  rintro e w0 ⟨rfl, hw⟩
  rw [hw]
  clear hw w0
  go_wp2_with fail
  refine (grow11 bk w3 (unhide hbare3 11 (by omega) (by omega) (by omega))).mono ?_
  rintro e w0 ⟨rfl, hw⟩
  rw [hw]
  clear hw w0
  go_wp2_with fail
  refine (grow12 bk w3 (unhide hbare3 12 (by omega) (by omega) (by omega))).mono ?_
  rintro e w0 ⟨rfl, hw⟩
  rw [hw]
  clear hw w0
  go_wp2_with fail
  refine (grow13 bk w3 (unhide hbare3 13 (by omega) (by omega) (by omega))).mono ?_
  rintro e w0 ⟨rfl, hw⟩
  rw [hw]
  clear hw w0
  go_wp2_with fail
  refine (grow14 bk w3 (unhide hbare3 14 (by omega) (by omega) (by omega))).mono ?_
  rintro e w0 ⟨rfl, hw⟩
  rw [hw]
  clear hw w0
  go_wp2_with fail
  refine (grow15 bk w3 (unhide hbare3 15 (by omega) (by omega) (by omega))).mono ?_
  rintro e w0 ⟨rfl, hw⟩
  rw [hw]
  clear hw w0
  go_wp2_with fail
  refine (grow16 bk w3 (unhide hbare3 16 (by omega) (by omega) (by omega))).mono ?_
  rintro e w0 ⟨rfl, hw⟩
  rw [hw]
  clear hw w0
  go_wp2_with fail
  refine (grow17 bk w3 (unhide hbare3 17 (by omega) (by omega) (by omega))).mono ?_
  rintro e w0 ⟨rfl, hw⟩
  rw [hw]
  clear hw w0
  go_wp2_with fail
  refine (grow18 bk w3 (unhide hbare3 18 (by omega) (by omega) (by omega))).mono ?_
  rintro e w0 ⟨rfl, hw⟩
  rw [hw]
  clear hw w0
  go_wp2_with fail
  refine (grow19 bk w3 (unhide hbare3 19 (by omega) (by omega) (by omega))).mono ?_
  rintro e w0 ⟨rfl, hw⟩
  rw [hw]
  clear hw w0
  go_wp2_with fail
  refine (grow20 bk w3 (unhide hbare3 20 (by omega) (by omega) (by omega))).mono ?_
  rintro e w0 ⟨rfl, hw⟩
  rw [hw]
  clear hw w0
  go_wp2_with fail
  refine (intact_all (unhide W3).1 hm (fun i hi => by rw [unhide S3 i hi]; omega)).mono ?_
  rintro e w4 ⟨rfl, hb4⟩
  have B4 := hide hb4
  clear hb4
  go_wp2_with fail
  go_ret
  refine ⟨rfl, ?_⟩
  have W23 := (unhide W2).trans (unhide W3)
  exact (((Rest.refl w R p m).below (unhide HB1)).trans W23.2.1 (fun i hi q hq => .inl hq)).below (unhide B4)
end Go.Proofs.YthiiommpeaejaaaGreatDoor
