/- The book of the law: Settle (7). By tools/kb1.py. -/
import Derived.Test.YtfpbljfebjochaaGreatDoorKbB
namespace Go.Proofs.YtfpbljfebjochaaGreatDoor.Kg
open Go Go.Shelf Go.ChangeShapes Go.WideShapes Go.ChangeAt Go.RowKit Go.Maps
set_option linter.unusedVariables false
set_option maxRecDepth 100000 in
set_option maxHeartbeats 16000000 in
theorem KBIs.settle {w : World} {bk k m1 : Nat} {R1 : Value} {p1 : Nat → Pg Int} {U : Nat → Prop} (h : KBIs w bk k m1 R1 p1 U) (s1 : ∀ i, i < m1 → (p1 i).s ≠ 1) : Calls Tryz.prog 7 #[.pointer (some ⟨bk, 0, none⟩)] w fun e w' => e = .returned (.bool true) ∧ ∃ q1 U', KBIs w' bk k m1 R1 q1 U' ∧ (∀ i, i < m1 → (q1 i).s ≠ 1) ∧ Sep w w' U U' := by
  have H0 := hide h
  have hI := hide (h.intact s1)
  clear h s1
  go_enter Tryz.func7, Tryz.ntmps7
  go_wp2_with fail
  refine (unhide hI).mono ?_
  rintro e w1 ⟨rfl, hb⟩
  have H1 := hide ((unhide H0).below hb)
  have E1 := hide (Sep.of_below U hb)
  obtain ⟨U1, hU1⟩ : ∃ U1, U1 = U := ⟨_, rfl⟩
  rw [← hU1] at H1
  have E1 : Hid (Sep w w1 U U1) := by rw [hU1]; exact unhide E1
  clear hb hI hU1
  go_wp2_with fail
  refine (fill0 bk w1 ((unhide H1).bare 1 (by omega) (by omega) (by omega))).mono ?_
  rintro e wz ⟨rfl, hw⟩
  rw [hw]
  clear hw wz
  go_wp2_with fail
  refine (fillAllx (unhide H1).b1 (unhide H1).l1).mono ?_
  rintro e w2 ⟨rfl, f1, hw, hs⟩
  obtain ⟨U2, hu, he⟩ : ∃ U', _ ∧ Sep w1 w2 U1 U' := ⟨_, (unhide H1).went1 hw⟩
  have H2 := hide hu
  have E2 := hide ((unhide E1).trans he)
  have F1 := hide hs
  clear hw hu he hs
  go_wp2_with fail
  refine (fill2 bk w2 ((unhide H2).bare 3 (by omega) (by omega) (by omega))).mono ?_
  rintro e wz ⟨rfl, hw⟩
  rw [hw]
  clear hw wz
  go_wp2_with fail
  refine (fill3 bk w2 ((unhide H2).bare 4 (by omega) (by omega) (by omega))).mono ?_
  rintro e wz ⟨rfl, hw⟩
  rw [hw]
  clear hw wz
  go_wp2_with fail
  refine (fill4 bk w2 ((unhide H2).bare 5 (by omega) (by omega) (by omega))).mono ?_
  rintro e wz ⟨rfl, hw⟩
  rw [hw]
  clear hw wz
  go_wp2_with fail
  refine (fill5 bk w2 ((unhide H2).bare 6 (by omega) (by omega) (by omega))).mono ?_
  rintro e wz ⟨rfl, hw⟩
  rw [hw]
  clear hw wz
  go_wp2_with fail
  refine (fill6 bk w2 ((unhide H2).bare 7 (by omega) (by omega) (by omega))).mono ?_
  rintro e wz ⟨rfl, hw⟩
  rw [hw]
  clear hw wz
  go_wp2_with fail
  refine (fill7 bk w2 ((unhide H2).bare 8 (by omega) (by omega) (by omega))).mono ?_
  rintro e wz ⟨rfl, hw⟩
  rw [hw]
  clear hw wz
  go_wp2_with fail
  refine (fill8 bk w2 ((unhide H2).bare 9 (by omega) (by omega) (by omega))).mono ?_
  rintro e wz ⟨rfl, hw⟩
  rw [hw]
  clear hw wz
  go_wp2_with fail
  refine (fill9 bk w2 ((unhide H2).bare 10 (by omega) (by omega) (by omega))).mono ?_
  rintro e wz ⟨rfl, hw⟩
  rw [hw]
  clear hw wz
  go_wp2_with fail
  refine (fill10 bk w2 ((unhide H2).bare 11 (by omega) (by omega) (by omega))).mono ?_
  rintro e wz ⟨rfl, hw⟩
  rw [hw]
  clear hw wz
  go_wp2_with fail
  refine (fill11 bk w2 ((unhide H2).bare 12 (by omega) (by omega) (by omega))).mono ?_
  rintro e wz ⟨rfl, hw⟩
  rw [hw]
  clear hw wz
  go_wp2_with fail
  refine (fill12 bk w2 ((unhide H2).bare 13 (by omega) (by omega) (by omega))).mono ?_
  rintro e wz ⟨rfl, hw⟩
  rw [hw]
  clear hw wz
  go_wp2_with fail
  refine (fill13 bk w2 ((unhide H2).bare 14 (by omega) (by omega) (by omega))).mono ?_
  rintro e wz ⟨rfl, hw⟩
  rw [hw]
  clear hw wz
  go_wp2_with fail
  refine (fill14 bk w2 ((unhide H2).bare 15 (by omega) (by omega) (by omega))).mono ?_
  rintro e wz ⟨rfl, hw⟩
  rw [hw]
  clear hw wz
  go_wp2_with fail
  refine (fill15 bk w2 ((unhide H2).bare 16 (by omega) (by omega) (by omega))).mono ?_
  rintro e wz ⟨rfl, hw⟩
  rw [hw]
  clear hw wz
  go_wp2_with fail
  refine (fill16 bk w2 ((unhide H2).bare 17 (by omega) (by omega) (by omega))).mono ?_
  rintro e wz ⟨rfl, hw⟩
  rw [hw]
  clear hw wz
  go_wp2_with fail
  refine (fill17 bk w2 ((unhide H2).bare 18 (by omega) (by omega) (by omega))).mono ?_
  rintro e wz ⟨rfl, hw⟩
  rw [hw]
  clear hw wz
  go_wp2_with fail
  refine (fill18 bk w2 ((unhide H2).bare 19 (by omega) (by omega) (by omega))).mono ?_
  rintro e wz ⟨rfl, hw⟩
  rw [hw]
  clear hw wz
  go_wp2_with fail
  refine (fill19 bk w2 ((unhide H2).bare 20 (by omega) (by omega) (by omega))).mono ?_
  rintro e wz ⟨rfl, hw⟩
  rw [hw]
  clear hw wz
  go_wp2_with fail
  refine (grow0 bk w2 ((unhide H2).bare 1 (by omega) (by omega) (by omega))).mono ?_
  rintro e wz ⟨rfl, hw⟩
  rw [hw]
  clear hw wz
  go_wp2_with fail
  refine (growAllx (unhide H2).b1 (unhide H2).l1 (unhide F1)).mono ?_
  rintro e w3 ⟨rfl, g1, hw, hs⟩
  obtain ⟨U3, hu, he⟩ : ∃ U', _ ∧ Sep w2 w3 U2 U' := ⟨_, (unhide H2).went1 hw⟩
  have H3 := hide hu
  have E3 := hide ((unhide E2).trans he)
  have G1 := hide hs
  clear hw hu he hs
  go_wp2_with fail
  refine (grow2 bk w3 ((unhide H3).bare 3 (by omega) (by omega) (by omega))).mono ?_
  rintro e wz ⟨rfl, hw⟩
  rw [hw]
  clear hw wz
  go_wp2_with fail
  refine (grow3 bk w3 ((unhide H3).bare 4 (by omega) (by omega) (by omega))).mono ?_
  rintro e wz ⟨rfl, hw⟩
  rw [hw]
  clear hw wz
  go_wp2_with fail
  refine (grow4 bk w3 ((unhide H3).bare 5 (by omega) (by omega) (by omega))).mono ?_
  rintro e wz ⟨rfl, hw⟩
  rw [hw]
  clear hw wz
  go_wp2_with fail
  refine (grow5 bk w3 ((unhide H3).bare 6 (by omega) (by omega) (by omega))).mono ?_
  rintro e wz ⟨rfl, hw⟩
  rw [hw]
  clear hw wz
  go_wp2_with fail
  refine (grow6 bk w3 ((unhide H3).bare 7 (by omega) (by omega) (by omega))).mono ?_
  rintro e wz ⟨rfl, hw⟩
  rw [hw]
  clear hw wz
  go_wp2_with fail
  refine (grow7 bk w3 ((unhide H3).bare 8 (by omega) (by omega) (by omega))).mono ?_
  rintro e wz ⟨rfl, hw⟩
  rw [hw]
  clear hw wz
  go_wp2_with fail
  refine (grow8 bk w3 ((unhide H3).bare 9 (by omega) (by omega) (by omega))).mono ?_
  rintro e wz ⟨rfl, hw⟩
  rw [hw]
  clear hw wz
  go_wp2_with fail
  refine (grow9 bk w3 ((unhide H3).bare 10 (by omega) (by omega) (by omega))).mono ?_
  rintro e wz ⟨rfl, hw⟩
  rw [hw]
  clear hw wz
  go_wp2_with fail
  refine (grow10 bk w3 ((unhide H3).bare 11 (by omega) (by omega) (by omega))).mono ?_
  rintro e wz ⟨rfl, hw⟩
  rw [hw]
  clear hw wz
  go_wp2_with fail
  refine (grow11 bk w3 ((unhide H3).bare 12 (by omega) (by omega) (by omega))).mono ?_
  rintro e wz ⟨rfl, hw⟩
  rw [hw]
  clear hw wz
  go_wp2_with fail
  refine (grow12 bk w3 ((unhide H3).bare 13 (by omega) (by omega) (by omega))).mono ?_
  rintro e wz ⟨rfl, hw⟩
  rw [hw]
  clear hw wz
  go_wp2_with fail
  refine (grow13 bk w3 ((unhide H3).bare 14 (by omega) (by omega) (by omega))).mono ?_
  rintro e wz ⟨rfl, hw⟩
  rw [hw]
  clear hw wz
  go_wp2_with fail
  refine (grow14 bk w3 ((unhide H3).bare 15 (by omega) (by omega) (by omega))).mono ?_
  rintro e wz ⟨rfl, hw⟩
  rw [hw]
  clear hw wz
  go_wp2_with fail
  refine (grow15 bk w3 ((unhide H3).bare 16 (by omega) (by omega) (by omega))).mono ?_
  rintro e wz ⟨rfl, hw⟩
  rw [hw]
  clear hw wz
  go_wp2_with fail
  refine (grow16 bk w3 ((unhide H3).bare 17 (by omega) (by omega) (by omega))).mono ?_
  rintro e wz ⟨rfl, hw⟩
  rw [hw]
  clear hw wz
  go_wp2_with fail
  refine (grow17 bk w3 ((unhide H3).bare 18 (by omega) (by omega) (by omega))).mono ?_
  rintro e wz ⟨rfl, hw⟩
  rw [hw]
  clear hw wz
  go_wp2_with fail
  refine (grow18 bk w3 ((unhide H3).bare 19 (by omega) (by omega) (by omega))).mono ?_
  rintro e wz ⟨rfl, hw⟩
  rw [hw]
  clear hw wz
  go_wp2_with fail
  refine (grow19 bk w3 ((unhide H3).bare 20 (by omega) (by omega) (by omega))).mono ?_
  rintro e wz ⟨rfl, hw⟩
  rw [hw]
  clear hw wz
  have hI2 := hide ((unhide H3).intact (fun i hi => by rw [unhide G1 i hi]; omega))
  go_wp2_with fail
  refine (unhide hI2).mono ?_
  rintro e w9 ⟨rfl, hb⟩
  have H9 := hide ((unhide H3).below hb)
  have E9 := hide ((unhide E3).trans (Sep.of_below U3 hb))
  clear hb hI2
  go_wp2_with fail
  go_ret
  exact ⟨rfl, g1, U3, unhide H9, fun i hi => by rw [unhide G1 i hi]; omega, unhide E9⟩
end Go.Proofs.YtfpbljfebjochaaGreatDoor.Kg
