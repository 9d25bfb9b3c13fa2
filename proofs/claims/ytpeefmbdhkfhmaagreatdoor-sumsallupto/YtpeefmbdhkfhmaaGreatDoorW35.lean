import Derived.Test.YtpeefmbdhkfhmaaGreatDoorW34
/- The book of a play: all of it looked at (38). By tools/genkb.py. -/
namespace Go.Proofs.YtpeefmbdhkfhmaaGreatDoor.Kg
open Go Go.Shelf Go.ChangeShapes Go.WideShapes Go.ChangeAt Go.RowKit Go.Maps
set_option linter.unusedVariables false
set_option maxRecDepth 100000 in
set_option maxHeartbeats 8000000 in
theorem KBIs.intact {w : World} {bk k m1 : Nat} {R1 : Value} {p1 : Nat → Pg Bl} {m2 : Nat} {R2 : Value} {p2 : Nat → Pg Cm} {U : Nat → Prop} (h : KBIs w bk k m1 R1 p1 m2 R2 p2 U) (s1 : ∀ i, i < m1 → (p1 i).s ≠ 1) (s2 : ∀ i, i < m2 → (p2 i).s ≠ 1) : Calls Tryz.prog 38 #[.pointer (some ⟨bk, 0, none⟩)] w fun e w' => e = .returned (.bool true) ∧ Below w.heap.size w w' := by
  have H0 := hide h
  have B0 : Hid (Below w.heap.size w w) := Below.refl _ _
  have S1 := hide s1
  have S2 := hide s2
  clear h s1 s2
  go_enter Tryz.func38, Tryz.ntmps38
  go_wp2_with fail
  refine (intact0 bk w ((unhide H0).bare 1 (by omega) (by omega) (by omega) (by omega))).mono ?_
  rintro e wz ⟨rfl, hw⟩
  rw [hw]
  clear hw wz
  go_wp2_with fail
  refine (intact1 bk w ((unhide H0).bare 2 (by omega) (by omega) (by omega) (by omega))).mono ?_
  rintro e wz ⟨rfl, hw⟩
  rw [hw]
  clear hw wz
  go_wp2_with fail
  refine (intact2 bk w ((unhide H0).bare 3 (by omega) (by omega) (by omega) (by omega))).mono ?_
  rintro e wz ⟨rfl, hw⟩
  rw [hw]
  clear hw wz
  go_wp2_with fail
  refine (intact3 bk w ((unhide H0).bare 4 (by omega) (by omega) (by omega) (by omega))).mono ?_
  rintro e wz ⟨rfl, hw⟩
  rw [hw]
  clear hw wz
  go_wp2_with fail
  refine (intact4 bk w ((unhide H0).bare 5 (by omega) (by omega) (by omega) (by omega))).mono ?_
  rintro e wz ⟨rfl, hw⟩
  rw [hw]
  clear hw wz
  go_wp2_with fail
  refine (intact5 bk w ((unhide H0).bare 6 (by omega) (by omega) (by omega) (by omega))).mono ?_
  rintro e wz ⟨rfl, hw⟩
  rw [hw]
  clear hw wz
  go_wp2_with fail
  refine (intact6 bk w ((unhide H0).bare 7 (by omega) (by omega) (by omega) (by omega))).mono ?_
  rintro e wz ⟨rfl, hw⟩
  rw [hw]
  clear hw wz
  go_wp2_with fail
  refine (intact7 bk w ((unhide H0).bare 8 (by omega) (by omega) (by omega) (by omega))).mono ?_
  rintro e wz ⟨rfl, hw⟩
  rw [hw]
  clear hw wz
  go_wp2_with fail
  refine (intactB (unhide H0).b1 (unhide H0).l1 (unhide S1)).mono ?_
  rintro e w1 ⟨rfl, hb⟩
  have H1 := hide ((unhide H0).below hb)
  have B1 : Hid (Below w.heap.size w w1) := (unhide B0).trans (hb.mono (unhide B0).size)
  clear hb
  go_wp2_with fail
  refine (intactM (unhide H1).b2 (unhide H1).l2 (unhide S2)).mono ?_
  rintro e w2 ⟨rfl, hb⟩
  have H2 := hide ((unhide H1).below hb)
  have B2 : Hid (Below w.heap.size w w2) := (unhide B1).trans (hb.mono (unhide B1).size)
  clear hb
  go_wp2_with fail
  refine (intact10 bk w2 ((unhide H2).bare 11 (by omega) (by omega) (by omega) (by omega))).mono ?_
  rintro e wz ⟨rfl, hw⟩
  rw [hw]
  clear hw wz
  go_wp2_with fail
  refine (intact11 bk w2 ((unhide H2).bare 12 (by omega) (by omega) (by omega) (by omega))).mono ?_
  rintro e wz ⟨rfl, hw⟩
  rw [hw]
  clear hw wz
  go_wp2_with fail
  refine (intact12 bk w2 ((unhide H2).bare 13 (by omega) (by omega) (by omega) (by omega))).mono ?_
  rintro e wz ⟨rfl, hw⟩
  rw [hw]
  clear hw wz
  go_wp2_with fail
  refine (intact13 bk w2 ((unhide H2).bare 14 (by omega) (by omega) (by omega) (by omega))).mono ?_
  rintro e wz ⟨rfl, hw⟩
  rw [hw]
  clear hw wz
  go_wp2_with fail
  refine (intact14 bk w2 ((unhide H2).bare 15 (by omega) (by omega) (by omega) (by omega))).mono ?_
  rintro e wz ⟨rfl, hw⟩
  rw [hw]
  clear hw wz
  go_wp2_with fail
  refine (intact15 bk w2 ((unhide H2).bare 16 (by omega) (by omega) (by omega) (by omega))).mono ?_
  rintro e wz ⟨rfl, hw⟩
  rw [hw]
  clear hw wz
  go_wp2_with fail
  refine (intact16 bk w2 ((unhide H2).bare 17 (by omega) (by omega) (by omega) (by omega))).mono ?_
  rintro e wz ⟨rfl, hw⟩
  rw [hw]
  clear hw wz
  go_wp2_with fail
  refine (intact17 bk w2 ((unhide H2).bare 18 (by omega) (by omega) (by omega) (by omega))).mono ?_
  rintro e wz ⟨rfl, hw⟩
  rw [hw]
  clear hw wz
  go_wp2_with fail
  refine (intact18 bk w2 ((unhide H2).bare 19 (by omega) (by omega) (by omega) (by omega))).mono ?_
  rintro e wz ⟨rfl, hw⟩
  rw [hw]
  clear hw wz
  go_wp2_with fail
  refine (intact19 bk w2 ((unhide H2).bare 20 (by omega) (by omega) (by omega) (by omega))).mono ?_
  rintro e wz ⟨rfl, hw⟩
  rw [hw]
  clear hw wz
  go_wp2_with fail
  go_ret
  exact ⟨rfl, unhide B2⟩
end Go.Proofs.YtpeefmbdhkfhmaaGreatDoor.Kg
/- The book of a play: Settle (14). By tools/genkb.py. -/
namespace Go.Proofs.YtpeefmbdhkfhmaaGreatDoor.Kg
open Go Go.Shelf Go.ChangeShapes Go.WideShapes Go.ChangeAt Go.RowKit Go.Maps
set_option linter.unusedVariables false
set_option maxRecDepth 100000 in
set_option maxHeartbeats 16000000 in
theorem KBIs.settle {w : World} {bk k m1 : Nat} {R1 : Value} {p1 : Nat → Pg Bl} {m2 : Nat} {R2 : Value} {p2 : Nat → Pg Cm} {U : Nat → Prop} (h : KBIs w bk k m1 R1 p1 m2 R2 p2 U) (s1 : ∀ i, i < m1 → (p1 i).s ≠ 1) (s2 : ∀ i, i < m2 → (p2 i).s ≠ 1) : Calls Tryz.prog 14 #[.pointer (some ⟨bk, 0, none⟩)] w fun e w' => e = .returned (.bool true) ∧ ∃ q1 q2 U', KBIs w' bk k m1 R1 q1 m2 R2 q2 U' ∧ (∀ i, i < m1 → (q1 i).s ≠ 1) ∧ (∀ i, i < m2 → (q2 i).s ≠ 1) ∧ Sep w w' U U' := by
  have H0 := hide h
  have hI := hide (h.intact s1 s2)
  clear h s1 s2
  go_enter Tryz.func14, Tryz.ntmps14
  go_wp2_with fail
  refine (unhide hI).mono ?_
  rintro e w1 ⟨rfl, hb⟩
  have H1 := hide ((unhide H0).below hb)
  have E1 := hide (Sep.of_below U hb)
  obtain ⟨U1, hU1⟩ : ∃ U1, U1 = U := ⟨_, rfl⟩
  rw [← hU1] at H1
  have E1 : Hid (Sep w w1 U U1) := by rw [hU1]; exact unhide E1
  clear hb hI hU1
  go_wp2_with fail
  refine (fill0 bk w1 ((unhide H1).bare 1 (by omega) (by omega) (by omega) (by omega))).mono ?_
  rintro e wz ⟨rfl, hw⟩
  rw [hw]
  clear hw wz
  go_wp2_with fail
  refine (fill1 bk w1 ((unhide H1).bare 2 (by omega) (by omega) (by omega) (by omega))).mono ?_
  rintro e wz ⟨rfl, hw⟩
  rw [hw]
  clear hw wz
  go_wp2_with fail
  refine (fill2 bk w1 ((unhide H1).bare 3 (by omega) (by omega) (by omega) (by omega))).mono ?_
  rintro e wz ⟨rfl, hw⟩
  rw [hw]
  clear hw wz
  go_wp2_with fail
  refine (fill3 bk w1 ((unhide H1).bare 4 (by omega) (by omega) (by omega) (by omega))).mono ?_
  rintro e wz ⟨rfl, hw⟩
  rw [hw]
  clear hw wz
  go_wp2_with fail
  refine (fill4 bk w1 ((unhide H1).bare 5 (by omega) (by omega) (by omega) (by omega))).mono ?_
  rintro e wz ⟨rfl, hw⟩
  rw [hw]
  clear hw wz
  go_wp2_with fail
  refine (fill5 bk w1 ((unhide H1).bare 6 (by omega) (by omega) (by omega) (by omega))).mono ?_
  rintro e wz ⟨rfl, hw⟩
  rw [hw]
  clear hw wz
  go_wp2_with fail
  refine (fill6 bk w1 ((unhide H1).bare 7 (by omega) (by omega) (by omega) (by omega))).mono ?_
  rintro e wz ⟨rfl, hw⟩
  rw [hw]
  clear hw wz
  go_wp2_with fail
  refine (fill7 bk w1 ((unhide H1).bare 8 (by omega) (by omega) (by omega) (by omega))).mono ?_
  rintro e wz ⟨rfl, hw⟩
  rw [hw]
  clear hw wz
  go_wp2_with fail
  refine (fillAllB (unhide H1).b1 (unhide H1).l1).mono ?_
  rintro e w2 ⟨rfl, f1, hw, hs⟩
  obtain ⟨U2, hu, he⟩ : ∃ U', _ ∧ Sep w1 w2 U1 U' := ⟨_, (unhide H1).went1 hw⟩
  have H2 := hide hu
  have E2 := hide ((unhide E1).trans he)
  have F1 := hide hs
  clear hw hu he hs
  go_wp2_with fail
  refine (fillAllM (unhide H2).b2 (unhide H2).l2).mono ?_
  rintro e w3 ⟨rfl, f2, hw, hs⟩
  obtain ⟨U3, hu, he⟩ : ∃ U', _ ∧ Sep w2 w3 U2 U' := ⟨_, (unhide H2).went2 hw⟩
  have H3 := hide hu
  have E3 := hide ((unhide E2).trans he)
  have F2 := hide hs
  clear hw hu he hs
  go_wp2_with fail
  refine (fill10 bk w3 ((unhide H3).bare 11 (by omega) (by omega) (by omega) (by omega))).mono ?_
  rintro e wz ⟨rfl, hw⟩
  rw [hw]
  clear hw wz
  go_wp2_with fail
  refine (fill11 bk w3 ((unhide H3).bare 12 (by omega) (by omega) (by omega) (by omega))).mono ?_
  rintro e wz ⟨rfl, hw⟩
  rw [hw]
  clear hw wz
  go_wp2_with fail
  refine (fill12 bk w3 ((unhide H3).bare 13 (by omega) (by omega) (by omega) (by omega))).mono ?_
  rintro e wz ⟨rfl, hw⟩
  rw [hw]
  clear hw wz
  go_wp2_with fail
  refine (fill13 bk w3 ((unhide H3).bare 14 (by omega) (by omega) (by omega) (by omega))).mono ?_
  rintro e wz ⟨rfl, hw⟩
  rw [hw]
  clear hw wz
  go_wp2_with fail
  refine (fill14 bk w3 ((unhide H3).bare 15 (by omega) (by omega) (by omega) (by omega))).mono ?_
  rintro e wz ⟨rfl, hw⟩
  rw [hw]
  clear hw wz
  go_wp2_with fail
  refine (fill15 bk w3 ((unhide H3).bare 16 (by omega) (by omega) (by omega) (by omega))).mono ?_
  rintro e wz ⟨rfl, hw⟩
  rw [hw]
  clear hw wz
  go_wp2_with fail
  refine (fill16 bk w3 ((unhide H3).bare 17 (by omega) (by omega) (by omega) (by omega))).mono ?_
  rintro e wz ⟨rfl, hw⟩
  rw [hw]
  clear hw wz
  go_wp2_with fail
  refine (fill17 bk w3 ((unhide H3).bare 18 (by omega) (by omega) (by omega) (by omega))).mono ?_
  rintro e wz ⟨rfl, hw⟩
  rw [hw]
  clear hw wz
  go_wp2_with fail
  refine (fill18 bk w3 ((unhide H3).bare 19 (by omega) (by omega) (by omega) (by omega))).mono ?_
  rintro e wz ⟨rfl, hw⟩
  rw [hw]
  clear hw wz
  go_wp2_with fail
  refine (fill19 bk w3 ((unhide H3).bare 20 (by omega) (by omega) (by omega) (by omega))).mono ?_
  rintro e wz ⟨rfl, hw⟩
  rw [hw]
  clear hw wz
  go_wp2_with fail
  refine (grow0 bk w3 ((unhide H3).bare 1 (by omega) (by omega) (by omega) (by omega))).mono ?_
  rintro e wz ⟨rfl, hw⟩
  rw [hw]
  clear hw wz
  go_wp2_with fail
  refine (grow1 bk w3 ((unhide H3).bare 2 (by omega) (by omega) (by omega) (by omega))).mono ?_
  rintro e wz ⟨rfl, hw⟩
  rw [hw]
  clear hw wz
  go_wp2_with fail
  refine (grow2 bk w3 ((unhide H3).bare 3 (by omega) (by omega) (by omega) (by omega))).mono ?_
  rintro e wz ⟨rfl, hw⟩
  rw [hw]
  clear hw wz
  go_wp2_with fail
  refine (grow3 bk w3 ((unhide H3).bare 4 (by omega) (by omega) (by omega) (by omega))).mono ?_
  rintro e wz ⟨rfl, hw⟩
  rw [hw]
  clear hw wz
  go_wp2_with fail
  refine (grow4 bk w3 ((unhide H3).bare 5 (by omega) (by omega) (by omega) (by omega))).mono ?_
  rintro e wz ⟨rfl, hw⟩
  rw [hw]
  clear hw wz
  go_wp2_with fail
  refine (grow5 bk w3 ((unhide H3).bare 6 (by omega) (by omega) (by omega) (by omega))).mono ?_
  rintro e wz ⟨rfl, hw⟩
  rw [hw]
  clear hw wz
  go_wp2_with fail
  refine (grow6 bk w3 ((unhide H3).bare 7 (by omega) (by omega) (by omega) (by omega))).mono ?_
  rintro e wz ⟨rfl, hw⟩
  rw [hw]
  clear hw wz
  go_wp2_with fail
  refine (grow7 bk w3 ((unhide H3).bare 8 (by omega) (by omega) (by omega) (by omega))).mono ?_
  rintro e wz ⟨rfl, hw⟩
  rw [hw]
  clear hw wz
  go_wp2_with fail
  refine (growAllB (unhide H3).b1 (unhide H3).l1 (unhide F1)).mono ?_
  rintro e w4 ⟨rfl, g1, hw, hs⟩
  obtain ⟨U4, hu, he⟩ : ∃ U', _ ∧ Sep w3 w4 U3 U' := ⟨_, (unhide H3).went1 hw⟩
  have H4 := hide hu
  have E4 := hide ((unhide E3).trans he)
  have G1 := hide hs
  clear hw hu he hs
  go_wp2_with fail
  refine (growAllM (unhide H4).b2 (unhide H4).l2 (unhide F2)).mono ?_
  rintro e w5 ⟨rfl, g2, hw, hs⟩
  obtain ⟨U5, hu, he⟩ : ∃ U', _ ∧ Sep w4 w5 U4 U' := ⟨_, (unhide H4).went2 hw⟩
  have H5 := hide hu
  have E5 := hide ((unhide E4).trans he)
  have G2 := hide hs
  clear hw hu he hs
  go_wp2_with fail
  refine (grow10 bk w5 ((unhide H5).bare 11 (by omega) (by omega) (by omega) (by omega))).mono ?_
  rintro e wz ⟨rfl, hw⟩
  rw [hw]
  clear hw wz
  go_wp2_with fail
  refine (grow11 bk w5 ((unhide H5).bare 12 (by omega) (by omega) (by omega) (by omega))).mono ?_
  rintro e wz ⟨rfl, hw⟩
  rw [hw]
  clear hw wz
  go_wp2_with fail
  refine (grow12 bk w5 ((unhide H5).bare 13 (by omega) (by omega) (by omega) (by omega))).mono ?_
  rintro e wz ⟨rfl, hw⟩
  rw [hw]
  clear hw wz
  go_wp2_with fail
  refine (grow13 bk w5 ((unhide H5).bare 14 (by omega) (by omega) (by omega) (by omega))).mono ?_
  rintro e wz ⟨rfl, hw⟩
  rw [hw]
  clear hw wz
  go_wp2_with fail
  refine (grow14 bk w5 ((unhide H5).bare 15 (by omega) (by omega) (by omega) (by omega))).mono ?_
  rintro e wz ⟨rfl, hw⟩
  rw [hw]
  clear hw wz
  go_wp2_with fail
  refine (grow15 bk w5 ((unhide H5).bare 16 (by omega) (by omega) (by omega) (by omega))).mono ?_
  rintro e wz ⟨rfl, hw⟩
  rw [hw]
  clear hw wz
  go_wp2_with fail
  refine (grow16 bk w5 ((unhide H5).bare 17 (by omega) (by omega) (by omega) (by omega))).mono ?_
  rintro e wz ⟨rfl, hw⟩
  rw [hw]
  clear hw wz
  go_wp2_with fail
  refine (grow17 bk w5 ((unhide H5).bare 18 (by omega) (by omega) (by omega) (by omega))).mono ?_
  rintro e wz ⟨rfl, hw⟩
  rw [hw]
  clear hw wz
  go_wp2_with fail
  refine (grow18 bk w5 ((unhide H5).bare 19 (by omega) (by omega) (by omega) (by omega))).mono ?_
  rintro e wz ⟨rfl, hw⟩
  rw [hw]
  clear hw wz
  go_wp2_with fail
  refine (grow19 bk w5 ((unhide H5).bare 20 (by omega) (by omega) (by omega) (by omega))).mono ?_
  rintro e wz ⟨rfl, hw⟩
  rw [hw]
  clear hw wz
  have hI := hide ((unhide H5).intact (fun i hi => by rw [unhide G1 i hi]; omega) (fun i hi => by rw [unhide G2 i hi]; omega))
  go_wp2_with fail
  refine (unhide hI).mono ?_
  rintro e w6 ⟨rfl, hb⟩
  have H6 := hide ((unhide H5).below hb)
  have E6 := hide ((unhide E5).trans (Sep.of_below U5 hb))
  clear hb hI
  go_wp2_with fail
  go_ret
  exact ⟨rfl, g1, g2, U5, unhide H6, (fun i hi => by rw [unhide G1 i hi]; omega), (fun i hi => by rw [unhide G2 i hi]; omega), unhide E6⟩
end Go.Proofs.YtpeefmbdhkfhmaaGreatDoor.Kg
/- The book of a play as one thing: KB; what its calls make of it. By tools/genkb.py. -/
namespace Go.Proofs.YtpeefmbdhkfhmaaGreatDoor.Kg
open Go Go.Shelf Go.ChangeShapes Go.WideShapes Go.ChangeAt Go.RowKit Go.Maps
set_option linter.unusedVariables false
def KB (w : World) (bk : Nat) (U : Nat → Prop) : Prop := ∃ k m1 R1 p1 m2 R2 p2, KBIs w bk k m1 R1 p1 m2 R2 p2 U ∧ (∀ i, i < m1 → (p1 i).s ≠ 1) ∧ (∀ i, i < m2 → (p2 i).s ≠ 1)
theorem KB.on {w w' : World} {bk : Nat} {U : Nat → Prop} (h : KB w bk U) (hz : w.heap.size ≤ w'.heap.size) (hc : ∀ j, 0 ≤ j → w'.cell? ⟨bk, j, none⟩ = w.cell? ⟨bk, j, none⟩) (cf : ∀ j, w'.frozen? ⟨bk, j, none⟩ = w.frozen? ⟨bk, j, none⟩) (h1 : w'.heap[1]? = w.heap[1]?) (hU : ∀ q, U q → w'.heap[q]? = w.heap[q]?) : KB w' bk U := by
  obtain ⟨k, m1, R1, p1, m2, R2, p2, h, s⟩ := h
  exact ⟨k, m1, R1, p1, m2, R2, p2, h.on hz hc cf h1 hU, s⟩
theorem KB.below {w w' : World} {bk : Nat} {U : Nat → Prop} (h : KB w bk U) (hb : Below w.heap.size w w') : KB w' bk U := by
  obtain ⟨k, m1, R1, p1, m2, R2, p2, h, s⟩ := h
  exact ⟨k, m1, R1, p1, m2, R2, p2, h.below hb, s⟩
theorem KB.ul {w : World} {bk : Nat} {U : Nat → Prop} (h : KB w bk U) : ∀ q, U q → q ≠ bk ∧ 2 ≤ q ∧ q < w.heap.size := by
  obtain ⟨k, m1, R1, p1, m2, R2, p2, h, s⟩ := h
  exact h.ul
theorem KB.lt {w : World} {bk : Nat} {U : Nat → Prop} (h : KB w bk U) : bk < w.heap.size := by
  obtain ⟨k, m1, R1, p1, m2, R2, p2, h, s⟩ := h
  exact h.b1.lt
theorem KB.tab {w : World} {bk : Nat} {U : Nat → Prop} (h : KB w bk U) : Pw w := by
  obtain ⟨k, m1, R1, p1, m2, R2, p2, h, s⟩ := h
  exact h.b1.tab
theorem KB.fz {w : World} {bk : Nat} {U : Nat → Prop} (h : KB w bk U) : ∀ j, w.frozen? ⟨bk, j, none⟩ = false := by
  obtain ⟨k, m1, R1, p1, m2, R2, p2, h, s⟩ := h
  exact h.b1.fz
theorem KB.intact {w : World} {bk : Nat} {U : Nat → Prop} (h : KB w bk U) : Calls Tryz.prog 38 #[.pointer (some ⟨bk, 0, none⟩)] w fun e w' => e = .returned (.bool true) ∧ Below w.heap.size w w' := by
  obtain ⟨k, m1, R1, p1, m2, R2, p2, h, s1, s2⟩ := h
  exact h.intact s1 s2
theorem KB.settle {w : World} {bk : Nat} {U : Nat → Prop} (h : KB w bk U) : Calls Tryz.prog 14 #[.pointer (some ⟨bk, 0, none⟩)] w fun e w' => e = .returned (.bool true) ∧ ∃ U', KB w' bk U' ∧ Sep w w' U U' := by
  obtain ⟨k, m1, R1, p1, m2, R2, p2, h, s1, s2⟩ := h
  refine (h.settle s1 s2).mono ?_
  rintro e w' ⟨rfl, q1, q2, U', h', t1, t2, he⟩
  exact ⟨rfl, U', ⟨k, m1, R1, q1, m2, R2, q2, h', t1, t2⟩, he⟩
theorem KB.keepB {w : World} {bk : Nat} {U : Nat → Prop} (h : KB w bk U) {L : Value} {n : Nat} {X : List Bl} (hX : X.length = n) (own : w.ownsRow 0 kB.e kB.s L n (kB.flat X)) (le : n ≤ 900000) (hL : ∀ q, L.ownBlock = some q → q ≠ bk ∧ 2 ≤ q ∧ ¬ U q) : Calls Tryz.prog 34 #[.pointer (some ⟨bk, 0, none⟩), L] w fun e w' => e = .returned (.tuple #[]) ∧ ∃ U', KB w' bk U' ∧ Took w w' bk U U' L := by
  obtain ⟨k, m1, R1, p1, m2, R2, p2, h, s1, s2⟩ := h
  have hL' : ∀ q, L.ownBlock = some q → q ≠ bk ∧ 2 ≤ q ∧ q < w.heap.size ∧ ¬ U q := fun q hq => ⟨(hL q hq).1, (hL q hq).2.1, (row_lt own hq).2, (hL q hq).2.2⟩
  by_cases hm : m1 < 96
  · have hM : Mine zB w bk m1 R1 p1 L n X := ⟨own, le, hX, fun q hq => ⟨(hL q hq).1, fun e => (hL q hq).2.2 (h.u1 q e)⟩, fun e => by have := (hL 1 e).2.1; omega⟩
    refine (keepMoreB h.b1 h.c0 hM (by have := h.lk; have := h.l1; have := h.l2; omega) hm).mono ?_
    rintro e w' ⟨rfl, hmore⟩
    obtain ⟨R', P, hP, hK, hT⟩ := h.more1 hm hL' hmore
    exact ⟨rfl, _, ⟨k + 1, m1 + 1, R', upd p1 m1 P, m2, R2, p2, hK, (fun i hi => (Nat.lt_or_ge i m1).elim (fun e => by rw [upd_other _ _ _ _ (by omega)]; exact s1 i e) (fun e => by have e' : i = m1 := (by omega); rw [e', upd_same, hP]; omega)), s2⟩, hT⟩
  · obtain ⟨pa, pc, hR, _⟩ := book_row h.b1
    have c1 := h.b1.c1
    rw [hR] at c1
    refine (keepFullB bk m1 pc pa (by omega) w c1 L).mono ?_
    rintro e w' ⟨rfl, hw⟩
    rw [hw]
    exact ⟨rfl, U, ⟨k, m1, R1, p1, m2, R2, p2, h, s1, s2⟩, Took.refl _ _ _ _⟩
theorem KB.writeB {w : World} {bk : Nat} {U : Nat → Prop} (h : KB w bk U) {L : Value} {n : Nat} {X : List Bl} (hX : X.length = n) (own : w.ownsRow 0 kB.e kB.s L n (kB.flat X)) (le : n ≤ 900000) (hL : ∀ q, L.ownBlock = some q → q ≠ bk ∧ 2 ≤ q ∧ ¬ U q) : Calls Tryz.prog 36 #[.pointer (some ⟨bk, 0, none⟩), L] w fun e w' => e = .returned (.tuple #[]) ∧ ∃ U', KB w' bk U' ∧ Took w w' bk U U' L := by
  obtain ⟨k, m1, R1, p1, m2, R2, p2, h, s1, s2⟩ := h
  have hL' : ∀ q, L.ownBlock = some q → q ≠ bk ∧ 2 ≤ q ∧ q < w.heap.size ∧ ¬ U q := fun q hq => ⟨(hL q hq).1, (hL q hq).2.1, (row_lt own hq).2, (hL q hq).2.2⟩
  by_cases hm : m1 < 96
  · have hM : Mine zB w bk m1 R1 p1 L n X := ⟨own, le, hX, fun q hq => ⟨(hL q hq).1, fun e => (hL q hq).2.2 (h.u1 q e)⟩, fun e => by have := (hL 1 e).2.1; omega⟩
    refine (writeMoreB h.b1 h.c0 hM (by have := h.lk; have := h.l1; have := h.l2; omega) hm).mono ?_
    rintro e w' ⟨rfl, hmore⟩
    obtain ⟨R', P, hP, hK, hT⟩ := h.more1 hm hL' hmore
    exact ⟨rfl, _, ⟨k + 1, m1 + 1, R', upd p1 m1 P, m2, R2, p2, hK, (fun i hi => (Nat.lt_or_ge i m1).elim (fun e => by rw [upd_other _ _ _ _ (by omega)]; exact s1 i e) (fun e => by have e' : i = m1 := (by omega); rw [e', upd_same, hP]; omega)), s2⟩, hT⟩
  · obtain ⟨pa, pc, hR, _⟩ := book_row h.b1
    have c1 := h.b1.c1
    rw [hR] at c1
    refine (writeFullB bk m1 pc pa (by omega) w c1 L).mono ?_
    rintro e w' ⟨rfl, hw⟩
    rw [hw]
    exact ⟨rfl, U, ⟨k, m1, R1, p1, m2, R2, p2, h, s1, s2⟩, Took.refl _ _ _ _⟩
theorem KB.keepM {w : World} {bk : Nat} {U : Nat → Prop} (h : KB w bk U) {L : Value} {n : Nat} {X : List Cm} (hX : X.length = n) (own : w.ownsRow 0 kM.e kM.s L n (kM.flat X)) (le : n ≤ 900000) (hL : ∀ q, L.ownBlock = some q → q ≠ bk ∧ 2 ≤ q ∧ ¬ U q) : Calls Tryz.prog 35 #[.pointer (some ⟨bk, 0, none⟩), L] w fun e w' => e = .returned (.tuple #[]) ∧ ∃ U', KB w' bk U' ∧ Took w w' bk U U' L := by
  obtain ⟨k, m1, R1, p1, m2, R2, p2, h, s1, s2⟩ := h
  have hL' : ∀ q, L.ownBlock = some q → q ≠ bk ∧ 2 ≤ q ∧ q < w.heap.size ∧ ¬ U q := fun q hq => ⟨(hL q hq).1, (hL q hq).2.1, (row_lt own hq).2, (hL q hq).2.2⟩
  by_cases hm : m2 < 96
  · have hM : Mine zM w bk m2 R2 p2 L n X := ⟨own, le, hX, fun q hq => ⟨(hL q hq).1, fun e => (hL q hq).2.2 (h.u2 q e)⟩, fun e => by have := (hL 1 e).2.1; omega⟩
    refine (keepMoreM h.b2 h.c0 hM (by have := h.lk; have := h.l1; have := h.l2; omega) hm).mono ?_
    rintro e w' ⟨rfl, hmore⟩
    obtain ⟨R', P, hP, hK, hT⟩ := h.more2 hm hL' hmore
    exact ⟨rfl, _, ⟨k + 1, m1, R1, p1, m2 + 1, R', upd p2 m2 P, hK, s1, (fun i hi => (Nat.lt_or_ge i m2).elim (fun e => by rw [upd_other _ _ _ _ (by omega)]; exact s2 i e) (fun e => by have e' : i = m2 := (by omega); rw [e', upd_same, hP]; omega))⟩, hT⟩
  · obtain ⟨pa, pc, hR, _⟩ := book_row h.b2
    have c1 := h.b2.c1
    rw [hR] at c1
    refine (keepFullM bk m2 pc pa (by omega) w c1 L).mono ?_
    rintro e w' ⟨rfl, hw⟩
    rw [hw]
    exact ⟨rfl, U, ⟨k, m1, R1, p1, m2, R2, p2, h, s1, s2⟩, Took.refl _ _ _ _⟩
theorem KB.writeM {w : World} {bk : Nat} {U : Nat → Prop} (h : KB w bk U) {L : Value} {n : Nat} {X : List Cm} (hX : X.length = n) (own : w.ownsRow 0 kM.e kM.s L n (kM.flat X)) (le : n ≤ 900000) (hL : ∀ q, L.ownBlock = some q → q ≠ bk ∧ 2 ≤ q ∧ ¬ U q) : Calls Tryz.prog 37 #[.pointer (some ⟨bk, 0, none⟩), L] w fun e w' => e = .returned (.tuple #[]) ∧ ∃ U', KB w' bk U' ∧ Took w w' bk U U' L := by
  obtain ⟨k, m1, R1, p1, m2, R2, p2, h, s1, s2⟩ := h
  have hL' : ∀ q, L.ownBlock = some q → q ≠ bk ∧ 2 ≤ q ∧ q < w.heap.size ∧ ¬ U q := fun q hq => ⟨(hL q hq).1, (hL q hq).2.1, (row_lt own hq).2, (hL q hq).2.2⟩
  by_cases hm : m2 < 96
  · have hM : Mine zM w bk m2 R2 p2 L n X := ⟨own, le, hX, fun q hq => ⟨(hL q hq).1, fun e => (hL q hq).2.2 (h.u2 q e)⟩, fun e => by have := (hL 1 e).2.1; omega⟩
    refine (writeMoreM h.b2 h.c0 hM (by have := h.lk; have := h.l1; have := h.l2; omega) hm).mono ?_
    rintro e w' ⟨rfl, hmore⟩
    obtain ⟨R', P, hP, hK, hT⟩ := h.more2 hm hL' hmore
    exact ⟨rfl, _, ⟨k + 1, m1, R1, p1, m2 + 1, R', upd p2 m2 P, hK, s1, (fun i hi => (Nat.lt_or_ge i m2).elim (fun e => by rw [upd_other _ _ _ _ (by omega)]; exact s2 i e) (fun e => by have e' : i = m2 := (by omega); rw [e', upd_same, hP]; omega))⟩, hT⟩
  · obtain ⟨pa, pc, hR, _⟩ := book_row h.b2
    have c1 := h.b2.c1
    rw [hR] at c1
    refine (writeFullM bk m2 pc pa (by omega) w c1 L).mono ?_
    rintro e w' ⟨rfl, hw⟩
    rw [hw]
    exact ⟨rfl, U, ⟨k, m1, R1, p1, m2, R2, p2, h, s1, s2⟩, Took.refl _ _ _ _⟩
end Go.Proofs.YtpeefmbdhkfhmaaGreatDoor.Kg
