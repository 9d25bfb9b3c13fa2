import Derived.Test.YtmgnlgobkkfjhaaGreatDoorW27
import Derived.Test.YtmgnlgobkkfjhaaGreatDoorW04
import Derived.Test.YtmgnlgobkkfjhaaGreatDoorW24
/- The book of the law: Settle (14). By tools/kb1.py. -/
namespace Go.Proofs.YtmgnlgobkkfjhaaGreatDoor.Kg
open Go Go.Shelf Go.ChangeShapes Go.WideShapes Go.ChangeAt Go.RowKit Go.Maps
set_option linter.unusedVariables false
set_option maxRecDepth 100000 in
set_option maxHeartbeats 16000000 in
theorem KBIs.settle {w : World} {bk k m1 : Nat} {R1 : Value} {p1 : Nat → Pg Dq} {U : Nat → Prop} (h : KBIs w bk k m1 R1 p1 U) (s1 : ∀ i, i < m1 → (p1 i).s ≠ 1) : Calls Tryz.prog 14 #[.pointer (some ⟨bk, 0, none⟩)] w fun e w' => e = .returned (.bool true) ∧ ∃ q1 U', KBIs w' bk k m1 R1 q1 U' ∧ (∀ i, i < m1 → (q1 i).s ≠ 1) ∧ Sep w w' U U' := by
  have H0 := hide h
  have hI := hide (h.intact s1)
  clear h s1
  go_enter Tryz.func14, Tryz.ntmps14
  go_wp2_with fail
  refine (unhide hI).mono ?_
  rintro e w1 ⟨rfl, hb⟩
  have H1 := hide ((unhide H0).below hb)
  have E1 := hide (Sep.of_below U hb)
  obtain ⟨U1, hU1⟩ : ∃ U1, U1 = U := ⟨_, rfl⟩
  rw [← hU1] at H1
  have E1 : Hid (Sep w w1 U U1) := by rw [hU1]; exact unhide E1
  clear hb hI hU1
  go_wp2_with fail
  refine (fill0 bk w1 ((unhide H1).bare 1 (by omega) (by omega) (by omega))).mono ?_
  rintro e wz ⟨rfl, hw⟩
  rw [hw]
  clear hw wz
  go_wp2_with fail
  refine (fill1 bk w1 ((unhide H1).bare 2 (by omega) (by omega) (by omega))).mono ?_
  rintro e wz ⟨rfl, hw⟩
  rw [hw]
  clear hw wz
  go_wp2_with fail
  refine (fill2 bk w1 ((unhide H1).bare 3 (by omega) (by omega) (by omega))).mono ?_
  rintro e wz ⟨rfl, hw⟩
  rw [hw]
  clear hw wz
  go_wp2_with fail
  refine (fill3 bk w1 ((unhide H1).bare 4 (by omega) (by omega) (by omega))).mono ?_
  rintro e wz ⟨rfl, hw⟩
  rw [hw]
  clear hw wz
  go_wp2_with fail
  refine (fill4 bk w1 ((unhide H1).bare 5 (by omega) (by omega) (by omega))).mono ?_
  rintro e wz ⟨rfl, hw⟩
  rw [hw]
  clear hw wz
  go_wp2_with fail
  refine (fill5 bk w1 ((unhide H1).bare 6 (by omega) (by omega) (by omega))).mono ?_
  rintro e wz ⟨rfl, hw⟩
  rw [hw]
  clear hw wz
  go_wp2_with fail
  refine (fill6 bk w1 ((unhide H1).bare 7 (by omega) (by omega) (by omega))).mono ?_
  rintro e wz ⟨rfl, hw⟩
  rw [hw]
  clear hw wz
  go_wp2_with fail
  refine (fill7 bk w1 ((unhide H1).bare 8 (by omega) (by omega) (by omega))).mono ?_
  rintro e wz ⟨rfl, hw⟩
  rw [hw]
  clear hw wz
  go_wp2_with fail
  refine (fill8 bk w1 ((unhide H1).bare 9 (by omega) (by omega) (by omega))).mono ?_
  rintro e wz ⟨rfl, hw⟩
  rw [hw]
  clear hw wz
  go_wp2_with fail
  refine (fill9 bk w1 ((unhide H1).bare 10 (by omega) (by omega) (by omega))).mono ?_
  rintro e wz ⟨rfl, hw⟩
  rw [hw]
  clear hw wz
  go_wp2_with fail
  refine (fillAllQ (unhide H1).b1 (unhide H1).l1).mono ?_
  rintro e w2 ⟨rfl, f1, hw, hs⟩
  obtain ⟨U2, hu, he⟩ : ∃ U', _ ∧ Sep w1 w2 U1 U' := ⟨_, (unhide H1).went1 hw⟩
  have H2 := hide hu
  have E2 := hide ((unhide E1).trans he)
  have F1 := hide hs
  clear hw hu he hs
  go_wp2_with fail
  refine (fill11 bk w2 ((unhide H2).bare 12 (by omega) (by omega) (by omega))).mono ?_
  rintro e wz ⟨rfl, hw⟩
  rw [hw]
  clear hw wz
  go_wp2_with fail
  refine (fill12 bk w2 ((unhide H2).bare 13 (by omega) (by omega) (by omega))).mono ?_
  rintro e wz ⟨rfl, hw⟩
  rw [hw]
  clear hw wz
  go_wp2_with fail
  refine (fill13 bk w2 ((unhide H2).bare 14 (by omega) (by omega) (by omega))).mono ?_
  rintro e wz ⟨rfl, hw⟩
  rw [hw]
  clear hw wz
  go_wp2_with fail
  refine (fill14 bk w2 ((unhide H2).bare 15 (by omega) (by omega) (by omega))).mono ?_
  rintro e wz ⟨rfl, hw⟩
  rw [hw]
  clear hw wz
  go_wp2_with fail
  refine (fill15 bk w2 ((unhide H2).bare 16 (by omega) (by omega) (by omega))).mono ?_
  rintro e wz ⟨rfl, hw⟩
  rw [hw]
  clear hw wz
  go_wp2_with fail
  refine (fill16 bk w2 ((unhide H2).bare 17 (by omega) (by omega) (by omega))).mono ?_
  rintro e wz ⟨rfl, hw⟩
  rw [hw]
  clear hw wz
  go_wp2_with fail
  refine (fill17 bk w2 ((unhide H2).bare 18 (by omega) (by omega) (by omega))).mono ?_
  rintro e wz ⟨rfl, hw⟩
  rw [hw]
  clear hw wz
  go_wp2_with fail
  refine (fill18 bk w2 ((unhide H2).bare 19 (by omega) (by omega) (by omega))).mono ?_
  rintro e wz ⟨rfl, hw⟩
  rw [hw]
  clear hw wz
  go_wp2_with fail
  refine (fill19 bk w2 ((unhide H2).bare 20 (by omega) (by omega) (by omega))).mono ?_
  rintro e wz ⟨rfl, hw⟩
  rw [hw]
  clear hw wz
  go_wp2_with fail
  refine (grow0 bk w2 ((unhide H2).bare 1 (by omega) (by omega) (by omega))).mono ?_
  rintro e wz ⟨rfl, hw⟩
  rw [hw]
  clear hw wz
  go_wp2_with fail
  refine (grow1 bk w2 ((unhide H2).bare 2 (by omega) (by omega) (by omega))).mono ?_
  rintro e wz ⟨rfl, hw⟩
  rw [hw]
  clear hw wz
  go_wp2_with fail
  refine (grow2 bk w2 ((unhide H2).bare 3 (by omega) (by omega) (by omega))).mono ?_
  rintro e wz ⟨rfl, hw⟩
  rw [hw]
  clear hw wz
  go_wp2_with fail
  refine (grow3 bk w2 ((unhide H2).bare 4 (by omega) (by omega) (by omega))).mono ?_
  rintro e wz ⟨rfl, hw⟩
  rw [hw]
  clear hw wz
  go_wp2_with fail
  refine (grow4 bk w2 ((unhide H2).bare 5 (by omega) (by omega) (by omega))).mono ?_
  rintro e wz ⟨rfl, hw⟩
  rw [hw]
  clear hw wz
  go_wp2_with fail
  refine (grow5 bk w2 ((unhide H2).bare 6 (by omega) (by omega) (by omega))).mono ?_
  rintro e wz ⟨rfl, hw⟩
  rw [hw]
  clear hw wz
  go_wp2_with fail
  refine (grow6 bk w2 ((unhide H2).bare 7 (by omega) (by omega) (by omega))).mono ?_
  rintro e wz ⟨rfl, hw⟩
  rw [hw]
  clear hw wz
  go_wp2_with fail
  refine (grow7 bk w2 ((unhide H2).bare 8 (by omega) (by omega) (by omega))).mono ?_
  rintro e wz ⟨rfl, hw⟩
  rw [hw]
  clear hw wz
  go_wp2_with fail
  refine (grow8 bk w2 ((unhide H2).bare 9 (by omega) (by omega) (by omega))).mono ?_
  rintro e wz ⟨rfl, hw⟩
  rw [hw]
  clear hw wz
  go_wp2_with fail
  refine (grow9 bk w2 ((unhide H2).bare 10 (by omega) (by omega) (by omega))).mono ?_
  rintro e wz ⟨rfl, hw⟩
  rw [hw]
  clear hw wz
  go_wp2_with fail
  refine (growAllQ (unhide H2).b1 (unhide H2).l1 (unhide F1)).mono ?_
  rintro e w3 ⟨rfl, g1, hw, hs⟩
  obtain ⟨U3, hu, he⟩ : ∃ U', _ ∧ Sep w2 w3 U2 U' := ⟨_, (unhide H2).went1 hw⟩
  have H3 := hide hu
  have E3 := hide ((unhide E2).trans he)
  have G1 := hide hs
  clear hw hu he hs
  go_wp2_with fail
  refine (grow11 bk w3 ((unhide H3).bare 12 (by omega) (by omega) (by omega))).mono ?_
  rintro e wz ⟨rfl, hw⟩
  rw [hw]
  clear hw wz
  go_wp2_with fail
  refine (grow12 bk w3 ((unhide H3).bare 13 (by omega) (by omega) (by omega))).mono ?_
  rintro e wz ⟨rfl, hw⟩
  rw [hw]
  clear hw wz
  go_wp2_with fail
  refine (grow13 bk w3 ((unhide H3).bare 14 (by omega) (by omega) (by omega))).mono ?_
  rintro e wz ⟨rfl, hw⟩
  rw [hw]
  clear hw wz
  go_wp2_with fail
  refine (grow14 bk w3 ((unhide H3).bare 15 (by omega) (by omega) (by omega))).mono ?_
  rintro e wz ⟨rfl, hw⟩
  rw [hw]
  clear hw wz
  go_wp2_with fail
  refine (grow15 bk w3 ((unhide H3).bare 16 (by omega) (by omega) (by omega))).mono ?_
  rintro e wz ⟨rfl, hw⟩
  rw [hw]
  clear hw wz
  go_wp2_with fail
  refine (grow16 bk w3 ((unhide H3).bare 17 (by omega) (by omega) (by omega))).mono ?_
  rintro e wz ⟨rfl, hw⟩
  rw [hw]
  clear hw wz
  go_wp2_with fail
  refine (grow17 bk w3 ((unhide H3).bare 18 (by omega) (by omega) (by omega))).mono ?_
  rintro e wz ⟨rfl, hw⟩
  rw [hw]
  clear hw wz
  go_wp2_with fail
  refine (grow18 bk w3 ((unhide H3).bare 19 (by omega) (by omega) (by omega))).mono ?_
  rintro e wz ⟨rfl, hw⟩
  rw [hw]
  clear hw wz
  go_wp2_with fail
  refine (grow19 bk w3 ((unhide H3).bare 20 (by omega) (by omega) (by omega))).mono ?_
  rintro e wz ⟨rfl, hw⟩
  rw [hw]
  clear hw wz
  have hI2 := hide ((unhide H3).intact (fun i hi => by rw [unhide G1 i hi]; omega))
  go_wp2_with fail
  refine (unhide hI2).mono ?_
  rintro e w9 ⟨rfl, hb⟩
  have H9 := hide ((unhide H3).below hb)
  have E9 := hide ((unhide E3).trans (Sep.of_below U3 hb))
  clear hb hI2
  go_wp2_with fail
  go_ret
  exact ⟨rfl, g1, U3, unhide H9, fun i hi => by rw [unhide G1 i hi]; omega, unhide E9⟩
end Go.Proofs.YtmgnlgobkkfjhaaGreatDoor.Kg
/- The book of the law as one thing: KB; what its calls make of it. By tools/kb1.py. -/
namespace Go.Proofs.YtmgnlgobkkfjhaaGreatDoor.Kg
open Go Go.Shelf Go.ChangeShapes Go.WideShapes Go.ChangeAt Go.RowKit Go.Maps
set_option linter.unusedVariables false
def KB (w : World) (bk : Nat) (U : Nat → Prop) : Prop := ∃ k m1 R1 p1, KBIs w bk k m1 R1 p1 U ∧ (∀ i, i < m1 → (p1 i).s ≠ 1)
theorem KB.below {w w' : World} {bk : Nat} {U : Nat → Prop} (h : KB w bk U) (hb : Below w.heap.size w w') : KB w' bk U := by
  obtain ⟨k, m1, R1, p1, h, s⟩ := h
  exact ⟨k, m1, R1, p1, h.below hb, s⟩
theorem KB.ul {w : World} {bk : Nat} {U : Nat → Prop} (h : KB w bk U) : ∀ q, U q → q ≠ bk ∧ 2 ≤ q ∧ q < w.heap.size := by
  obtain ⟨k, m1, R1, p1, h, s⟩ := h
  exact h.ul
theorem KB.lt {w : World} {bk : Nat} {U : Nat → Prop} (h : KB w bk U) : bk < w.heap.size := by
  obtain ⟨k, m1, R1, p1, h, s⟩ := h
  exact h.b1.lt
theorem KB.settle {w : World} {bk : Nat} {U : Nat → Prop} (h : KB w bk U) : Calls Tryz.prog 14 #[.pointer (some ⟨bk, 0, none⟩)] w fun e w' => e = .returned (.bool true) ∧ ∃ U', KB w' bk U' ∧ Sep w w' U U' := by
  obtain ⟨k, m1, R1, p1, h, s1⟩ := h
  refine (h.settle s1).mono ?_
  rintro e w' ⟨rfl, q1, U', h', t1, he⟩
  exact ⟨rfl, U', ⟨k, m1, R1, q1, h', t1⟩, he⟩
theorem KB.keep {w : World} {bk : Nat} {U : Nat → Prop} (h : KB w bk U) {L : Value} {n : Nat} {X : List Dq} (hX : X.length = n) (own : w.ownsRow 0 kQ.e kQ.s L n (kQ.flat X)) (le : n ≤ 900000) (hL : ∀ q, L.ownBlock = some q → q ≠ bk ∧ 2 ≤ q ∧ ¬ U q) : Calls Tryz.prog 29 #[.pointer (some ⟨bk, 0, none⟩), L] w fun e w' => e = .returned (.tuple #[]) ∧ ∃ U', KB w' bk U' ∧ Took w w' bk U U' L := by
  obtain ⟨k, m1, R1, p1, h, s1⟩ := h
  have hL' : ∀ q, L.ownBlock = some q → q ≠ bk ∧ 2 ≤ q ∧ q < w.heap.size ∧ ¬ U q := fun q hq => ⟨(hL q hq).1, (hL q hq).2.1, (row_lt own hq).2, (hL q hq).2.2⟩
  by_cases hm : m1 < 96
  · have hM : Mine zQ w bk m1 R1 p1 L n X := ⟨own, le, hX, fun q hq => ⟨(hL q hq).1, fun e => (hL q hq).2.2 (h.u1 q e)⟩, fun e => by have := (hL 1 e).2.1; omega⟩
    refine (keepMoreQ h.b1 h.c0 hM (by have := h.lk; have := h.l1; omega) hm).mono ?_
    rintro e w' ⟨rfl, hmore⟩
    obtain ⟨R', P, hP, hK, hT⟩ := h.more1 hm hL' hmore
    exact ⟨rfl, _, ⟨k + 1, m1 + 1, R', upd p1 m1 P, hK, (fun i hi => (Nat.lt_or_ge i m1).elim (fun e => by rw [upd_other _ _ _ _ (by omega)]; exact s1 i e) (fun e => by have e' : i = m1 := (by omega); rw [e', upd_same, hP]; omega))⟩, hT⟩
  · obtain ⟨pa, pc, hR, _⟩ := book_row h.b1
    have c1 := h.b1.c1
    rw [hR] at c1
    refine (keepFullQ bk m1 pc pa (by omega) w c1 L).mono ?_
    rintro e w' ⟨rfl, hw⟩
    rw [hw]
    exact ⟨rfl, U, ⟨k, m1, R1, p1, h, s1⟩, Took.refl _ _ _ _⟩
theorem KB.write {w : World} {bk : Nat} {U : Nat → Prop} (h : KB w bk U) {L : Value} {n : Nat} {X : List Dq} (hX : X.length = n) (own : w.ownsRow 0 kQ.e kQ.s L n (kQ.flat X)) (le : n ≤ 900000) (hL : ∀ q, L.ownBlock = some q → q ≠ bk ∧ 2 ≤ q ∧ ¬ U q) : Calls Tryz.prog 30 #[.pointer (some ⟨bk, 0, none⟩), L] w fun e w' => e = .returned (.tuple #[]) ∧ ∃ U', KB w' bk U' ∧ Took w w' bk U U' L := by
  obtain ⟨k, m1, R1, p1, h, s1⟩ := h
  have hL' : ∀ q, L.ownBlock = some q → q ≠ bk ∧ 2 ≤ q ∧ q < w.heap.size ∧ ¬ U q := fun q hq => ⟨(hL q hq).1, (hL q hq).2.1, (row_lt own hq).2, (hL q hq).2.2⟩
  by_cases hm : m1 < 96
  · have hM : Mine zQ w bk m1 R1 p1 L n X := ⟨own, le, hX, fun q hq => ⟨(hL q hq).1, fun e => (hL q hq).2.2 (h.u1 q e)⟩, fun e => by have := (hL 1 e).2.1; omega⟩
    refine (writeMoreQ h.b1 h.c0 hM (by have := h.lk; have := h.l1; omega) hm).mono ?_
    rintro e w' ⟨rfl, hmore⟩
    obtain ⟨R', P, hP, hK, hT⟩ := h.more1 hm hL' hmore
    exact ⟨rfl, _, ⟨k + 1, m1 + 1, R', upd p1 m1 P, hK, (fun i hi => (Nat.lt_or_ge i m1).elim (fun e => by rw [upd_other _ _ _ _ (by omega)]; exact s1 i e) (fun e => by have e' : i = m1 := (by omega); rw [e', upd_same, hP]; omega))⟩, hT⟩
  · obtain ⟨pa, pc, hR, _⟩ := book_row h.b1
    have c1 := h.b1.c1
    rw [hR] at c1
    refine (writeFullQ bk m1 pc pa (by omega) w c1 L).mono ?_
    rintro e w' ⟨rfl, hw⟩
    rw [hw]
    exact ⟨rfl, U, ⟨k, m1, R1, p1, h, s1⟩, Took.refl _ _ _ _⟩
/-- a new book -/
theorem KB.new {w : World} {bk : Nat} (h : w.heap[bk]? = some (.cells #[.int .i64 0, .slice none 0 0, .slice none 0 0, .slice none 0 0, .slice none 0 0, .slice none 0 0, .slice none 0 0, .slice none 0 0, .slice none 0 0, .slice none 0 0, .slice none 0 0, .slice none 0 0, .slice none 0 0, .slice none 0 0, .slice none 0 0, .slice none 0 0, .slice none 0 0, .slice none 0 0, .slice none 0 0, .slice none 0 0, .slice none 0 0] 52 (0, 0))) (hP : Pw w) (hb1 : bk ≠ 1) : KB w bk (fun _ => False) := by
  have hc : ∀ j, w.cell? ⟨bk, j, none⟩ = _ := fun j => cell_at (i := j) h
  have hlt : bk < w.heap.size := (Array.getElem?_eq_some_iff.1 h).1
  refine ⟨0, 0, .slice none 0 0, fun _ => ⟨.slice none 0 0, 0, .slice none 0 0, .slice none 0 0, 0, 0, []⟩, ⟨(hc 0).trans rfl, ?_, by omega, by omega, fun j a b c => ?_, ?_, fun q hq => hq.elim⟩, fun i hi => by omega⟩
  · exact ⟨(hc 11).trans rfl, fun i => froz_at h, ⟨rfl, .inl ⟨rfl, rfl⟩⟩, (fun e => by cases e), fun i hi => by omega, fun i hi => by omega, fun i hi => by omega, hP, hb1, (fun e => by cases e), fun i hi => by omega⟩
  · rw [hc]
    have : j = 1 ∨ j = 2 ∨ j = 3 ∨ j = 4 ∨ j = 5 ∨ j = 6 ∨ j = 7 ∨ j = 8 ∨ j = 9 ∨ j = 10 ∨ j = 12 ∨ j = 13 ∨ j = 14 ∨ j = 15 ∨ j = 16 ∨ j = 17 ∨ j = 18 ∨ j = 19 ∨ j = 20 := by omega
    rcases this with rfl | rfl | rfl | rfl | rfl | rfl | rfl | rfl | rfl | rfl | rfl | rfl | rfl | rfl | rfl | rfl | rfl | rfl | rfl <;> rfl
  · rintro q (hq | ⟨i, hi, _⟩)
    · cases hq
    · omega
end Go.Proofs.YtmgnlgobkkfjhaaGreatDoor.Kg
/- daily: a view of the program and one of the document side by side; what both tell. -/
namespace Go.Proofs.YtmgnlgobkkfjhaaGreatDoor.Kg
open Go Go.RowKit Go.Shelf Go.ChangeShapes Go.WideShapes Go.ChangeAt Go.Maps
set_option linter.unusedVariables false
set_option linter.unusedSimpArgs false
set_option maxRecDepth 100000
set_option maxHeartbeats 8000000
/-- how much rows weigh -/
def wRo (r : Ro) : Nat := 4 + r.acc.size
def wDq (x : Dq) : Nat := 4 + x.acc.size
def mz (R : List Ro) : Nat := (R.map wRo).sum
theorem mz_append (A B : List Ro) : mz (A ++ B) = mz A + mz B := by simp [mz]
theorem mz_len : ∀ R : List Ro, 4 * R.length ≤ mz R
  | [] => by simp [mz]
  | s :: r => by
    have := mz_len r
    simp only [mz, wRo, List.map_cons, List.sum_cons, List.length_cons] at this ⊢
    omega
theorem mz_mem : ∀ {R : List Ro} {s : Ro}, s ∈ R → s.acc.size ≤ mz R
  | [], _, h => by cases h
  | x :: r, s, h => by
    simp only [mz, wRo, List.map_cons, List.sum_cons]
    rcases List.mem_cons.1 h with rfl | h
    · omega
    · have := mz_mem h
      simp only [mz, wRo] at this
      omega
theorem wq_len : ∀ X : List Dq, 4 * X.length ≤ (X.map wDq).sum
  | [] => by simp
  | s :: r => by
    have := wq_len r
    simp only [wDq, List.map_cons, List.sum_cons, List.length_cons] at this ⊢
    omega
theorem wq_mem : ∀ {X : List Dq} {s : Dq}, s ∈ X → s.acc.size ≤ (X.map wDq).sum
  | [], _, h => by cases h
  | x :: r, s, h => by
    simp only [wDq, List.map_cons, List.sum_cons]
    rcases List.mem_cons.1 h with rfl | h
    · omega
    · have := wq_mem h
      omega
theorem mz_qR (X : List Dq) : mz (X.map qR) = (X.map wDq).sum := by
  unfold mz
  rw [List.map_map]
  rfl
/-- a view of the program and one of the document that were told the same; F: the blocks where they lie -/
structure Tw (w : World) (d r : Nat) (F : Nat → Prop) (R : List Ro) : Prop where
  ex : ∃ Q S, Vq w d Q R ∧ Rd w r S R ∧ (∀ k, Q k → F k) ∧ (∀ k, S k → F k) ∧ (∀ k, Q k → ¬ S k)
  lt : ∀ q, F q → q < w.heap.size
theorem Tw.keep {w w' : World} {d r : Nat} {F : Nat → Prop} {R : List Ro} (h : Tw w d r F R) (hz : w.heap.size ≤ w'.heap.size) (hb : ∀ q, F q → w'.heap[q]? = w.heap[q]?) : Tw w' d r F R := by
  obtain ⟨Q, S, hv, hr, h1, h2, h3⟩ := h.ex
  exact ⟨⟨Q, S, hv.keep hz (fun k hk => hb k (h1 k hk)), hr.keep hz (fun q hq => hb q (h2 q hq)), h1, h2, h3⟩, fun q hq => Nat.lt_of_lt_of_le (h.lt q hq) hz⟩
theorem Tw.below {w w' : World} {d r : Nat} {F : Nat → Prop} {R : List Ro} (h : Tw w d r F R) (hb : Below w.heap.size w w') : Tw w' d r F R :=
  h.keep hb.size (fun q hq => hb.block q (h.lt q hq))
section
variable {w : World} {d r : Nat} {F : Nat → Prop} {R : List Ro}
theorem Tw.fd (h : Tw w d r F R) : F d := by
  obtain ⟨Q, S, hv, hr, h1, h2, h3⟩ := h.ex
  exact h1 d hv.qd
theorem Tw.fr (h : Tw w d r F R) : F r := by
  obtain ⟨Q, S, hv, hr, h1, h2, h3⟩ := h.ex
  exact h2 r hr.sd
theorem Tw.t24 (h : Tw w d r F R) (hl : mz R ≤ 1048576) (s : ByteArray) (hs : s.size ≤ 1048576) (day : Int) : Calls Tryz.prog 24 #[.pointer (some ⟨d, 0, none⟩), .string s, .int .i64 day] w fun e w' => e = .returned (.int .i64 (blc (tol R s.data.toList) day)) ∧ Below w.heap.size w w' := by
  obtain ⟨Q, S, hv, hr, h1, h2, h3⟩ := h.ex
  have := mz_len R
  exact at_vq hv (by omega) (by omega) day
theorem Tw.t25 (h : Tw w d r F R) (s : ByteArray) (day : Int) : Calls Tryz.prog 25 #[.pointer (some ⟨r, 0, none⟩), .string s, .int .i64 day] w fun e w' => e = .returned (.int .i64 (blc (tol R s.data.toList) day)) ∧ Below w.heap.size w w' := by
  obtain ⟨Q, S, hv, hr, h1, h2, h3⟩ := h.ex
  have := rat_any hr s day
  rw [sumL_is (by rw [amt_blc (fun r hr' => (hr.dy r hr').1)]; exact (hv.fit s.data.toList day).2), amt_blc (fun r hr' => (hr.dy r hr').1)] at this
  exact this
/-- what Between tells -/
noncomputable def btR (R : List Ro) (s : ByteArray) (fr tt : Int) : List Dq := (btw (FR R s.data.toList) fr tt).map (mq s)
theorem bt_len (R : List Ro) (s : ByteArray) (fr tt : Int) : (btR R s fr tt).length ≤ R.length := by
  unfold btR
  rw [List.length_map]
  have h1 : (btw (FR R s.data.toList) fr tt).length ≤ (FR R s.data.toList).length := List.length_filter_le _ _
  have h2 := ser_le (FR_is R s.data.toList)
  have h3 := tol_len R s.data.toList
  omega
theorem Tw.t18 (h : Tw w d r F R) (hl : mz R ≤ 1048576) : Calls Tryz.prog 18 #[.pointer (some ⟨d, 0, none⟩)] w fun e w' => ∃ p c, e = .returned (.slice p (stR R).length c) ∧ Ml kQ w w' (.slice p (stR R).length c) (stR R) ∧ (stR R).length ≤ 900000 := by
  obtain ⟨Q, S, hv, hr, h1, h2, h3⟩ := h.ex
  have := mz_len R
  have := stR_len R
  refine (state_vq hv (by omega)).mono ?_
  rintro e w' ⟨p, c, rfl, hm⟩
  exact ⟨p, c, rfl, hm, by omega⟩
theorem Tw.t26 (h : Tw w d r F R) (hl : mz R ≤ 1048576) (s : ByteArray) (hs : s.size ≤ 1048576) (fr tt : Int) : Calls Tryz.prog 26 #[.pointer (some ⟨d, 0, none⟩), .string s, .int .i64 fr, .int .i64 tt] w fun e w' => ∃ p c, e = .returned (.slice p (btR R s fr tt).length c) ∧ Ml kQ w w' (.slice p (btR R s fr tt).length c) (btR R s fr tt) ∧ (btR R s fr tt).length ≤ 900000 := by
  obtain ⟨Q, S, hv, hr, h1, h2, h3⟩ := h.ex
  have := mz_len R
  have := bt_len R s fr tt
  refine (btw_vq hv (by omega) (by omega) fr tt).mono ?_
  rintro e w' ⟨p, c, rfl, hm⟩
  exact ⟨p, c, rfl, hm, by omega⟩
theorem Tw.t20 (h : Tw w d r F R) : Calls Tryz.prog 20 #[.pointer (some ⟨r, 0, none⟩)] w fun e w' => ∃ p c, e = .returned (.slice p (stR R).length c) ∧ Ml kQ w w' (.slice p (stR R).length c) (stR R) := by
  obtain ⟨Q, S, hv, hr, h1, h2, h3⟩ := h.ex
  exact rstate_any hr (FR_is R) hv.fit (fun r hr' => okR_ne (hv.ok r hr'))
theorem Tw.t28 (h : Tw w d r F R) (s : ByteArray) (fr tt : Int) : Calls Tryz.prog 28 #[.pointer (some ⟨r, 0, none⟩), .string s, .int .i64 fr, .int .i64 tt] w fun e w' => ∃ p c, e = .returned (.slice p (btR R s fr tt).length c) ∧ Ml kQ w w' (.slice p (btR R s fr tt).length c) (btR R s fr tt) := by
  obtain ⟨Q, S, hv, hr, h1, h2, h3⟩ := h.ex
  have h2 := ser_le (FR_is R s.data.toList)
  have h3 := tol_len R s.data.toList
  have := hr.few
  exact rbtw_any hr s (FR_is R _) (hv.fit _) (by omega) fr tt
end
end Go.Proofs.YtmgnlgobkkfjhaaGreatDoor.Kg
/- slices.Equal (17) of days, the law's sameDays (27). -/
namespace Go.Proofs.YtmgnlgobkkfjhaaGreatDoor.Kg
open Go Go.RowKit Go.Shelf Go.ChangeShapes Go.WideShapes Go.ChangeAt Go.Maps
set_option linter.unusedVariables false
set_option linter.unusedSimpArgs false
set_option maxRecDepth 100000
set_option maxHeartbeats 8000000
attribute [local go_sem ↓] ld44_is
def EqOut (W : World) (T X : List Dq) (e : Ending) (w' : World) : Prop := ∃ b : Bool, e = .returned (.bool b) ∧ (b = true ↔ T = X) ∧ ∃ m, w' = W.drewN m
theorem EqOut.no {W w' : World} {T X : List Dq} (h : ¬ T = X) (m : Nat) (hw : w' = W.drewN m) : EqOut W T X (.returned (.bool false)) w' := ⟨false, rfl, ⟨fun h => (nomatch h), fun k => absurd k h⟩, m, hw⟩
theorem EqOut.yes {W w' : World} {T X : List Dq} (h : T = X) (m : Nat) (hw : w' = W.drewN m) : EqOut W T X (.returned (.bool true)) w' := ⟨true, rfl, ⟨fun _ => h, fun _ => rfl⟩, m, hw⟩
/-- slices.Equal at two lists of days -/
theorem equal_q {W : World} {p1 p2 : Option Addr} {c1 c2 : Nat} {T X : List Dq} (h1 : Lies kQ W p1 T) (h2 : Lies kQ W p2 X) (hT : T.length ≤ 549755813888000) :
    Calls Tryz.prog 17 #[.slice p1 T.length c1, .slice p2 X.length c2] W fun e w' => EqOut W T X e w' := by
  obtain ⟨t, ht⟩ : ∃ t, t = T.length := ⟨_, rfl⟩
  obtain ⟨n, hn⟩ : ∃ n, n = X.length := ⟨_, rfl⟩
  rw [← ht] at hT ⊢
  rw [← hn]
  have HL3 := hide h1; have HLX := hide h2; have HT := hide ht; have HN := hide hn
  have hst := st44
  have hsh := sh44
  have heg := eg44
  clear h1 h2 ht hn
  go_enter Tryz.func17, Tryz.ntmps17
  by_cases htn : t = n
  · subst htn
    go_wp2_with fail
    go_loopw [13] (fun v9 wr => ∃ (k m : Nat), v9 = .int .i64 k ∧ k ≤ t ∧ Hid (wr = W.drewN m ∧ T.take k = X.take k)) (fun v9 _ => t - (intOf v9).toNat)
    case atStart => exact ⟨0, 0, rfl, by omega, rfl, rfl⟩
    case round =>
      obtain ⟨k, m, rfl, hk, hrel⟩ := hrel
      obtain ⟨hw, hpre⟩ := unhide hrel
      have HW := hide hw
      clear hw
      by_cases hkt : k < t
      · have hkT : k < T.length := by rw [← unhide HT]; exact hkt
        have hkX : k < X.length := by rw [← unhide HN]; exact hkt
        obtain ⟨ba, oa, ea, _, ra⟩ := (unhide HL3).2 k hkT
        obtain ⟨bb, ob, eb, _, rb⟩ := (unhide HLX).2 k hkX
        obtain ⟨ya, hya⟩ : ∃ y, y = T[k] := ⟨_, rfl⟩
        obtain ⟨yb, hyb⟩ : ∃ y, y = X[k] := ⟨_, rfl⟩
        rw [← hya] at ra
        rw [← hyb] at rb
        subst ea eb
        have hKI : (k : Int) < (t : Int) := by omega
        have hK0 : (0 : Int) ≤ (k : Int) := by omega
        have la : ∀ d', (ld44 (.pointer (some ⟨ba, oa + k * 4, none⟩))).run Tryz.prog (wr.drewN d') = .ok (.agg #[.string ya.acc, .int .i64 ya.day, .int .i64 ya.chg, .int .i64 ya.bal]) (wr.drewN d') := fun d' => by rw [unhide HW]; exact ld38 (x := ya) ra
        have lb : ∀ d', (ld44 (.pointer (some ⟨bb, ob + k * 4, none⟩))).run Tryz.prog (wr.drewN d') = .ok (.agg #[.string yb.acc, .int .i64 yb.day, .int .i64 yb.chg, .int .i64 yb.bal]) (wr.drewN d') := fun d' => by rw [unhide HW]; exact ld38 (x := yb) rb
        by_cases hyy : ya = yb
        · have heq : ∀ w, (Op.equalIn 10000 38 (.agg #[.string ya.acc, .int .i64 ya.day, .int .i64 ya.chg, .int .i64 ya.bal]) (.agg #[.string yb.acc, .int .i64 yb.day, .int .i64 yb.chg, .int .i64 yb.bal])).run Tryz.prog w = .ok true w := fun w => by rw [hyy]; exact eq44_same _ _ _ _ w
          have HPRE : Hid (T.take (k + 1) = X.take (k + 1)) := by
            show _ = _
            rw [List.take_succ_eq_append_getElem hkT, List.take_succ_eq_append_getElem hkX, hpre, ← hya, ← hyb, hyy]
          clear hrel hpre hkT hkX hya hyb hyy ra rb
          go_wp2_with fail
          go_quiet (fail)
          go_wp2_with fail
          refine ⟨⟨k + 1, m + nq, by go_num, by omega, ?_, unhide HPRE⟩, by simp [intOf]; omega⟩
          rw [unhide HW, drew_two]
        · have heq : ∀ w, (Op.equalIn 10000 38 (.agg #[.string ya.acc, .int .i64 ya.day, .int .i64 ya.chg, .int .i64 ya.bal]) (.agg #[.string yb.acc, .int .i64 yb.day, .int .i64 yb.chg, .int .i64 yb.bal])).run Tryz.prog w = .ok false w := eq38_ne hyy
          have HO : Hid (¬ T = X) := fun this => hyy (by
            rw [hya, hyb]
            simp only [this])
          clear hrel hpre hkT hkX hya hyb hyy ra rb
          go_wp2_with fail
          go_quiet (fail)
          go_wp2_with fail
          go_ret
          exact EqOut.no (unhide HO) (m + nq) (by rw [unhide HW, drew_two])
      · have hkt' : ¬ (k : Int) < (t : Int) := by omega
        have hkk : k = t := by omega
        have HE : Hid (T = X) := by
          have e1 : T.take k = T := by rw [hkk, unhide HT, List.take_length]
          have e2 : X.take k = X := by rw [hkk, unhide HN, List.take_length]
          show T = X
          rw [← e1, hpre, e2]
        clear hrel hpre
        go_wp2_with fail
        go_ret
        exact EqOut.yes (unhide HE) m (unhide HW)
  · have hne : ((t : Int) == (n : Int)) = false := by simp; omega
    have HO : Hid (¬ T = X) := fun h => htn (by rw [unhide HT, unhide HN, h])
    go_wp2_with fail
    go_ret
    exact EqOut.no (unhide HO) 0 rfl
/-- sameDays at two lists that hold the same -/
theorem same27 {W : World} {p1 p2 : Option Addr} {c1 c2 : Nat} {T : List Dq} (h1 : Lies kQ W p1 T) (h2 : Lies kQ W p2 T) (hT : T.length ≤ 549755813888000) :
    Calls Tryz.prog 27 #[.slice p1 T.length c1, .slice p2 T.length c2] W fun e w' => e = .returned (.bool true) ∧ ∃ m, w' = W.drewN m := by
  obtain ⟨t, ht⟩ : ∃ t, t = T.length := ⟨_, rfl⟩
  rw [← ht] at hT ⊢
  have HL3 := hide h1; have HLX := hide h2; have HT := hide ht
  have hst := st44
  have hsh := sh44
  have heg := eg44
  clear h1 h2 ht
  go_enter Tryz.func27, Tryz.ntmps27
  go_wp2_with fail
  go_loopw [5] (fun v9 wr => ∃ (k m : Nat), v9 = .int .i64 k ∧ k ≤ t ∧ Hid (wr = W.drewN m)) (fun v9 _ => t - (intOf v9).toNat)
  case atStart => exact ⟨0, 0, rfl, by omega, rfl⟩
  case round =>
    obtain ⟨k, m, rfl, hk, HW⟩ := hrel
    by_cases hkt : k < t
    · have hkT : k < T.length := by rw [← unhide HT]; exact hkt
      obtain ⟨ba, oa, ea, _, ra⟩ := (unhide HL3).2 k hkT
      obtain ⟨bb, ob, eb, _, rb⟩ := (unhide HLX).2 k hkT
      obtain ⟨ya, hya⟩ : ∃ y, y = T[k] := ⟨_, rfl⟩
      rw [← hya] at ra rb
      subst ea eb
      have hKI : (k : Int) < (t : Int) := by omega
      have hK0 : (0 : Int) ≤ (k : Int) := by omega
      have la : ∀ d', (ld44 (.pointer (some ⟨ba, oa + k * 4, none⟩))).run Tryz.prog (wr.drewN d') = .ok (.agg #[.string ya.acc, .int .i64 ya.day, .int .i64 ya.chg, .int .i64 ya.bal]) (wr.drewN d') := fun d' => by rw [unhide HW]; exact ld38 (x := ya) ra
      have lb : ∀ d', (ld44 (.pointer (some ⟨bb, ob + k * 4, none⟩))).run Tryz.prog (wr.drewN d') = .ok (.agg #[.string ya.acc, .int .i64 ya.day, .int .i64 ya.chg, .int .i64 ya.bal]) (wr.drewN d') := fun d' => by rw [unhide HW]; exact ld38 (x := ya) rb
      have heq := eq44_same ya.acc ya.day ya.chg ya.bal
      clear hkT hya ra rb
      go_wp2_with fail
      go_quiet (fail)
      go_wp2_with fail
      refine ⟨⟨k + 1, m + nq, by go_num, by omega, ?_⟩, by simp [intOf]; omega⟩
      show _ = _
      rw [unhide HW, drew_two]
    · have hkt' : ¬ (k : Int) < (t : Int) := by omega
      have hkk : k = t := by omega
      subst hkk
      go_wp2_with fail
      go_ret
      exact ⟨rfl, m, unhide HW⟩

end Go.Proofs.YtmgnlgobkkfjhaaGreatDoor.Kg
/- The book as one thing: more of it. -/
namespace Go.Proofs.YtmgnlgobkkfjhaaGreatDoor.Kg
open Go Go.RowKit Go.Shelf Go.ChangeShapes Go.WideShapes Go.ChangeAt Go.Maps
set_option linter.unusedVariables false
set_option linter.unusedSimpArgs false
set_option maxRecDepth 100000
set_option maxHeartbeats 8000000
theorem KB.on {w w' : World} {bk : Nat} {U : Nat → Prop} (h : KB w bk U) (hz : w.heap.size ≤ w'.heap.size) (hc : ∀ j, w'.cell? ⟨bk, j, none⟩ = w.cell? ⟨bk, j, none⟩) (cf : ∀ j, w'.frozen? ⟨bk, j, none⟩ = w.frozen? ⟨bk, j, none⟩) (h1 : w'.heap[1]? = w.heap[1]?) (hU : ∀ q, U q → w'.heap[q]? = w.heap[q]?) : KB w' bk U := by
  obtain ⟨k, m1, R1, p1, h, s⟩ := h
  exact ⟨k, m1, R1, p1, h.on hz hc cf h1 hU, s⟩
theorem KB.tab {w : World} {bk : Nat} {U : Nat → Prop} (h : KB w bk U) : Pw w := by
  obtain ⟨k, m1, R1, p1, h, s⟩ := h
  exact h.b1.tab
theorem KB.intact {w : World} {bk : Nat} {U : Nat → Prop} (h : KB w bk U) : Calls Tryz.prog 31 #[.pointer (some ⟨bk, 0, none⟩)] w fun e w' => e = .returned (.bool true) ∧ Below w.heap.size w w' := by
  obtain ⟨k, m1, R1, p1, h, s1⟩ := h
  exact h.intact s1
theorem kb_new {w : World} {y : Nat} (c0 : w.cell? ⟨y, 0, none⟩ = some (.int .i64 0)) (ci : ∀ j, 1 ≤ j → j ≤ 20 → w.cell? ⟨y, j, none⟩ = some (.slice none 0 0)) (fz : ∀ i, w.frozen? ⟨y, i, none⟩ = false) (hP : Pw w) (hy : y ≠ 1) : KB w y (fun _ => False) := by
  have hn : ∀ {q : Nat}, (Value.slice none 0 0).ownBlock ≠ some q := fun e => by cases e
  refine ⟨0, 0, .slice none 0 0, fun _ => ⟨.slice none 0 0, 0, .slice none 0 0, .slice none 0 0, 0, 0, []⟩, ⟨c0, ⟨ci 11 (by omega) (by omega), fz, World.ownsRow_nil _ _ _ _, hn, fun i hi => by omega, fun i hi => by omega, fun i j hi => by omega, hP, hy, hn, fun i hi => by omega⟩, by omega, by omega, fun j h1 h2 _ => ci j h1 h2, ?_, fun q h => h.elim⟩, fun i hi => by omega⟩
  rintro q (h | ⟨i, hi, _⟩)
  · cases h
  · omega
end Go.Proofs.YtmgnlgobkkfjhaaGreatDoor.Kg
