import Derived.Test.YtdeibifjiefapaaGreatDoorW38
import Derived.Test.YtdeibifjiefapaaGreatDoorW26
import Derived.Test.YtdeibifjiefapaaGreatDoorW27
/- The book of a play as one thing: KB; what its calls make of it. By tools/genkb.py. -/
namespace Go.Proofs.YtdeibifjiefapaaGreatDoor.Kg
open Go Go.Shelf Go.ChangeShapes Go.WideShapes Go.ChangeAt Go.RowKit Go.Maps
set_option linter.unusedVariables false
def KB (w : World) (bk : Nat) (U : Nat → Prop) : Prop := ∃ k m1 R1 p1 m2 R2 p2, KBIs w bk k m1 R1 p1 m2 R2 p2 U ∧ (∀ i, i < m1 → (p1 i).s ≠ 1) ∧ (∀ i, i < m2 → (p2 i).s ≠ 1)
theorem KB.on {w w' : World} {bk : Nat} {U : Nat → Prop} (h : KB w bk U) (hz : w.heap.size ≤ w'.heap.size) (hc : ∀ j, 0 ≤ j → w'.cell? ⟨bk, j, none⟩ = w.cell? ⟨bk, j, none⟩) (cf : ∀ j, w'.frozen? ⟨bk, j, none⟩ = w.frozen? ⟨bk, j, none⟩) (h1 : w'.heap[1]? = w.heap[1]?) (hU : ∀ q, U q → w'.heap[q]? = w.heap[q]?) : KB w' bk U := by
  obtain ⟨k, m1, R1, p1, m2, R2, p2, h, s⟩ := h
  exact ⟨k, m1, R1, p1, m2, R2, p2, h.on hz hc cf h1 hU, s⟩
theorem KB.below {w w' : World} {bk : Nat} {U : Nat → Prop} (h : KB w bk U) (hb : Below w.heap.size w w') : KB w' bk U := by
  obtain ⟨k, m1, R1, p1, m2, R2, p2, h, s⟩ := h
  exact ⟨k, m1, R1, p1, m2, R2, p2, h.below hb, s⟩
theorem KB.ul {w : World} {bk : Nat} {U : Nat → Prop} (h : KB w bk U) : ∀ q, U q → q ≠ bk ∧ 2 ≤ q ∧ q < w.heap.size := by
  obtain ⟨k, m1, R1, p1, m2, R2, p2, h, s⟩ := h
  exact h.ul
theorem KB.lt {w : World} {bk : Nat} {U : Nat → Prop} (h : KB w bk U) : bk < w.heap.size := by
  obtain ⟨k, m1, R1, p1, m2, R2, p2, h, s⟩ := h
  exact h.b1.lt
theorem KB.tab {w : World} {bk : Nat} {U : Nat → Prop} (h : KB w bk U) : Pw w := by
  obtain ⟨k, m1, R1, p1, m2, R2, p2, h, s⟩ := h
  exact h.b1.tab
theorem KB.fz {w : World} {bk : Nat} {U : Nat → Prop} (h : KB w bk U) : ∀ j, w.frozen? ⟨bk, j, none⟩ = false := by
  obtain ⟨k, m1, R1, p1, m2, R2, p2, h, s⟩ := h
  exact h.b1.fz
theorem KB.intact {w : World} {bk : Nat} {U : Nat → Prop} (h : KB w bk U) : Calls Tryz.prog 34 #[.pointer (some ⟨bk, 0, none⟩)] w fun e w' => e = .returned (.bool true) ∧ Below w.heap.size w w' := by
  obtain ⟨k, m1, R1, p1, m2, R2, p2, h, s1, s2⟩ := h
  exact h.intact s1 s2
theorem KB.settle {w : World} {bk : Nat} {U : Nat → Prop} (h : KB w bk U) : Calls Tryz.prog 11 #[.pointer (some ⟨bk, 0, none⟩)] w fun e w' => e = .returned (.bool true) ∧ ∃ U', KB w' bk U' ∧ Sep w w' U U' := by
  obtain ⟨k, m1, R1, p1, m2, R2, p2, h, s1, s2⟩ := h
  refine (h.settle s1 s2).mono ?_
  rintro e w' ⟨rfl, q1, q2, U', h', t1, t2, he⟩
  exact ⟨rfl, U', ⟨k, m1, R1, q1, m2, R2, q2, h', t1, t2⟩, he⟩
theorem KB.keepX {w : World} {bk : Nat} {U : Nat → Prop} (h : KB w bk U) {L : Value} {n : Nat} {X : List Tm} (hX : X.length = n) (own : w.ownsRow 0 kX.e kX.s L n (kX.flat X)) (le : n ≤ 900000) (hL : ∀ q, L.ownBlock = some q → q ≠ bk ∧ 2 ≤ q ∧ ¬ U q) : Calls Tryz.prog 30 #[.pointer (some ⟨bk, 0, none⟩), L] w fun e w' => e = .returned (.tuple #[]) ∧ ∃ U', KB w' bk U' ∧ Took w w' bk U U' L := by
  obtain ⟨k, m1, R1, p1, m2, R2, p2, h, s1, s2⟩ := h
  have hL' : ∀ q, L.ownBlock = some q → q ≠ bk ∧ 2 ≤ q ∧ q < w.heap.size ∧ ¬ U q := fun q hq => ⟨(hL q hq).1, (hL q hq).2.1, (row_lt own hq).2, (hL q hq).2.2⟩
  by_cases hm : m1 < 96
  · have hM : Mine zX w bk m1 R1 p1 L n X := ⟨own, le, hX, fun q hq => ⟨(hL q hq).1, fun e => (hL q hq).2.2 (h.u1 q e)⟩, fun e => by have := (hL 1 e).2.1; omega⟩
    refine (keepMoreX h.b1 h.c0 hM (by have := h.lk; have := h.l1; have := h.l2; omega) hm).mono ?_
    rintro e w' ⟨rfl, hmore⟩
    obtain ⟨R', P, hP, hK, hT⟩ := h.more1 hm hL' hmore
    exact ⟨rfl, _, ⟨k + 1, m1 + 1, R', upd p1 m1 P, m2, R2, p2, hK, (fun i hi => (Nat.lt_or_ge i m1).elim (fun e => by rw [upd_other _ _ _ _ (by omega)]; exact s1 i e) (fun e => by have e' : i = m1 := (by omega); rw [e', upd_same, hP]; omega)), s2⟩, hT⟩
  · obtain ⟨pa, pc, hR, _⟩ := book_row h.b1
    have c1 := h.b1.c1
    rw [hR] at c1
    refine (keepFullX bk m1 pc pa (by omega) w c1 L).mono ?_
    rintro e w' ⟨rfl, hw⟩
    rw [hw]
    exact ⟨rfl, U, ⟨k, m1, R1, p1, m2, R2, p2, h, s1, s2⟩, Took.refl _ _ _ _⟩
theorem KB.writeX {w : World} {bk : Nat} {U : Nat → Prop} (h : KB w bk U) {L : Value} {n : Nat} {X : List Tm} (hX : X.length = n) (own : w.ownsRow 0 kX.e kX.s L n (kX.flat X)) (le : n ≤ 900000) (hL : ∀ q, L.ownBlock = some q → q ≠ bk ∧ 2 ≤ q ∧ ¬ U q) : Calls Tryz.prog 32 #[.pointer (some ⟨bk, 0, none⟩), L] w fun e w' => e = .returned (.tuple #[]) ∧ ∃ U', KB w' bk U' ∧ Took w w' bk U U' L := by
  obtain ⟨k, m1, R1, p1, m2, R2, p2, h, s1, s2⟩ := h
  have hL' : ∀ q, L.ownBlock = some q → q ≠ bk ∧ 2 ≤ q ∧ q < w.heap.size ∧ ¬ U q := fun q hq => ⟨(hL q hq).1, (hL q hq).2.1, (row_lt own hq).2, (hL q hq).2.2⟩
  by_cases hm : m1 < 96
  · have hM : Mine zX w bk m1 R1 p1 L n X := ⟨own, le, hX, fun q hq => ⟨(hL q hq).1, fun e => (hL q hq).2.2 (h.u1 q e)⟩, fun e => by have := (hL 1 e).2.1; omega⟩
    refine (writeMoreX h.b1 h.c0 hM (by have := h.lk; have := h.l1; have := h.l2; omega) hm).mono ?_
    rintro e w' ⟨rfl, hmore⟩
    obtain ⟨R', P, hP, hK, hT⟩ := h.more1 hm hL' hmore
    exact ⟨rfl, _, ⟨k + 1, m1 + 1, R', upd p1 m1 P, m2, R2, p2, hK, (fun i hi => (Nat.lt_or_ge i m1).elim (fun e => by rw [upd_other _ _ _ _ (by omega)]; exact s1 i e) (fun e => by have e' : i = m1 := (by omega); rw [e', upd_same, hP]; omega)), s2⟩, hT⟩
  · obtain ⟨pa, pc, hR, _⟩ := book_row h.b1
    have c1 := h.b1.c1
    rw [hR] at c1
    refine (writeFullX bk m1 pc pa (by omega) w c1 L).mono ?_
    rintro e w' ⟨rfl, hw⟩
    rw [hw]
    exact ⟨rfl, U, ⟨k, m1, R1, p1, m2, R2, p2, h, s1, s2⟩, Took.refl _ _ _ _⟩
theorem KB.keepD {w : World} {bk : Nat} {U : Nat → Prop} (h : KB w bk U) {L : Value} {n : Nat} {X : List Am} (hX : X.length = n) (own : w.ownsRow 0 kD.e kD.s L n (kD.flat X)) (le : n ≤ 900000) (hL : ∀ q, L.ownBlock = some q → q ≠ bk ∧ 2 ≤ q ∧ ¬ U q) : Calls Tryz.prog 31 #[.pointer (some ⟨bk, 0, none⟩), L] w fun e w' => e = .returned (.tuple #[]) ∧ ∃ U', KB w' bk U' ∧ Took w w' bk U U' L := by
  obtain ⟨k, m1, R1, p1, m2, R2, p2, h, s1, s2⟩ := h
  have hL' : ∀ q, L.ownBlock = some q → q ≠ bk ∧ 2 ≤ q ∧ q < w.heap.size ∧ ¬ U q := fun q hq => ⟨(hL q hq).1, (hL q hq).2.1, (row_lt own hq).2, (hL q hq).2.2⟩
  by_cases hm : m2 < 96
  · have hM : Mine zD w bk m2 R2 p2 L n X := ⟨own, le, hX, fun q hq => ⟨(hL q hq).1, fun e => (hL q hq).2.2 (h.u2 q e)⟩, fun e => by have := (hL 1 e).2.1; omega⟩
    refine (keepMoreD h.b2 h.c0 hM (by have := h.lk; have := h.l1; have := h.l2; omega) hm).mono ?_
    rintro e w' ⟨rfl, hmore⟩
    obtain ⟨R', P, hP, hK, hT⟩ := h.more2 hm hL' hmore
    exact ⟨rfl, _, ⟨k + 1, m1, R1, p1, m2 + 1, R', upd p2 m2 P, hK, s1, (fun i hi => (Nat.lt_or_ge i m2).elim (fun e => by rw [upd_other _ _ _ _ (by omega)]; exact s2 i e) (fun e => by have e' : i = m2 := (by omega); rw [e', upd_same, hP]; omega))⟩, hT⟩
  · obtain ⟨pa, pc, hR, _⟩ := book_row h.b2
    have c1 := h.b2.c1
    rw [hR] at c1
    refine (keepFullD bk m2 pc pa (by omega) w c1 L).mono ?_
    rintro e w' ⟨rfl, hw⟩
    rw [hw]
    exact ⟨rfl, U, ⟨k, m1, R1, p1, m2, R2, p2, h, s1, s2⟩, Took.refl _ _ _ _⟩
theorem KB.writeD {w : World} {bk : Nat} {U : Nat → Prop} (h : KB w bk U) {L : Value} {n : Nat} {X : List Am} (hX : X.length = n) (own : w.ownsRow 0 kD.e kD.s L n (kD.flat X)) (le : n ≤ 900000) (hL : ∀ q, L.ownBlock = some q → q ≠ bk ∧ 2 ≤ q ∧ ¬ U q) : Calls Tryz.prog 33 #[.pointer (some ⟨bk, 0, none⟩), L] w fun e w' => e = .returned (.tuple #[]) ∧ ∃ U', KB w' bk U' ∧ Took w w' bk U U' L := by
  obtain ⟨k, m1, R1, p1, m2, R2, p2, h, s1, s2⟩ := h
  have hL' : ∀ q, L.ownBlock = some q → q ≠ bk ∧ 2 ≤ q ∧ q < w.heap.size ∧ ¬ U q := fun q hq => ⟨(hL q hq).1, (hL q hq).2.1, (row_lt own hq).2, (hL q hq).2.2⟩
  by_cases hm : m2 < 96
  · have hM : Mine zD w bk m2 R2 p2 L n X := ⟨own, le, hX, fun q hq => ⟨(hL q hq).1, fun e => (hL q hq).2.2 (h.u2 q e)⟩, fun e => by have := (hL 1 e).2.1; omega⟩
    refine (writeMoreD h.b2 h.c0 hM (by have := h.lk; have := h.l1; have := h.l2; omega) hm).mono ?_
    rintro e w' ⟨rfl, hmore⟩
    obtain ⟨R', P, hP, hK, hT⟩ := h.more2 hm hL' hmore
    exact ⟨rfl, _, ⟨k + 1, m1, R1, p1, m2 + 1, R', upd p2 m2 P, hK, s1, (fun i hi => (Nat.lt_or_ge i m2).elim (fun e => by rw [upd_other _ _ _ _ (by omega)]; exact s2 i e) (fun e => by have e' : i = m2 := (by omega); rw [e', upd_same, hP]; omega))⟩, hT⟩
  · obtain ⟨pa, pc, hR, _⟩ := book_row h.b2
    have c1 := h.b2.c1
    rw [hR] at c1
    refine (writeFullD bk m2 pc pa (by omega) w c1 L).mono ?_
    rintro e w' ⟨rfl, hw⟩
    rw [hw]
    exact ⟨rfl, U, ⟨k, m1, R1, p1, m2, R2, p2, h, s1, s2⟩, Took.refl _ _ _ _⟩
end Go.Proofs.YtdeibifjiefapaaGreatDoor.Kg
/- A side is asked: what both charts tell, kept in the book; asks (10). -/
namespace Go.Proofs.YtdeibifjiefapaaGreatDoor.Kg
open Go Go.RowKit Go.Shelf Go.ChangeShapes Go.WideShapes Go.ChangeAt Go.Maps
set_option linter.unusedVariables false
set_option linter.unusedSimpArgs false
set_option maxRecDepth 100000
set_option maxHeartbeats 8000000

/-- a list that a call has made -/
structure Ml {α : Type} (K : Kd α) (W w : World) (v : Value) (n : Nat) (L : List α) : Prop where
  row : w.ownsRow W.heap.size K.e K.s v n (K.flat L)
  len : L.length = n
  bel : Below W.heap.size W w
theorem Ml.below {α : Type} {K : Kd α} {W w w' : World} {v : Value} {n : Nat} {L : List α} (h : Ml K W w v n L) (hb : Below w.heap.size w w') : Ml K W w' v n L :=
  ⟨row_keep h.row (fun q hq => hb.block q (row_block h.row hq).2.1), h.len, h.bel.trans (hb.mono h.bel.size)⟩
section
variable {W : World} {c r : Nat} {S : Nat → Prop} {L : List Ac}
theorem _root_.Go.Proofs.YtdeibifjiefapaaGreatDoor.Sd.a22 (h : Sd W c r S L) (t : ByteArray) (ht : t.size < 4611686018427387904) : Calls Tryz.prog 22 #[ptr c, .string t] W fun e w' => e = .returned (.tuple #[acV (findA L t.data.toList), .bool (fnd L t.data.toList).isSome]) ∧ Below W.heap.size W w' := by
  obtain ⟨S1, S2, g, h⟩ := h
  exact find_any h.prg t ht
theorem _root_.Go.Proofs.YtdeibifjiefapaaGreatDoor.Sd.a23 (h : Sd W c r S L) (t : ByteArray) : Calls Tryz.prog 23 #[ptr r, .string t] W fun e w' => e = .returned (.tuple #[acV (findA L t.data.toList), .bool (fnd L t.data.toList).isSome]) ∧ Below W.heap.size W w' := by
  obtain ⟨S1, S2, g, h⟩ := h
  exact rfind_any h.doc t
theorem _root_.Go.Proofs.YtdeibifjiefapaaGreatDoor.Sd.a24 (h : Sd W c r S L) (t : ByteArray) (ht : t.size < 4611686018427387904) {n : Nat} {K : List Nm} (hK : K = kids L t.data.toList) (hn : n = K.length) : Calls Tryz.prog 24 #[ptr c, .string t] W fun e w' => ∃ p cc, e = .returned (.slice p n cc) ∧ Ml kT W w' (.slice p n cc) n K := by
  obtain ⟨S1, S2, g, h⟩ := h
  subst hK; subst hn
  refine (kids_own h.prg t ht).mono ?_
  rintro e w' ⟨⟨hb, _⟩, v, rfl, ho⟩
  obtain ⟨p, cc, rfl, _⟩ := row_slice ho
  rw [← kT_flat] at ho
  exact ⟨p, cc, rfl, ho, rfl, hb⟩
theorem _root_.Go.Proofs.YtdeibifjiefapaaGreatDoor.Sd.a27 (h : Sd W c r S L) (t : ByteArray) {n : Nat} {K : List Nm} (hK : K = kids L t.data.toList) (hn : n = K.length) : Calls Tryz.prog 27 #[ptr r, .string t] W fun e w' => ∃ p cc, e = .returned (.slice p n cc) ∧ Ml kT W w' (.slice p n cc) n K := by
  obtain ⟨S1, S2, g, h⟩ := h
  subst hK; subst hn
  refine (rkids_any h.doc t).mono ?_
  rintro e w' ⟨v, rfl, ho, hb⟩
  obtain ⟨p, cc, rfl, _⟩ := row_slice ho
  exact ⟨p, cc, rfl, ho, rfl, hb⟩
theorem _root_.Go.Proofs.YtdeibifjiefapaaGreatDoor.Sd.a25 (h : Sd W c r S L) {n : Nat} (hn : n = L.length) : Calls Tryz.prog 25 #[ptr c] W fun e w' => ∃ p cc, e = .returned (.slice p n cc) ∧ Ml kA W w' (.slice p n cc) n L := by
  obtain ⟨S1, S2, g, h⟩ := h
  subst hn
  refine (accounts_own h.prg.ch h.prg.good h.prg.inh).mono ?_
  rintro e w' ⟨v, rfl, ho, hb⟩
  obtain ⟨p, cc, rfl, _⟩ := row_slice ho
  exact ⟨p, cc, rfl, ho, rfl, hb⟩
theorem _root_.Go.Proofs.YtdeibifjiefapaaGreatDoor.Sd.a29 (h : Sd W c r S L) {n : Nat} (hn : n = L.length) : Calls Tryz.prog 29 #[ptr r] W fun e w' => ∃ p cc, e = .returned (.slice p n cc) ∧ Ml kA W w' (.slice p n cc) n L := by
  obtain ⟨S1, S2, g, h⟩ := h
  subst hn
  refine (raccounts_any h.doc).mono ?_
  rintro e w' ⟨v, rfl, ho, hb⟩
  obtain ⟨p, cc, rfl, _⟩ := row_slice ho
  exact ⟨p, cc, rfl, ho, rfl, hb⟩
end
/-- where asks stands: a side, the book, the pair of pointers in a box of its own -/
structure AkAt (w : World) (c r : Nat) (S : Nat → Prop) (L : List Ac) (bk b0 : Nat) (U U' : Nat → Prop) (W : World) : Prop where
  sd : Sd W c r S L
  kb : KB W bk U'
  sep : Sep w W (fun q => q = bk ∨ U q) (fun q => q = bk ∨ U' q)
  bx : W.heap[b0]? = some (.cells #[ptr c, ptr r] 33 (0, 0))
  ap : ∀ q, S q → q ≠ bk ∧ ¬ U' q
  ab : b0 ≠ bk ∧ ¬ U' b0
  lt : ∀ q, S q → q < w.heap.size
  eb : w.heap.size ≤ b0
section
variable {w : World} {c r : Nat} {S : Nat → Prop} {L : List Ac} {bk b0 : Nat} {U U' : Nat → Prop} {W : World}
theorem AkAt.blt (h : AkAt w c r S L bk b0 U U' W) : b0 < W.heap.size := (Array.getElem?_eq_some_iff.1 h.bx).1
theorem AkAt.below {W' : World} (h : AkAt w c r S L bk b0 U U' W) (hb : Below W.heap.size W W') : AkAt w c r S L bk b0 U U' W' :=
  ⟨h.sd.below hb, h.kb.below hb, ⟨hb.os.trans h.sep.os, hb.tape.trans h.sep.tape, hb.output.trans h.sep.output, Nat.le_trans h.sep.size hb.size, fun q hq hn => (hb.block q (Nat.lt_of_lt_of_le hq h.sep.size)).trans (h.sep.block q hq hn), h.sep.new⟩, (hb.block b0 h.blt).trans h.bx, h.ap, h.ab, h.lt, h.eb⟩
theorem AkAt.c0 (h : AkAt w c r S L bk b0 U U' W) : W.cell? ⟨b0, 0, none⟩ = some (.pointer (some ⟨c, 0, none⟩)) := by rw [cell_at h.bx]; rfl
theorem AkAt.c1 (h : AkAt w c r S L bk b0 U U' W) : W.cell? ⟨b0, 1, none⟩ = some (.pointer (some ⟨r, 0, none⟩)) := by rw [cell_at h.bx]; rfl
theorem AkAt.took {W' : World} {U'' : Nat → Prop} {v : Value} (h : AkAt w c r S L bk b0 U U' W) (hk : KB W' bk U'') (ht : Took W W' bk U' U'' v) (hL : ∀ q, v.ownBlock = some q → w.heap.size ≤ q ∧ q ≠ b0) : AkAt w c r S L bk b0 U U'' W' := by
  have hF : ∀ q, S q → v.ownBlock ≠ some q := fun q hq e => by have := (hL q e).1; have := h.lt q hq; omega
  have hbl : ∀ q, S q → W'.heap[q]? = W.heap[q]? := fun q hq => ht.block q (h.sd.lt q hq) (h.ap q hq).1 (h.ap q hq).2 (hF q hq)
  refine ⟨h.sd.keep ht.size hbl, hk, ⟨ht.os.trans h.sep.os, ht.tape.trans h.sep.tape, ht.output.trans h.sep.output, Nat.le_trans h.sep.size ht.size, fun q hq hn => ?_, fun q hq => ?_⟩, ?_, fun q hq => ⟨(h.ap q hq).1, fun hu => ?_⟩, ⟨h.ab.1, fun hu => ?_⟩, h.lt, h.eb⟩
  · refine (ht.block q (Nat.lt_of_lt_of_le hq h.sep.size) (fun e => hn (.inl e)) (fun hu => ?_) (fun e => by have := (hL q e).1; omega)).trans (h.sep.block q hq hn)
    rcases h.sep.new q (.inr hu) with h' | h'
    · exact hn h'
    · omega
  · rcases hq with hq | hq
    · exact .inl (.inl hq)
    · rcases ht.new q hq with h' | h' | h'
      · exact h.sep.new q (.inr h')
      · exact .inr (hL q h').1
      · exact .inr (Nat.le_trans h.sep.size h')
  · exact (ht.block b0 h.blt h.ab.1 h.ab.2 (fun e => (hL b0 e).2 rfl)).trans h.bx
  · rcases ht.new q hu with h' | h' | h'
    · exact (h.ap q hq).2 h'
    · exact hF q hq h'
    · have := h.sd.lt q hq; omega
  · rcases ht.new b0 hu with h' | h' | h'
    · exact h.ab.2 h'
    · exact (hL b0 h').2 rfl
    · have := h.blt; omega
/-- a list that was made since, for the book -/
structure Fre (w : World) (bk b0 : Nat) {α : Type} (K : Kd α) (v : Value) (n : Nat) (X : List α) (U : Nat → Prop) (W : World) : Prop where
  row : W.ownsRow 0 K.e K.s v n (K.flat X)
  len : X.length = n
  free : ∀ q, v.ownBlock = some q → q ≠ bk ∧ 2 ≤ q ∧ ¬ U q
  new : ∀ q, v.ownBlock = some q → w.heap.size ≤ q ∧ q ≠ b0
theorem Fre.took {α : Type} {K : Kd α} {v u : Value} {n : Nat} {X : List α} {U1 U2 : Nat → Prop} {W' : World} (h : Fre w bk b0 K v n X U1 W) (ht : Took W W' bk U1 U2 u) (hvu : ∀ q, v.ownBlock = some q → u.ownBlock ≠ some q) : Fre w bk b0 K v n X U2 W' := by
  refine ⟨row_keep h.row (fun q hq => ht.block q (row_block h.row hq).2.1 (h.free q hq).1 (h.free q hq).2.2 (hvu q hq)), h.len, fun q hq => ⟨(h.free q hq).1, (h.free q hq).2.1, fun hu => ?_⟩, h.new⟩
  rcases ht.new q hu with h' | h' | h'
  · exact (h.free q hq).2.2 h'
  · exact hvu q hq h'
  · have := (row_block h.row hq).2.1; omega
theorem Ml.fre {α : Type} {K : Kd α} {v : Value} {n : Nat} {X : List α} {W0 W1 : World} (hA : AkAt w c r S L bk b0 U U' W0) (h : Ml K W0 W1 v n X) : Fre w bk b0 K v n X U' W1 := by
  have h1 : ∀ q, v.ownBlock = some q → W0.heap.size ≤ q := fun q hq => (row_block h.row hq).1
  have h2 := hA.kb.lt
  have h3 := hA.sep.size
  have h4 := hA.blt
  have h5 := hA.kb.tab.lt
  refine ⟨row_le h.row (Nat.zero_le _), h.len, fun q hq => ?_, fun q hq => ?_⟩
  · have := h1 q hq
    exact ⟨by omega, by omega, fun hu => by have := (hA.kb.ul q hu).2.2; omega⟩
  · have := h1 q hq
    exact ⟨by omega, by omega⟩
theorem Fre.below {α : Type} {K : Kd α} {v : Value} {n : Nat} {X : List α} {W' : World} (h : Fre w bk b0 K v n X U W) (hb : Below W.heap.size W W') : Fre w bk b0 K v n X U W' :=
  ⟨row_keep h.row (fun q hq => hb.block q (row_block h.row hq).2.1), h.len, h.free, h.new⟩


def AkOut (w : World) (bk : Nat) (U : Nat → Prop) (e : Ending) (w' : World) : Prop := e = .returned (.bool true) ∧ ∃ U', KB w' bk U' ∧ Sep w w' (fun q => q = bk ∨ U q) (fun q => q = bk ∨ U' q)
end
end Go.Proofs.YtdeibifjiefapaaGreatDoor.Kg
