/- The book of the law as one thing: KB; what its calls make of it. By tools/kb1.py. -/
import Derived.Test.YtfpbljfebjochaaGreatDoorKbC
import Derived.Test.YtfpbljfebjochaaGreatDoorTyR
namespace Go.Proofs.YtfpbljfebjochaaGreatDoor.Kg
open Go Go.Shelf Go.ChangeShapes Go.WideShapes Go.ChangeAt Go.RowKit Go.Maps
set_option linter.unusedVariables false
def KB (w : World) (bk : Nat) (U : Nat → Prop) : Prop := ∃ k m1 R1 p1, KBIs w bk k m1 R1 p1 U ∧ (∀ i, i < m1 → (p1 i).s ≠ 1)
theorem KB.below {w w' : World} {bk : Nat} {U : Nat → Prop} (h : KB w bk U) (hb : Below w.heap.size w w') : KB w' bk U := by
  obtain ⟨k, m1, R1, p1, h, s⟩ := h
  exact ⟨k, m1, R1, p1, h.below hb, s⟩
theorem KB.ul {w : World} {bk : Nat} {U : Nat → Prop} (h : KB w bk U) : ∀ q, U q → q ≠ bk ∧ 2 ≤ q ∧ q < w.heap.size := by
  obtain ⟨k, m1, R1, p1, h, s⟩ := h
  exact h.ul
theorem KB.lt {w : World} {bk : Nat} {U : Nat → Prop} (h : KB w bk U) : bk < w.heap.size := by
  obtain ⟨k, m1, R1, p1, h, s⟩ := h
  exact h.b1.lt
theorem KB.settle {w : World} {bk : Nat} {U : Nat → Prop} (h : KB w bk U) : Calls Tryz.prog 7 #[.pointer (some ⟨bk, 0, none⟩)] w fun e w' => e = .returned (.bool true) ∧ ∃ U', KB w' bk U' ∧ Sep w w' U U' := by
  obtain ⟨k, m1, R1, p1, h, s1⟩ := h
  refine (h.settle s1).mono ?_
  rintro e w' ⟨rfl, q1, U', h', t1, he⟩
  exact ⟨rfl, U', ⟨k, m1, R1, q1, h', t1⟩, he⟩
theorem KB.keep {w : World} {bk : Nat} {U : Nat → Prop} (h : KB w bk U) {L : Value} {n : Nat} {X : List Int} (hX : X.length = n) (own : w.ownsRow 0 kI.e kI.s L n (kI.flat X)) (le : n ≤ 27000000000000) (hL : ∀ q, L.ownBlock = some q → q ≠ bk ∧ 2 ≤ q ∧ ¬ U q) : Calls Tryz.prog 5 #[.pointer (some ⟨bk, 0, none⟩), L] w fun e w' => e = .returned (.tuple #[]) ∧ ∃ U', KB w' bk U' ∧ Took w w' bk U U' L := by
  obtain ⟨k, m1, R1, p1, h, s1⟩ := h
  have hL' : ∀ q, L.ownBlock = some q → q ≠ bk ∧ 2 ≤ q ∧ q < w.heap.size ∧ ¬ U q := fun q hq => ⟨(hL q hq).1, (hL q hq).2.1, (row_lt own hq).2, (hL q hq).2.2⟩
  by_cases hm : m1 < 96
  · have hM : Mine zx w bk m1 R1 p1 L n X := ⟨own, le, hX, fun q hq => ⟨(hL q hq).1, fun e => (hL q hq).2.2 (h.u1 q e)⟩, fun e => by have := (hL 1 e).2.1; omega⟩
    refine (keepMorex h.b1 h.c0 hM (by have := h.lk; have := h.l1; omega) hm).mono ?_
    rintro e w' ⟨rfl, hmore⟩
    obtain ⟨R', P, hP, hK, hT⟩ := h.more1 hm hL' hmore
    exact ⟨rfl, _, ⟨k + 1, m1 + 1, R', upd p1 m1 P, hK, (fun i hi => (Nat.lt_or_ge i m1).elim (fun e => by rw [upd_other _ _ _ _ (by omega)]; exact s1 i e) (fun e => by have e' : i = m1 := (by omega); rw [e', upd_same, hP]; omega))⟩, hT⟩
  · obtain ⟨pa, pc, hR, _⟩ := book_row h.b1
    have c1 := h.b1.c1
    rw [hR] at c1
    refine (keepFullx bk m1 pc pa (by omega) w c1 L).mono ?_
    rintro e w' ⟨rfl, hw⟩
    rw [hw]
    exact ⟨rfl, U, ⟨k, m1, R1, p1, h, s1⟩, Took.refl _ _ _ _⟩
theorem KB.write {w : World} {bk : Nat} {U : Nat → Prop} (h : KB w bk U) {L : Value} {n : Nat} {X : List Int} (hX : X.length = n) (own : w.ownsRow 0 kI.e kI.s L n (kI.flat X)) (le : n ≤ 27000000000000) (hL : ∀ q, L.ownBlock = some q → q ≠ bk ∧ 2 ≤ q ∧ ¬ U q) : Calls Tryz.prog 6 #[.pointer (some ⟨bk, 0, none⟩), L] w fun e w' => e = .returned (.tuple #[]) ∧ ∃ U', KB w' bk U' ∧ Took w w' bk U U' L := by
  obtain ⟨k, m1, R1, p1, h, s1⟩ := h
  have hL' : ∀ q, L.ownBlock = some q → q ≠ bk ∧ 2 ≤ q ∧ q < w.heap.size ∧ ¬ U q := fun q hq => ⟨(hL q hq).1, (hL q hq).2.1, (row_lt own hq).2, (hL q hq).2.2⟩
  by_cases hm : m1 < 96
  · have hM : Mine zx w bk m1 R1 p1 L n X := ⟨own, le, hX, fun q hq => ⟨(hL q hq).1, fun e => (hL q hq).2.2 (h.u1 q e)⟩, fun e => by have := (hL 1 e).2.1; omega⟩
    refine (writeMorex h.b1 h.c0 hM (by have := h.lk; have := h.l1; omega) hm).mono ?_
    rintro e w' ⟨rfl, hmore⟩
    obtain ⟨R', P, hP, hK, hT⟩ := h.more1 hm hL' hmore
    exact ⟨rfl, _, ⟨k + 1, m1 + 1, R', upd p1 m1 P, hK, (fun i hi => (Nat.lt_or_ge i m1).elim (fun e => by rw [upd_other _ _ _ _ (by omega)]; exact s1 i e) (fun e => by have e' : i = m1 := (by omega); rw [e', upd_same, hP]; omega))⟩, hT⟩
  · obtain ⟨pa, pc, hR, _⟩ := book_row h.b1
    have c1 := h.b1.c1
    rw [hR] at c1
    refine (writeFullx bk m1 pc pa (by omega) w c1 L).mono ?_
    rintro e w' ⟨rfl, hw⟩
    rw [hw]
    exact ⟨rfl, U, ⟨k, m1, R1, p1, h, s1⟩, Took.refl _ _ _ _⟩
/-- a new book -/
theorem KB.new {w : World} {bk : Nat} (h : w.heap[bk]? = some (.cells #[.int .i64 0, .slice none 0 0, .slice none 0 0, .slice none 0 0, .slice none 0 0, .slice none 0 0, .slice none 0 0, .slice none 0 0, .slice none 0 0, .slice none 0 0, .slice none 0 0, .slice none 0 0, .slice none 0 0, .slice none 0 0, .slice none 0 0, .slice none 0 0, .slice none 0 0, .slice none 0 0, .slice none 0 0, .slice none 0 0, .slice none 0 0] 52 (0, 0))) (hP : Pw w) (hb1 : bk ≠ 1) : KB w bk (fun _ => False) := by
  have hc : ∀ j, w.cell? ⟨bk, j, none⟩ = _ := fun j => cell_at (i := j) h
  have hlt : bk < w.heap.size := (Array.getElem?_eq_some_iff.1 h).1
  refine ⟨0, 0, .slice none 0 0, fun _ => ⟨.slice none 0 0, 0, .slice none 0 0, .slice none 0 0, 0, 0, []⟩, ⟨(hc 0).trans rfl, ?_, by omega, by omega, fun j a b c => ?_, ?_, fun q hq => hq.elim⟩, fun i hi => by omega⟩
  · exact ⟨(hc 2).trans rfl, fun i => froz_at h, ⟨rfl, .inl ⟨rfl, rfl⟩⟩, (fun e => by cases e), fun i hi => by omega, fun i hi => by omega, fun i hi => by omega, hP, hb1, (fun e => by cases e), fun i hi => by omega⟩
  · rw [hc]
    have : j = 1 ∨ j = 3 ∨ j = 4 ∨ j = 5 ∨ j = 6 ∨ j = 7 ∨ j = 8 ∨ j = 9 ∨ j = 10 ∨ j = 11 ∨ j = 12 ∨ j = 13 ∨ j = 14 ∨ j = 15 ∨ j = 16 ∨ j = 17 ∨ j = 18 ∨ j = 19 ∨ j = 20 := by omega
    rcases this with rfl | rfl | rfl | rfl | rfl | rfl | rfl | rfl | rfl | rfl | rfl | rfl | rfl | rfl | rfl | rfl | rfl | rfl | rfl <;> rfl
  · rintro q (hq | ⟨i, hi, _⟩)
    · cases hq
    · omega
end Go.Proofs.YtfpbljfebjochaaGreatDoor.Kg
