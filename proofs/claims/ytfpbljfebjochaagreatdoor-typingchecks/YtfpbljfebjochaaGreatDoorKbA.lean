/- The book of the law: its next number, the pages of numbers, nothing of the other kinds. By tools/kb1.py. -/
import Derived.Test.YtfpbljfebjochaaGreatDoorKxC
import Derived.Test.YtfpbljfebjochaaGreatDoorKiA
namespace Go.Proofs.YtfpbljfebjochaaGreatDoor.Kg
open Go Go.Shelf Go.ChangeShapes Go.WideShapes Go.ChangeAt Go.RowKit Go.Maps
set_option linter.unusedVariables false
/-- what a change of some blocks leaves -/
structure Sep (w w' : World) (S S' : Nat → Prop) : Prop where
  os : w'.os = w.os
  tape : w'.tape = w.tape
  output : w'.output = w.output
  size : w.heap.size ≤ w'.heap.size
  block : ∀ q, q < w.heap.size → ¬ S q → w'.heap[q]? = w.heap[q]?
  new : ∀ q, S' q → S q ∨ w.heap.size ≤ q
theorem Sep.trans {a b c : World} {S S' S'' : Nat → Prop} (h : Sep a b S S') (k : Sep b c S' S'') : Sep a c S S'' :=
  ⟨k.os.trans h.os, k.tape.trans h.tape, k.output.trans h.output, Nat.le_trans h.size k.size, fun q hq hn => (k.block q (Nat.lt_of_lt_of_le hq h.size) (fun e => (h.new q e).elim hn (fun e => by omega))).trans (h.block q hq hn), fun q hq => (k.new q hq).elim (fun e => h.new q e) (fun e => .inr (Nat.le_trans h.size e))⟩
theorem Sep.of_below {w w' : World} (U : Nat → Prop) (h : Below w.heap.size w w') : Sep w w' U U := ⟨h.os, h.tape, h.output, h.size, fun q hq _ => h.block q hq, fun q hq => .inl hq⟩
theorem Sep.below {w w' : World} {S S' : Nat → Prop} {B : Nat} (h : Sep w w' S S') (hS : ∀ q, S q → B ≤ q) (hB : B ≤ w.heap.size) : Below B w w' := ⟨h.os, h.tape, h.output, h.size, fun q hq => h.block q (Nat.lt_of_lt_of_le hq hB) (fun e => by have := hS q e; omega)⟩
structure KBIs (w : World) (bk k m1 : Nat) (R1 : Value) (p1 : Nat → Pg Int) (U : Nat → Prop) : Prop where
  c0 : w.cell? ⟨bk, 0, none⟩ = some (.int .i64 (k : Int))
  b1 : KindAt zx w bk m1 R1 p1
  l1 : m1 ≤ 96
  lk : k ≤ m1
  bare : ∀ j, 1 ≤ j → j ≤ 20 → j ≠ 2 → w.cell? ⟨bk, j, none⟩ = some (.slice none 0 0)
  u1 : ∀ q, Fp R1 p1 m1 q → U q
  ul : ∀ q, U q → q ≠ bk ∧ 2 ≤ q ∧ q < w.heap.size
theorem KindAt.on {α : Type} {Z : Kk α} {w w' : World} {bk m : Nat} {R : Value} {p : Nat → Pg α} (h : KindAt Z w bk m R p) (hz : w.heap.size ≤ w'.heap.size) (c1 : w'.cell? ⟨bk, Z.sl, none⟩ = w.cell? ⟨bk, Z.sl, none⟩) (cf : ∀ j, w'.frozen? ⟨bk, j, none⟩ = w.frozen? ⟨bk, j, none⟩) (hq : ∀ q, Fp R p m q → w'.heap[q]? = w.heap[q]?) (ht : w'.heap[1]? = w.heap[1]?) : KindAt Z w' bk m R p :=
  ⟨c1.trans h.c1, fun i => (cf i).trans (h.fz i), row_far h.row (fun q e => hq q (.inl e)), h.rb, fun i hi => (h.ok i hi).far hz (fun q e => hq q (.inr ⟨i, hi, e⟩)), fun i hi q e => ⟨(h.far i hi q e).1, (h.far i hi q e).2.1, by have := (h.far i hi q e).2.2; omega⟩, h.apart, h.tab.keep ht, h.b3, h.r3, h.p3⟩
theorem KBIs.on {w w' : World} {bk k m1 : Nat} {R1 : Value} {p1 : Nat → Pg Int} {U : Nat → Prop} (h : KBIs w bk k m1 R1 p1 U) (hz : w.heap.size ≤ w'.heap.size) (hc : ∀ j, w'.cell? ⟨bk, j, none⟩ = w.cell? ⟨bk, j, none⟩) (cf : ∀ j, w'.frozen? ⟨bk, j, none⟩ = w.frozen? ⟨bk, j, none⟩) (h1 : w'.heap[1]? = w.heap[1]?) (hU : ∀ q, U q → w'.heap[q]? = w.heap[q]?) : KBIs w' bk k m1 R1 p1 U :=
  ⟨(hc 0).trans h.c0, h.b1.on hz (hc 2) cf (fun q hq => hU q (h.u1 q hq)) h1, h.l1, h.lk, fun j a b c => (hc j).trans (h.bare j a b c), h.u1, fun q hq => ⟨(h.ul q hq).1, (h.ul q hq).2.1, Nat.lt_of_lt_of_le (h.ul q hq).2.2 hz⟩⟩
theorem KBIs.below {w w' : World} {bk k m1 : Nat} {R1 : Value} {p1 : Nat → Pg Int} {U : Nat → Prop} (h : KBIs w bk k m1 R1 p1 U) (hb : Below w.heap.size w w') : KBIs w' bk k m1 R1 p1 U :=
  h.on hb.size (fun j => World.cell?_of_block (hb.block bk h.b1.lt)) (fun j => World.frozen?_of_block (hb.block bk h.b1.lt)) (hb.block 1 h.b1.tab.lt) (fun q hq => hb.block q (h.ul q hq).2.2)
theorem KBIs.went1 {w w' : World} {bk k m1 : Nat} {R1 : Value} {p1 : Nat → Pg Int} {U : Nat → Prop} {p' : Nat → Pg Int} (h : KBIs w bk k m1 R1 p1 U) (hw : Went zx w w' bk m1 R1 p1 p') : KBIs w' bk k m1 R1 p' (fun q => U q ∨ (w.heap.size ≤ q ∧ q < w'.heap.size)) ∧ Sep w w' U (fun q => U q ∨ (w.heap.size ≤ q ∧ q < w'.heap.size)) := by
  have hz := hw.2.1.size
  have hbl := h.b1.lt
  have hbk : w'.heap[bk]? = w.heap[bk]? := hw.far (fun hq => (h.b1.fp hq).1 rfl) hbl
  have cc : ∀ j, w'.cell? ⟨bk, j, none⟩ = w.cell? ⟨bk, j, none⟩ := fun j => World.cell?_of_block hbk
  refine ⟨⟨(cc 0).trans h.c0, hw.1, h.l1, h.lk, fun j a b c => (cc j).trans (h.bare j a b c), (fun q hq => (hw.fp hq).imp (h.u1 q) (fun e => ⟨e, (hw.1.fp hq).2⟩)), ?_⟩, ⟨hw.2.1.os, hw.2.1.tape, hw.2.1.output, hz, fun q hq hU => hw.far (fun e => hU (h.u1 q e)) hq, fun q hq => hq.imp id (fun e => e.1)⟩⟩
  rintro q (hq | hq)
  · exact ⟨(h.ul q hq).1, (h.ul q hq).2.1, Nat.lt_of_lt_of_le (h.ul q hq).2.2 hz⟩
  · have := h.b1.tab.lt
    exact ⟨by omega, by omega, hq.2⟩
/-- a book took a list: what became of the rest -/
structure Took (w w' : World) (bk : Nat) (U U' : Nat → Prop) (L : Value) : Prop where
  size : w.heap.size ≤ w'.heap.size
  os : w'.os = w.os
  tape : w'.tape = w.tape
  output : w'.output = w.output
  block : ∀ q, q < w.heap.size → q ≠ bk → ¬ U q → L.ownBlock ≠ some q → w'.heap[q]? = w.heap[q]?
  new : ∀ q, U' q → U q ∨ L.ownBlock = some q ∨ w.heap.size ≤ q
theorem Took.refl (w : World) (bk : Nat) (U : Nat → Prop) (L : Value) : Took w w bk U U L := ⟨Nat.le_refl _, rfl, rfl, rfl, fun _ _ _ _ _ => rfl, fun _ h => .inl h⟩
theorem KBIs.more1 {w w' : World} {bk k m1 : Nat} {R1 : Value} {p1 : Nat → Pg Int} {U : Nat → Prop} {L : Value} {s : Nat} (h : KBIs w bk k m1 R1 p1 U) (hm : m1 < 96) (hL : ∀ q, L.ownBlock = some q → q ≠ bk ∧ 2 ≤ q ∧ q < w.heap.size ∧ ¬ U q) (hw : More zx w w' bk m1 k R1 p1 L s) : ∃ R' P, P.s = s ∧ KBIs w' bk (k + 1) (m1 + 1) R' (upd p1 m1 P) (fun q => U q ∨ L.ownBlock = some q ∨ (w.heap.size ≤ q ∧ q < w'.heap.size)) ∧ Took w w' bk U (fun q => U q ∨ L.ownBlock = some q ∨ (w.heap.size ≤ q ∧ q < w'.heap.size)) L := by
  obtain ⟨R', P, hs, hk, c0, ci, hfp, hz, os, tp, ou, hblk⟩ := hw
  have hbl := h.b1.lt
  refine ⟨R', P, hs, ⟨by rw [c0]; simp, hk, by omega, by have := h.lk; omega, fun j a b c => (ci j (by omega) c).trans (h.bare j a b c), (fun q hq => (hfp q hq).imp (h.u1 q) (fun e => e.imp id (fun e => ⟨e, (hk.fp hq).2⟩))), ?_⟩, ⟨hz, os, tp, ou, fun q h1 h2 h3 h4 => hblk q h1 h2 (fun e => h3 (h.u1 q e)) h4, fun q hq => hq.imp id (fun e => e.imp id (fun e => e.1))⟩⟩
  rintro q (hq | hq | hq)
  · exact ⟨(h.ul q hq).1, (h.ul q hq).2.1, Nat.lt_of_lt_of_le (h.ul q hq).2.2 hz⟩
  · exact ⟨(hL q hq).1, (hL q hq).2.1, Nat.lt_of_lt_of_le (hL q hq).2.2.1 hz⟩
  · have := h.b1.tab.lt
    exact ⟨by omega, by omega, hq.2⟩
end Go.Proofs.YtfpbljfebjochaaGreatDoor.Kg
