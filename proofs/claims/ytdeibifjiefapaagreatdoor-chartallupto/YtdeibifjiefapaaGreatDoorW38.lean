import Derived.Test.YtdeibifjiefapaaGreatDoorW34
import Derived.Test.YtdeibifjiefapaaGreatDoorW36
import Derived.Test.YtdeibifjiefapaaGreatDoorW37
/- The book of a play: its next number, the pages of texts and of accounts, nothing of the other kinds. By tools/genkb.py. -/
namespace Go.Proofs.YtdeibifjiefapaaGreatDoor.Kg
open Go Go.Shelf Go.ChangeShapes Go.WideShapes Go.ChangeAt Go.RowKit Go.Maps
set_option linter.unusedVariables false
/-- what a change of some blocks leaves -/
structure Sep (w w' : World) (S S' : Nat → Prop) : Prop where
  os : w'.os = w.os
  tape : w'.tape = w.tape
  output : w'.output = w.output
  size : w.heap.size ≤ w'.heap.size
  block : ∀ q, q < w.heap.size → ¬ S q → w'.heap[q]? = w.heap[q]?
  new : ∀ q, S' q → S q ∨ w.heap.size ≤ q
theorem Sep.trans {a b c : World} {S S' S'' : Nat → Prop} (h : Sep a b S S') (k : Sep b c S' S'') : Sep a c S S'' :=
  ⟨k.os.trans h.os, k.tape.trans h.tape, k.output.trans h.output, Nat.le_trans h.size k.size, fun q hq hn => (k.block q (Nat.lt_of_lt_of_le hq h.size) (fun e => (h.new q e).elim hn (fun e => by omega))).trans (h.block q hq hn), fun q hq => (k.new q hq).elim (fun e => h.new q e) (fun e => .inr (Nat.le_trans h.size e))⟩
theorem Sep.of_below {w w' : World} (U : Nat → Prop) (h : Below w.heap.size w w') : Sep w w' U U := ⟨h.os, h.tape, h.output, h.size, fun q hq _ => h.block q hq, fun q hq => .inl hq⟩
theorem Sep.below {w w' : World} {S S' : Nat → Prop} {B : Nat} (h : Sep w w' S S') (hS : ∀ q, S q → B ≤ q) (hB : B ≤ w.heap.size) : Below B w w' := ⟨h.os, h.tape, h.output, h.size, fun q hq => h.block q (Nat.lt_of_lt_of_le hq hB) (fun e => by have := hS q e; omega)⟩
structure KBIs (w : World) (bk k m1 : Nat) (R1 : Value) (p1 : Nat → Pg Tm) (m2 : Nat) (R2 : Value) (p2 : Nat → Pg Am) (U : Nat → Prop) : Prop where
  c0 : w.cell? ⟨bk, 0, none⟩ = some (.int .i64 (k : Int))
  b1 : KindAt zX w bk m1 R1 p1
  b2 : KindAt zD w bk m2 R2 p2
  l1 : m1 ≤ 96
  l2 : m2 ≤ 96
  lk : k ≤ m1 + m2
  bare : ∀ j, 1 ≤ j → j ≤ 20 → j ≠ 4 → j ≠ 8 → w.cell? ⟨bk, j, none⟩ = some (.slice none 0 0)
  d12 : ∀ q, Fp R1 p1 m1 q → ¬ Fp R2 p2 m2 q
  u1 : ∀ q, Fp R1 p1 m1 q → U q
  u2 : ∀ q, Fp R2 p2 m2 q → U q
  ul : ∀ q, U q → q ≠ bk ∧ 2 ≤ q ∧ q < w.heap.size
theorem KindAt.on {α : Type} {Z : Kk α} {w w' : World} {bk m : Nat} {R : Value} {p : Nat → Pg α} (h : KindAt Z w bk m R p) (hz : w.heap.size ≤ w'.heap.size) (c1 : w'.cell? ⟨bk, Z.sl, none⟩ = w.cell? ⟨bk, Z.sl, none⟩) (cf : ∀ j, w'.frozen? ⟨bk, j, none⟩ = w.frozen? ⟨bk, j, none⟩) (hq : ∀ q, Fp R p m q → w'.heap[q]? = w.heap[q]?) (ht : w'.heap[1]? = w.heap[1]?) : KindAt Z w' bk m R p :=
  ⟨c1.trans h.c1, fun i => (cf i).trans (h.fz i), row_far h.row (fun q e => hq q (.inl e)), h.rb, fun i hi => (h.ok i hi).far hz (fun q e => hq q (.inr ⟨i, hi, e⟩)), fun i hi q e => ⟨(h.far i hi q e).1, (h.far i hi q e).2.1, by have := (h.far i hi q e).2.2; omega⟩, h.apart, h.tab.keep ht, h.b3, h.r3, h.p3⟩
theorem KBIs.on {w w' : World} {bk k m1 : Nat} {R1 : Value} {p1 : Nat → Pg Tm} {m2 : Nat} {R2 : Value} {p2 : Nat → Pg Am} {U : Nat → Prop} (h : KBIs w bk k m1 R1 p1 m2 R2 p2 U) (hz : w.heap.size ≤ w'.heap.size) (hc : ∀ j, 0 ≤ j → w'.cell? ⟨bk, j, none⟩ = w.cell? ⟨bk, j, none⟩) (cf : ∀ j, w'.frozen? ⟨bk, j, none⟩ = w.frozen? ⟨bk, j, none⟩) (h1 : w'.heap[1]? = w.heap[1]?) (hU : ∀ q, U q → w'.heap[q]? = w.heap[q]?) : KBIs w' bk k m1 R1 p1 m2 R2 p2 U :=
  ⟨(hc 0 (by omega)).trans h.c0, h.b1.on hz (hc 4 (by omega)) cf (fun q hq => hU q (h.u1 q hq)) h1, h.b2.on hz (hc 8 (by omega)) cf (fun q hq => hU q (h.u2 q hq)) h1, h.l1, h.l2, h.lk, fun j a b c d => (hc j (by omega)).trans (h.bare j a b c d), h.d12, h.u1, h.u2, fun q hq => ⟨(h.ul q hq).1, (h.ul q hq).2.1, Nat.lt_of_lt_of_le (h.ul q hq).2.2 hz⟩⟩
theorem KBIs.below {w w' : World} {bk k m1 : Nat} {R1 : Value} {p1 : Nat → Pg Tm} {m2 : Nat} {R2 : Value} {p2 : Nat → Pg Am} {U : Nat → Prop} (h : KBIs w bk k m1 R1 p1 m2 R2 p2 U) (hb : Below w.heap.size w w') : KBIs w' bk k m1 R1 p1 m2 R2 p2 U :=
  h.on hb.size (fun j _ => World.cell?_of_block (hb.block bk h.b1.lt)) (fun j => World.frozen?_of_block (hb.block bk h.b1.lt)) (hb.block 1 h.b1.tab.lt) (fun q hq => hb.block q (h.ul q hq).2.2)
theorem KBIs.went1 {w w' : World} {bk k m1 : Nat} {R1 : Value} {p1 : Nat → Pg Tm} {m2 : Nat} {R2 : Value} {p2 : Nat → Pg Am} {U : Nat → Prop} {p' : Nat → Pg Tm} (h : KBIs w bk k m1 R1 p1 m2 R2 p2 U) (hw : Went zX w w' bk m1 R1 p1 p') : KBIs w' bk k m1 R1 p' m2 R2 p2 (fun q => U q ∨ (w.heap.size ≤ q ∧ q < w'.heap.size)) ∧ Sep w w' U (fun q => U q ∨ (w.heap.size ≤ q ∧ q < w'.heap.size)) := by
  have hz := hw.2.1.size
  have hbl := h.b1.lt
  have hbk : w'.heap[bk]? = w.heap[bk]? := hw.far (fun hq => (h.b1.fp hq).1 rfl) hbl
  have h1 : w'.heap[1]? = w.heap[1]? := hw.far (fun hq => by have := (h.ul 1 (h.u1 1 hq)).2.1; omega) h.b1.tab.lt
  have cc : ∀ j, w'.cell? ⟨bk, j, none⟩ = w.cell? ⟨bk, j, none⟩ := fun j => World.cell?_of_block hbk
  have cf : ∀ j, w'.frozen? ⟨bk, j, none⟩ = w.frozen? ⟨bk, j, none⟩ := fun j => World.frozen?_of_block hbk
  have Bo : KindAt zD w' bk m2 R2 p2 := h.b2.on hz (cc _) cf (fun q hq => hw.far (fun z => h.d12 q z hq) (h.b2.fp hq).2) h1
  refine ⟨⟨(cc 0).trans h.c0, hw.1, Bo, h.l1, h.l2, h.lk, fun j a b c d => (cc j).trans (h.bare j a b c d), (fun q hq hq' => (hw.fp hq).elim (fun e => h.d12 q e hq') (fun e => by have := (h.b2.fp hq').2; omega)), (fun q hq => (hw.fp hq).imp (h.u1 q) (fun e => ⟨e, (hw.1.fp hq).2⟩)), (fun q hq => .inl (h.u2 q hq)), ?_⟩, ⟨hw.2.1.os, hw.2.1.tape, hw.2.1.output, hz, fun q hq hU => hw.far (fun e => hU (h.u1 q e)) hq, fun q hq => hq.imp id (fun e => e.1)⟩⟩
  rintro q (hq | hq)
  · exact ⟨(h.ul q hq).1, (h.ul q hq).2.1, Nat.lt_of_lt_of_le (h.ul q hq).2.2 hz⟩
  · have := h.b1.tab.lt
    exact ⟨by omega, by omega, hq.2⟩
theorem KBIs.went2 {w w' : World} {bk k m1 : Nat} {R1 : Value} {p1 : Nat → Pg Tm} {m2 : Nat} {R2 : Value} {p2 : Nat → Pg Am} {U : Nat → Prop} {p' : Nat → Pg Am} (h : KBIs w bk k m1 R1 p1 m2 R2 p2 U) (hw : Went zD w w' bk m2 R2 p2 p') : KBIs w' bk k m1 R1 p1 m2 R2 p' (fun q => U q ∨ (w.heap.size ≤ q ∧ q < w'.heap.size)) ∧ Sep w w' U (fun q => U q ∨ (w.heap.size ≤ q ∧ q < w'.heap.size)) := by
  have hz := hw.2.1.size
  have hbl := h.b1.lt
  have hbk : w'.heap[bk]? = w.heap[bk]? := hw.far (fun hq => (h.b2.fp hq).1 rfl) hbl
  have h1 : w'.heap[1]? = w.heap[1]? := hw.far (fun hq => by have := (h.ul 1 (h.u2 1 hq)).2.1; omega) h.b1.tab.lt
  have cc : ∀ j, w'.cell? ⟨bk, j, none⟩ = w.cell? ⟨bk, j, none⟩ := fun j => World.cell?_of_block hbk
  have cf : ∀ j, w'.frozen? ⟨bk, j, none⟩ = w.frozen? ⟨bk, j, none⟩ := fun j => World.frozen?_of_block hbk
  have Bo : KindAt zX w' bk m1 R1 p1 := h.b1.on hz (cc _) cf (fun q hq => hw.far (fun z => h.d12 q hq z) (h.b1.fp hq).2) h1
  refine ⟨⟨(cc 0).trans h.c0, Bo, hw.1, h.l1, h.l2, h.lk, fun j a b c d => (cc j).trans (h.bare j a b c d), (fun q hq hq' => (hw.fp hq').elim (fun e => h.d12 q hq e) (fun e => by have := (h.b1.fp hq).2; omega)), (fun q hq => .inl (h.u1 q hq)), (fun q hq => (hw.fp hq).imp (h.u2 q) (fun e => ⟨e, (hw.1.fp hq).2⟩)), ?_⟩, ⟨hw.2.1.os, hw.2.1.tape, hw.2.1.output, hz, fun q hq hU => hw.far (fun e => hU (h.u2 q e)) hq, fun q hq => hq.imp id (fun e => e.1)⟩⟩
  rintro q (hq | hq)
  · exact ⟨(h.ul q hq).1, (h.ul q hq).2.1, Nat.lt_of_lt_of_le (h.ul q hq).2.2 hz⟩
  · have := h.b1.tab.lt
    exact ⟨by omega, by omega, hq.2⟩
/-- a book took a list: what became of the rest -/
structure Took (w w' : World) (bk : Nat) (U U' : Nat → Prop) (L : Value) : Prop where
  size : w.heap.size ≤ w'.heap.size
  os : w'.os = w.os
  tape : w'.tape = w.tape
  output : w'.output = w.output
  low : ∀ j, j < 0 → w'.cell? ⟨bk, j, none⟩ = w.cell? ⟨bk, j, none⟩
  block : ∀ q, q < w.heap.size → q ≠ bk → ¬ U q → L.ownBlock ≠ some q → w'.heap[q]? = w.heap[q]?
  new : ∀ q, U' q → U q ∨ L.ownBlock = some q ∨ w.heap.size ≤ q
theorem Took.refl (w : World) (bk : Nat) (U : Nat → Prop) (L : Value) : Took w w bk U U L := ⟨Nat.le_refl _, rfl, rfl, rfl, fun _ _ => rfl, fun _ _ _ _ _ => rfl, fun _ h => .inl h⟩
theorem KBIs.more1 {w w' : World} {bk k m1 : Nat} {R1 : Value} {p1 : Nat → Pg Tm} {m2 : Nat} {R2 : Value} {p2 : Nat → Pg Am} {U : Nat → Prop} {L : Value} {s : Nat} (h : KBIs w bk k m1 R1 p1 m2 R2 p2 U) (hm : m1 < 96) (hL : ∀ q, L.ownBlock = some q → q ≠ bk ∧ 2 ≤ q ∧ q < w.heap.size ∧ ¬ U q) (hw : More zX w w' bk m1 k R1 p1 L s) : ∃ R' P, P.s = s ∧ KBIs w' bk (k + 1) (m1 + 1) R' (upd p1 m1 P) m2 R2 p2 (fun q => U q ∨ L.ownBlock = some q ∨ (w.heap.size ≤ q ∧ q < w'.heap.size)) ∧ Took w w' bk U (fun q => U q ∨ L.ownBlock = some q ∨ (w.heap.size ≤ q ∧ q < w'.heap.size)) L := by
  obtain ⟨R', P, hs, hk, c0, ci, hfp, hz, os, tp, ou, hblk⟩ := hw
  have hbl := h.b1.lt
  have h1 : w'.heap[1]? = w.heap[1]? := hblk 1 h.b1.tab.lt (fun e => h.b1.b3 e.symm) (fun hq => by have := (h.ul 1 (h.u1 1 hq)).2.1; omega) (fun e => by have := (hL 1 e).2.1; omega)
  have cf : ∀ j, w'.frozen? ⟨bk, j, none⟩ = w.frozen? ⟨bk, j, none⟩ := fun j => (hk.fz j).trans (h.b1.fz j).symm
  have Bo : KindAt zD w' bk m2 R2 p2 := h.b2.on hz (ci _ (by decide) (by decide)) cf (fun q hq => hblk q (h.b2.fp hq).2 (h.b2.fp hq).1 (fun z => h.d12 q z hq) (fun e => (hL q e).2.2.2 (h.u2 q hq))) h1
  refine ⟨R', P, hs, ⟨by rw [c0]; simp, hk, Bo, (by omega), h.l2, by have := h.lk; omega, fun j a b c d => (ci j (by omega) (by first | exact c | exact d)).trans (h.bare j a b c d), (fun q hq hq' => (hfp q hq).elim (fun e => h.d12 q e hq') (fun e => e.elim (fun e => (hL q e).2.2.2 (h.u2 q hq')) (fun e => by have := (h.b2.fp hq').2; omega))), (fun q hq => (hfp q hq).imp (h.u1 q) (fun e => e.imp id (fun e => ⟨e, (hk.fp hq).2⟩))), (fun q hq => .inl (h.u2 q hq)), ?_⟩, ⟨hz, os, tp, ou, fun j hj => ci j (by omega) (by show j ≠ 4; omega), fun q h1 h2 h3 h4 => hblk q h1 h2 (fun e => h3 (h.u1 q e)) h4, fun q hq => hq.imp id (fun e => e.imp id (fun e => e.1))⟩⟩
  rintro q (hq | hq | hq)
  · exact ⟨(h.ul q hq).1, (h.ul q hq).2.1, Nat.lt_of_lt_of_le (h.ul q hq).2.2 hz⟩
  · exact ⟨(hL q hq).1, (hL q hq).2.1, Nat.lt_of_lt_of_le (hL q hq).2.2.1 hz⟩
  · have := h.b1.tab.lt
    exact ⟨by omega, by omega, hq.2⟩
theorem KBIs.more2 {w w' : World} {bk k m1 : Nat} {R1 : Value} {p1 : Nat → Pg Tm} {m2 : Nat} {R2 : Value} {p2 : Nat → Pg Am} {U : Nat → Prop} {L : Value} {s : Nat} (h : KBIs w bk k m1 R1 p1 m2 R2 p2 U) (hm : m2 < 96) (hL : ∀ q, L.ownBlock = some q → q ≠ bk ∧ 2 ≤ q ∧ q < w.heap.size ∧ ¬ U q) (hw : More zD w w' bk m2 k R2 p2 L s) : ∃ R' P, P.s = s ∧ KBIs w' bk (k + 1) m1 R1 p1 (m2 + 1) R' (upd p2 m2 P) (fun q => U q ∨ L.ownBlock = some q ∨ (w.heap.size ≤ q ∧ q < w'.heap.size)) ∧ Took w w' bk U (fun q => U q ∨ L.ownBlock = some q ∨ (w.heap.size ≤ q ∧ q < w'.heap.size)) L := by
  obtain ⟨R', P, hs, hk, c0, ci, hfp, hz, os, tp, ou, hblk⟩ := hw
  have hbl := h.b1.lt
  have h1 : w'.heap[1]? = w.heap[1]? := hblk 1 h.b1.tab.lt (fun e => h.b1.b3 e.symm) (fun hq => by have := (h.ul 1 (h.u2 1 hq)).2.1; omega) (fun e => by have := (hL 1 e).2.1; omega)
  have cf : ∀ j, w'.frozen? ⟨bk, j, none⟩ = w.frozen? ⟨bk, j, none⟩ := fun j => (hk.fz j).trans (h.b1.fz j).symm
  have Bo : KindAt zX w' bk m1 R1 p1 := h.b1.on hz (ci _ (by decide) (by decide)) cf (fun q hq => hblk q (h.b1.fp hq).2 (h.b1.fp hq).1 (fun z => h.d12 q hq z) (fun e => (hL q e).2.2.2 (h.u1 q hq))) h1
  refine ⟨R', P, hs, ⟨by rw [c0]; simp, Bo, hk, h.l1, (by omega), by have := h.lk; omega, fun j a b c d => (ci j (by omega) (by first | exact c | exact d)).trans (h.bare j a b c d), (fun q hq hq' => (hfp q hq').elim (fun e => h.d12 q hq e) (fun e => e.elim (fun e => (hL q e).2.2.2 (h.u1 q hq)) (fun e => by have := (h.b1.fp hq).2; omega))), (fun q hq => .inl (h.u1 q hq)), (fun q hq => (hfp q hq).imp (h.u2 q) (fun e => e.imp id (fun e => ⟨e, (hk.fp hq).2⟩))), ?_⟩, ⟨hz, os, tp, ou, fun j hj => ci j (by omega) (by show j ≠ 8; omega), fun q h1 h2 h3 h4 => hblk q h1 h2 (fun e => h3 (h.u2 q e)) h4, fun q hq => hq.imp id (fun e => e.imp id (fun e => e.1))⟩⟩
  rintro q (hq | hq | hq)
  · exact ⟨(h.ul q hq).1, (h.ul q hq).2.1, Nat.lt_of_lt_of_le (h.ul q hq).2.2 hz⟩
  · exact ⟨(hL q hq).1, (hL q hq).2.1, Nat.lt_of_lt_of_le (hL q hq).2.2.1 hz⟩
  · have := h.b1.tab.lt
    exact ⟨by omega, by omega, hq.2⟩
end Go.Proofs.YtdeibifjiefapaaGreatDoor.Kg
/- The book of a play: all of it looked at (34). By tools/genkb.py. -/
namespace Go.Proofs.YtdeibifjiefapaaGreatDoor.Kg
open Go Go.Shelf Go.ChangeShapes Go.WideShapes Go.ChangeAt Go.RowKit Go.Maps
set_option linter.unusedVariables false
set_option maxRecDepth 100000 in
set_option maxHeartbeats 8000000 in
theorem KBIs.intact {w : World} {bk k m1 : Nat} {R1 : Value} {p1 : Nat → Pg Tm} {m2 : Nat} {R2 : Value} {p2 : Nat → Pg Am} {U : Nat → Prop} (h : KBIs w bk k m1 R1 p1 m2 R2 p2 U) (s1 : ∀ i, i < m1 → (p1 i).s ≠ 1) (s2 : ∀ i, i < m2 → (p2 i).s ≠ 1) : Calls Tryz.prog 34 #[.pointer (some ⟨bk, 0, none⟩)] w fun e w' => e = .returned (.bool true) ∧ Below w.heap.size w w' := by
  have H0 := hide h
  have B0 : Hid (Below w.heap.size w w) := Below.refl _ _
  have S1 := hide s1
  have S2 := hide s2
  clear h s1 s2
  go_enter Tryz.func34, Tryz.ntmps34
  go_wp2_with fail
  refine (intact0 bk w ((unhide H0).bare 1 (by omega) (by omega) (by omega) (by omega))).mono ?_
  rintro e wz ⟨rfl, hw⟩
  rw [hw]
  clear hw wz
  go_wp2_with fail
  refine (intact1 bk w ((unhide H0).bare 2 (by omega) (by omega) (by omega) (by omega))).mono ?_
  rintro e wz ⟨rfl, hw⟩
  rw [hw]
  clear hw wz
  go_wp2_with fail
  refine (intact2 bk w ((unhide H0).bare 3 (by omega) (by omega) (by omega) (by omega))).mono ?_
  rintro e wz ⟨rfl, hw⟩
  rw [hw]
  clear hw wz
  go_wp2_with fail
  refine (intactX (unhide H0).b1 (unhide H0).l1 (unhide S1)).mono ?_
  rintro e w1 ⟨rfl, hb⟩
  have H1 := hide ((unhide H0).below hb)
  have B1 : Hid (Below w.heap.size w w1) := (unhide B0).trans (hb.mono (unhide B0).size)
  clear hb
  go_wp2_with fail
  refine (intact4 bk w1 ((unhide H1).bare 5 (by omega) (by omega) (by omega) (by omega))).mono ?_
  rintro e wz ⟨rfl, hw⟩
  rw [hw]
  clear hw wz
  go_wp2_with fail
  refine (intact5 bk w1 ((unhide H1).bare 6 (by omega) (by omega) (by omega) (by omega))).mono ?_
  rintro e wz ⟨rfl, hw⟩
  rw [hw]
  clear hw wz
  go_wp2_with fail
  refine (intact6 bk w1 ((unhide H1).bare 7 (by omega) (by omega) (by omega) (by omega))).mono ?_
  rintro e wz ⟨rfl, hw⟩
  rw [hw]
  clear hw wz
  go_wp2_with fail
  refine (intactD (unhide H1).b2 (unhide H1).l2 (unhide S2)).mono ?_
  rintro e w2 ⟨rfl, hb⟩
  have H2 := hide ((unhide H1).below hb)
  have B2 : Hid (Below w.heap.size w w2) := (unhide B1).trans (hb.mono (unhide B1).size)
  clear hb
  go_wp2_with fail
  refine (intact8 bk w2 ((unhide H2).bare 9 (by omega) (by omega) (by omega) (by omega))).mono ?_
  rintro e wz ⟨rfl, hw⟩
  rw [hw]
  clear hw wz
  go_wp2_with fail
  refine (intact9 bk w2 ((unhide H2).bare 10 (by omega) (by omega) (by omega) (by omega))).mono ?_
  rintro e wz ⟨rfl, hw⟩
  rw [hw]
  clear hw wz
  go_wp2_with fail
  refine (intact10 bk w2 ((unhide H2).bare 11 (by omega) (by omega) (by omega) (by omega))).mono ?_
  rintro e wz ⟨rfl, hw⟩
  rw [hw]
  clear hw wz
  go_wp2_with fail
  refine (intact11 bk w2 ((unhide H2).bare 12 (by omega) (by omega) (by omega) (by omega))).mono ?_
  rintro e wz ⟨rfl, hw⟩
  rw [hw]
  clear hw wz
  go_wp2_with fail
  refine (intact12 bk w2 ((unhide H2).bare 13 (by omega) (by omega) (by omega) (by omega))).mono ?_
  rintro e wz ⟨rfl, hw⟩
  rw [hw]
  clear hw wz
  go_wp2_with fail
  refine (intact13 bk w2 ((unhide H2).bare 14 (by omega) (by omega) (by omega) (by omega))).mono ?_
  rintro e wz ⟨rfl, hw⟩
  rw [hw]
  clear hw wz
  go_wp2_with fail
  refine (intact14 bk w2 ((unhide H2).bare 15 (by omega) (by omega) (by omega) (by omega))).mono ?_
  rintro e wz ⟨rfl, hw⟩
  rw [hw]
  clear hw wz
  go_wp2_with fail
  refine (intact15 bk w2 ((unhide H2).bare 16 (by omega) (by omega) (by omega) (by omega))).mono ?_
  rintro e wz ⟨rfl, hw⟩
  rw [hw]
  clear hw wz
  go_wp2_with fail
  refine (intact16 bk w2 ((unhide H2).bare 17 (by omega) (by omega) (by omega) (by omega))).mono ?_
  rintro e wz ⟨rfl, hw⟩
  rw [hw]
  clear hw wz
  go_wp2_with fail
  refine (intact17 bk w2 ((unhide H2).bare 18 (by omega) (by omega) (by omega) (by omega))).mono ?_
  rintro e wz ⟨rfl, hw⟩
  rw [hw]
  clear hw wz
  go_wp2_with fail
  refine (intact18 bk w2 ((unhide H2).bare 19 (by omega) (by omega) (by omega) (by omega))).mono ?_
  rintro e wz ⟨rfl, hw⟩
  rw [hw]
  clear hw wz
  go_wp2_with fail
  refine (intact19 bk w2 ((unhide H2).bare 20 (by omega) (by omega) (by omega) (by omega))).mono ?_
  rintro e wz ⟨rfl, hw⟩
  rw [hw]
  clear hw wz
  go_wp2_with fail
  go_ret
  exact ⟨rfl, unhide B2⟩
end Go.Proofs.YtdeibifjiefapaaGreatDoor.Kg
/- The book of a play: Settle (11). By tools/genkb.py. -/
namespace Go.Proofs.YtdeibifjiefapaaGreatDoor.Kg
open Go Go.Shelf Go.ChangeShapes Go.WideShapes Go.ChangeAt Go.RowKit Go.Maps
set_option linter.unusedVariables false
set_option maxRecDepth 100000 in
set_option maxHeartbeats 16000000 in
theorem KBIs.settle {w : World} {bk k m1 : Nat} {R1 : Value} {p1 : Nat → Pg Tm} {m2 : Nat} {R2 : Value} {p2 : Nat → Pg Am} {U : Nat → Prop} (h : KBIs w bk k m1 R1 p1 m2 R2 p2 U) (s1 : ∀ i, i < m1 → (p1 i).s ≠ 1) (s2 : ∀ i, i < m2 → (p2 i).s ≠ 1) : Calls Tryz.prog 11 #[.pointer (some ⟨bk, 0, none⟩)] w fun e w' => e = .returned (.bool true) ∧ ∃ q1 q2 U', KBIs w' bk k m1 R1 q1 m2 R2 q2 U' ∧ (∀ i, i < m1 → (q1 i).s ≠ 1) ∧ (∀ i, i < m2 → (q2 i).s ≠ 1) ∧ Sep w w' U U' := by
  have H0 := hide h
  have hI := hide (h.intact s1 s2)
  clear h s1 s2
  go_enter Tryz.func11, Tryz.ntmps11
  go_wp2_with fail
  refine (unhide hI).mono ?_
  rintro e w1 ⟨rfl, hb⟩
  have H1 := hide ((unhide H0).below hb)
  have E1 := hide (Sep.of_below U hb)
  obtain ⟨U1, hU1⟩ : ∃ U1, U1 = U := ⟨_, rfl⟩
  rw [← hU1] at H1
  have E1 : Hid (Sep w w1 U U1) := by rw [hU1]; exact unhide E1
  clear hb hI hU1
  go_wp2_with fail
  refine (fill0 bk w1 ((unhide H1).bare 1 (by omega) (by omega) (by omega) (by omega))).mono ?_
  rintro e wz ⟨rfl, hw⟩
  rw [hw]
  clear hw wz
  go_wp2_with fail
  refine (fill1 bk w1 ((unhide H1).bare 2 (by omega) (by omega) (by omega) (by omega))).mono ?_
  rintro e wz ⟨rfl, hw⟩
  rw [hw]
  clear hw wz
  go_wp2_with fail
  refine (fill2 bk w1 ((unhide H1).bare 3 (by omega) (by omega) (by omega) (by omega))).mono ?_
  rintro e wz ⟨rfl, hw⟩
  rw [hw]
  clear hw wz
  go_wp2_with fail
  refine (fillAllX (unhide H1).b1 (unhide H1).l1).mono ?_
  rintro e w2 ⟨rfl, f1, hw, hs⟩
  obtain ⟨U2, hu, he⟩ : ∃ U', _ ∧ Sep w1 w2 U1 U' := ⟨_, (unhide H1).went1 hw⟩
  have H2 := hide hu
  have E2 := hide ((unhide E1).trans he)
  have F1 := hide hs
  clear hw hu he hs
  go_wp2_with fail
  refine (fill4 bk w2 ((unhide H2).bare 5 (by omega) (by omega) (by omega) (by omega))).mono ?_
  rintro e wz ⟨rfl, hw⟩
  rw [hw]
  clear hw wz
  go_wp2_with fail
  refine (fill5 bk w2 ((unhide H2).bare 6 (by omega) (by omega) (by omega) (by omega))).mono ?_
  rintro e wz ⟨rfl, hw⟩
  rw [hw]
  clear hw wz
  go_wp2_with fail
  refine (fill6 bk w2 ((unhide H2).bare 7 (by omega) (by omega) (by omega) (by omega))).mono ?_
  rintro e wz ⟨rfl, hw⟩
  rw [hw]
  clear hw wz
  go_wp2_with fail
  refine (fillAllD (unhide H2).b2 (unhide H2).l2).mono ?_
  rintro e w3 ⟨rfl, f2, hw, hs⟩
  obtain ⟨U3, hu, he⟩ : ∃ U', _ ∧ Sep w2 w3 U2 U' := ⟨_, (unhide H2).went2 hw⟩
  have H3 := hide hu
  have E3 := hide ((unhide E2).trans he)
  have F2 := hide hs
  clear hw hu he hs
  go_wp2_with fail
  refine (fill8 bk w3 ((unhide H3).bare 9 (by omega) (by omega) (by omega) (by omega))).mono ?_
  rintro e wz ⟨rfl, hw⟩
  rw [hw]
  clear hw wz
  go_wp2_with fail
  refine (fill9 bk w3 ((unhide H3).bare 10 (by omega) (by omega) (by omega) (by omega))).mono ?_
  rintro e wz ⟨rfl, hw⟩
  rw [hw]
  clear hw wz
  go_wp2_with fail
  refine (fill10 bk w3 ((unhide H3).bare 11 (by omega) (by omega) (by omega) (by omega))).mono ?_
  rintro e wz ⟨rfl, hw⟩
  rw [hw]
  clear hw wz
  go_wp2_with fail
  refine (fill11 bk w3 ((unhide H3).bare 12 (by omega) (by omega) (by omega) (by omega))).mono ?_
  rintro e wz ⟨rfl, hw⟩
  rw [hw]
  clear hw wz
  go_wp2_with fail
  refine (fill12 bk w3 ((unhide H3).bare 13 (by omega) (by omega) (by omega) (by omega))).mono ?_
  rintro e wz ⟨rfl, hw⟩
  rw [hw]
  clear hw wz
  go_wp2_with fail
  refine (fill13 bk w3 ((unhide H3).bare 14 (by omega) (by omega) (by omega) (by omega))).mono ?_
  rintro e wz ⟨rfl, hw⟩
  rw [hw]
  clear hw wz
  go_wp2_with fail
  refine (fill14 bk w3 ((unhide H3).bare 15 (by omega) (by omega) (by omega) (by omega))).mono ?_
  rintro e wz ⟨rfl, hw⟩
  rw [hw]
  clear hw wz
  go_wp2_with fail
  refine (fill15 bk w3 ((unhide H3).bare 16 (by omega) (by omega) (by omega) (by omega))).mono ?_
  rintro e wz ⟨rfl, hw⟩
  rw [hw]
  clear hw wz
  go_wp2_with fail
  refine (fill16 bk w3 ((unhide H3).bare 17 (by omega) (by omega) (by omega) (by omega))).mono ?_
  rintro e wz ⟨rfl, hw⟩
  rw [hw]
  clear hw wz
  go_wp2_with fail
  refine (fill17 bk w3 ((unhide H3).bare 18 (by omega) (by omega) (by omega) (by omega))).mono ?_
  rintro e wz ⟨rfl, hw⟩
  rw [hw]
  clear hw wz
  go_wp2_with fail
  refine (fill18 bk w3 ((unhide H3).bare 19 (by omega) (by omega) (by omega) (by omega))).mono ?_
  rintro e wz ⟨rfl, hw⟩
  rw [hw]
  clear hw wz
  go_wp2_with fail
  refine (fill19 bk w3 ((unhide H3).bare 20 (by omega) (by omega) (by omega) (by omega))).mono ?_
  rintro e wz ⟨rfl, hw⟩
  rw [hw]
  clear hw wz
  go_wp2_with fail
  refine (grow0 bk w3 ((unhide H3).bare 1 (by omega) (by omega) (by omega) (by omega))).mono ?_
  rintro e wz ⟨rfl, hw⟩
  rw [hw]
  clear hw wz
  go_wp2_with fail
  refine (grow1 bk w3 ((unhide H3).bare 2 (by omega) (by omega) (by omega) (by omega))).mono ?_
  rintro e wz ⟨rfl, hw⟩
  rw [hw]
  clear hw wz
  go_wp2_with fail
  refine (grow2 bk w3 ((unhide H3).bare 3 (by omega) (by omega) (by omega) (by omega))).mono ?_
  rintro e wz ⟨rfl, hw⟩
  rw [hw]
  clear hw wz
  go_wp2_with fail
  refine (growAllX (unhide H3).b1 (unhide H3).l1 (unhide F1)).mono ?_
  rintro e w4 ⟨rfl, g1, hw, hs⟩
  obtain ⟨U4, hu, he⟩ : ∃ U', _ ∧ Sep w3 w4 U3 U' := ⟨_, (unhide H3).went1 hw⟩
  have H4 := hide hu
  have E4 := hide ((unhide E3).trans he)
  have G1 := hide hs
  clear hw hu he hs
  go_wp2_with fail
  refine (grow4 bk w4 ((unhide H4).bare 5 (by omega) (by omega) (by omega) (by omega))).mono ?_
  rintro e wz ⟨rfl, hw⟩
  rw [hw]
  clear hw wz
  go_wp2_with fail
  refine (grow5 bk w4 ((unhide H4).bare 6 (by omega) (by omega) (by omega) (by omega))).mono ?_
  rintro e wz ⟨rfl, hw⟩
  rw [hw]
  clear hw wz
  go_wp2_with fail
  refine (grow6 bk w4 ((unhide H4).bare 7 (by omega) (by omega) (by omega) (by omega))).mono ?_
  rintro e wz ⟨rfl, hw⟩
  rw [hw]
  clear hw wz
  go_wp2_with fail
  refine (growAllD (unhide H4).b2 (unhide H4).l2 (unhide F2)).mono ?_
  rintro e w5 ⟨rfl, g2, hw, hs⟩
  obtain ⟨U5, hu, he⟩ : ∃ U', _ ∧ Sep w4 w5 U4 U' := ⟨_, (unhide H4).went2 hw⟩
  have H5 := hide hu
  have E5 := hide ((unhide E4).trans he)
  have G2 := hide hs
  clear hw hu he hs
  go_wp2_with fail
  refine (grow8 bk w5 ((unhide H5).bare 9 (by omega) (by omega) (by omega) (by omega))).mono ?_
  rintro e wz ⟨rfl, hw⟩
  rw [hw]
  clear hw wz
  go_wp2_with fail
  refine (grow9 bk w5 ((unhide H5).bare 10 (by omega) (by omega) (by omega) (by omega))).mono ?_
  rintro e wz ⟨rfl, hw⟩
  rw [hw]
  clear hw wz
  go_wp2_with fail
  refine (grow10 bk w5 ((unhide H5).bare 11 (by omega) (by omega) (by omega) (by omega))).mono ?_
  rintro e wz ⟨rfl, hw⟩
  rw [hw]
  clear hw wz
  go_wp2_with fail
  refine (grow11 bk w5 ((unhide H5).bare 12 (by omega) (by omega) (by omega) (by omega))).mono ?_
  rintro e wz ⟨rfl, hw⟩
  rw [hw]
  clear hw wz
  go_wp2_with fail
  refine (grow12 bk w5 ((unhide H5).bare 13 (by omega) (by omega) (by omega) (by omega))).mono ?_
  rintro e wz ⟨rfl, hw⟩
  rw [hw]
  clear hw wz
  go_wp2_with fail
  refine (grow13 bk w5 ((unhide H5).bare 14 (by omega) (by omega) (by omega) (by omega))).mono ?_
  rintro e wz ⟨rfl, hw⟩
  rw [hw]
  clear hw wz
  go_wp2_with fail
  refine (grow14 bk w5 ((unhide H5).bare 15 (by omega) (by omega) (by omega) (by omega))).mono ?_
  rintro e wz ⟨rfl, hw⟩
  rw [hw]
  clear hw wz
  go_wp2_with fail
  refine (grow15 bk w5 ((unhide H5).bare 16 (by omega) (by omega) (by omega) (by omega))).mono ?_
  rintro e wz ⟨rfl, hw⟩
  rw [hw]
  clear hw wz
  go_wp2_with fail
  refine (grow16 bk w5 ((unhide H5).bare 17 (by omega) (by omega) (by omega) (by omega))).mono ?_
  rintro e wz ⟨rfl, hw⟩
  rw [hw]
  clear hw wz
  go_wp2_with fail
  refine (grow17 bk w5 ((unhide H5).bare 18 (by omega) (by omega) (by omega) (by omega))).mono ?_
  rintro e wz ⟨rfl, hw⟩
  rw [hw]
  clear hw wz
  go_wp2_with fail
  refine (grow18 bk w5 ((unhide H5).bare 19 (by omega) (by omega) (by omega) (by omega))).mono ?_
  rintro e wz ⟨rfl, hw⟩
  rw [hw]
  clear hw wz
  go_wp2_with fail
  refine (grow19 bk w5 ((unhide H5).bare 20 (by omega) (by omega) (by omega) (by omega))).mono ?_
  rintro e wz ⟨rfl, hw⟩
  rw [hw]
  clear hw wz
  have hI := hide ((unhide H5).intact (fun i hi => by rw [unhide G1 i hi]; omega) (fun i hi => by rw [unhide G2 i hi]; omega))
  go_wp2_with fail
  refine (unhide hI).mono ?_
  rintro e w6 ⟨rfl, hb⟩
  have H6 := hide ((unhide H5).below hb)
  have E6 := hide ((unhide E5).trans (Sep.of_below U5 hb))
  clear hb hI
  go_wp2_with fail
  go_ret
  exact ⟨rfl, g1, g2, U5, unhide H6, (fun i hi => by rw [unhide G1 i hi]; omega), (fun i hi => by rw [unhide G2 i hi]; omega), unhide E6⟩
end Go.Proofs.YtdeibifjiefapaaGreatDoor.Kg
