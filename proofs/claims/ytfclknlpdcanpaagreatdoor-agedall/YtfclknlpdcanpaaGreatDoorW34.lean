import Derived.Test.YtfclknlpdcanpaaGreatDoorW21
import Derived.Test.YtfclknlpdcanpaaGreatDoorW30
import Derived.Test.YtfclknlpdcanpaaGreatDoorW33
/- A play: three pairs of views and a book; what a world is while it goes on. No program in it. -/
namespace Go.Proofs.YtfclknlpdcanpaaGreatDoor.Kg
open Go Go.Shelf Go.ChangeShapes Go.WideShapes Go.ChangeAt Go.RowKit Go.Maps
set_option linter.unusedVariables false
/-- two views that are one: the program's at pb, the document's at rb -/
structure Tw where
  pb : Nat
  rb : Nat
  C : List Cl
  A : List Al
  g : Int
  S : Nat → Prop
  V : Nat → Prop
def Tw.fp (t : Tw) (q : Nat) : Prop := t.S q ∨ t.V q
structure TwOK (w : World) (t : Tw) : Prop where
  p : Vw w t.pb t.S t.C t.A t.g
  r : Rv w t.rb t.V t.C t.A t.g
  a : ∀ q, t.S q → ¬ t.V q
theorem TwOK.lt {w : World} {t : Tw} (h : TwOK w t) {q : Nat} (hq : t.fp q) : q < w.heap.size := hq.elim (h.p.lt q) (h.r.lt q)
theorem TwOK.sep {w w' : World} {t : Tw} {S S' : Nat → Prop} (h : TwOK w t) (hs : Sep w w' S S') (hd : ∀ q, t.fp q → ¬ S q) : TwOK w' t :=
  ⟨h.p.keep hs.size (fun b hb => hs.block b (h.p.lt b hb) (hd b (.inl hb))), h.r.keep hs.size (fun b hb => hs.block b (h.r.lt b hb) (hd b (.inr hb))), h.a⟩
theorem TwOK.below {w w' : World} {t : Tw} (h : TwOK w t) (hb : Below w.heap.size w w') : TwOK w' t := ⟨h.p.below hb, h.r.below hb, h.a⟩
/-- a view goes on, the other stands -/
theorem TwOK.next {w w' : World} {t : Tw} {C : List Cl} {A : List Al} {g : Int} {w1 : World} (h : TwOK w t) (hp : VwNext w w1 t.pb t.S C A g) (hr : ∀ {W : World}, Rv W t.rb t.V t.C t.A t.g → W = w1 → RvNext W w' t.rb t.V C A g) : ∃ t', t'.pb = t.pb ∧ t'.rb = t.rb ∧ TwOK w' t' ∧ Sep w w' t.fp t'.fp := by
  obtain ⟨S', h1, h2, h3⟩ := hp
  have hr1 : Rv w1 t.rb t.V t.C t.A t.g := h.r.fr h2 (fun b hb hs => h.a b hs hb)
  obtain ⟨V', k1, k2, k3⟩ := hr hr1 rfl
  have hV : ∀ b, t.V b → ¬ S' b := fun b hb hs => (h3 b hs).elim (fun e => h.a b e hb) (fun e => by have := h.r.lt b hb; omega)
  refine ⟨⟨t.pb, t.rb, C, A, g, S', V'⟩, rfl, rfl, ⟨h1.fr k2 (fun b hs hb => hV b hb hs), k1, fun q hs hv => ?_⟩, ?_⟩
  · rcases k3 q hv with e | e
    · exact hV q e hs
    · have := h1.lt q hs; omega
  · refine ⟨k2.os.trans h2.os, k2.tape.trans h2.tape, k2.output.trans h2.output, Nat.le_trans h2.size k2.size, fun q hq hn => (k2.block q (Nat.lt_of_lt_of_le hq h2.size) (fun e => hn (.inr e))).trans (h2.block q hq (fun e => hn (.inl e))), ?_⟩
    rintro q (hq | hq)
    · exact (h3 q hq).imp .inl id
    · exact (k3 q hq).imp .inr (fun e => Nat.le_trans h2.size e)
def oP (t : Option Tw) : Value := .pointer (t.map fun t => ⟨t.pb, 0, none⟩)
def oD (t : Option Tw) : Value := .pointer (t.map fun t => ⟨t.rb, 0, none⟩)
def updT (T : Nat → Option Tw) (j : Nat) (x : Option Tw) : Nat → Option Tw := fun i => if i = j then x else T i
theorem updT_same (T : Nat → Option Tw) (j : Nat) (x : Option Tw) : updT T j x j = x := by simp [updT]
theorem updT_other (T : Nat → Option Tw) {i j : Nat} (x : Option Tw) (h : i ≠ j) : updT T j x i = T i := by simp [updT, h]
structure PlayIs (w0 w : World) (y : Nat) (T : Nat → Option Tw) (U : Nat → Prop) : Prop where
  bl : Below w0.heap.size w0 w
  z0 : 1 < w0.heap.size
  st : Stp w0
  yl : w0.heap.size ≤ y
  ul : ∀ q, U q → w0.heap.size ≤ q
  tl : ∀ i, i < 3 → ∀ t, T i = some t → ∀ q, t.fp q → w0.heap.size ≤ q
  p : ∀ i, i < 3 → w.cell? ⟨y, i, none⟩ = some (oP (T i))
  d : ∀ i, i < 3 → w.cell? ⟨y, 3 + i, none⟩ = some (oD (T i))
  kb : KB w y U
  tw : ∀ i, i < 3 → ∀ t, T i = some t → TwOK w t
  ay : ∀ i, i < 3 → ∀ t, T i = some t → ¬ t.fp y
  au : ∀ i, i < 3 → ∀ t, T i = some t → ∀ q, t.fp q → ¬ U q
  ap : ∀ i j, i < 3 → j < 3 → i ≠ j → ∀ t t', T i = some t → T j = some t' → ∀ q, t.fp q → ¬ t'.fp q
theorem PlayIs.below {w0 w w' : World} {y : Nat} {T : Nat → Option Tw} {U : Nat → Prop} (h : PlayIs w0 w y T U) (hb : Below w.heap.size w w') : PlayIs w0 w' y T U :=
  have hy := hb.block y h.kb.lt
  ⟨h.bl.trans (hb.mono h.bl.size), h.z0, h.st, h.yl, h.ul, h.tl, fun i hi => (World.cell?_of_block hy).trans (h.p i hi), fun i hi => (World.cell?_of_block hy).trans (h.d i hi), h.kb.below hb, fun i hi t ht => (h.tw i hi t ht).below hb, h.ay, h.au, h.ap⟩
/-- one pair of views changed -/
theorem PlayIs.change {w0 w w' : World} {y : Nat} {T : Nat → Option Tw} {U : Nat → Prop} (h : PlayIs w0 w y T U) {j : Nat} (hj : j < 3) {t t' : Tw} (ht : T j = some t) (hp : t'.pb = t.pb) (hr : t'.rb = t.rb) (ho : TwOK w' t') (hs : Sep w w' t.fp t'.fp) : PlayIs w0 w' y (updT T j (some t')) U := by
  have hyl := h.kb.lt
  have hy : w'.heap[y]? = w.heap[y]? := hs.block y hyl (h.ay j hj t ht)
  have h00 : w'.heap[1]? = w.heap[1]? := hs.block 1 (Nat.lt_of_lt_of_le h.z0 h.bl.size) (fun hq => by have := h.tl j hj t ht 1 hq; have := h.z0; omega)
  have hnew : ∀ q, t'.fp q → t.fp q ∨ w.heap.size ≤ q := hs.new
  refine ⟨?_, h.z0, h.st, h.yl, h.ul, fun i hi x hx q hq => ?_, fun i hi => ?_, fun i hi => ?_, h.kb.on hs.size (fun _ _ => World.cell?_of_block hy) (fun _ => World.frozen?_of_block hy) h00 (fun q hq => hs.block q (h.kb.ul q hq).2.2 (fun e => h.au j hj t ht q e hq)), fun i hi x hx => ?_, fun i hi x hx hq => ?_, fun i hi x hx q hq hU => ?_, fun a b ha hb hab x x' hx hx' q hq hq' => ?_⟩
  · exact h.bl.trans (hs.below (fun q hq => h.tl j hj t ht q hq) h.bl.size)
  · by_cases e : i = j
    · subst e
      rw [updT_same] at hx
      injection hx with hx
      subst hx
      rcases hnew q hq with h' | h'
      · exact h.tl i hi t ht q h'
      · exact Nat.le_trans h.bl.size h'
    · rw [updT_other _ _ e] at hx
      exact h.tl i hi x hx q hq
  · rw [World.cell?_of_block hy, h.p i hi]
    by_cases e : i = j
    · subst e
      rw [updT_same, ht]
      simp [oP, hp]
    · rw [updT_other _ _ e]
  · rw [World.cell?_of_block hy, h.d i hi]
    by_cases e : i = j
    · subst e
      rw [updT_same, ht]
      simp [oD, hr]
    · rw [updT_other _ _ e]
  · by_cases e : i = j
    · subst e
      rw [updT_same] at hx
      injection hx with hx
      subst hx
      exact ho
    · rw [updT_other _ _ e] at hx
      exact (h.tw i hi x hx).sep hs (fun q hq hq' => h.ap i j hi hj e x t hx ht q hq hq')
  · by_cases e : i = j
    · subst e
      rw [updT_same] at hx
      injection hx with hx
      subst hx
      rcases hnew y hq with h' | h'
      · exact h.ay i hi t ht h'
      · omega
    · rw [updT_other _ _ e] at hx
      exact h.ay i hi x hx hq
  · by_cases e : i = j
    · subst e
      rw [updT_same] at hx
      injection hx with hx
      subst hx
      rcases hnew q hq with h' | h'
      · exact h.au i hi t ht q h' hU
      · have := (h.kb.ul q hU).2.2; omega
    · rw [updT_other _ _ e] at hx
      exact h.au i hi x hx q hq hU
  · have key : ∀ i, i < 3 → i ≠ j → ∀ x, T i = some x → x.fp q → ¬ t'.fp q := fun i hi e x hx hq hq' => by
      rcases hnew q hq' with h' | h'
      · exact h.ap i j hi hj e x t hx ht q hq h'
      · have := (h.tw i hi x hx).lt hq; omega
    by_cases e : a = j
    · subst e
      rw [updT_same] at hx
      injection hx with hx
      subst hx
      rw [updT_other _ _ (fun e => hab e.symm)] at hx'
      exact key b hb (fun e => hab e.symm) x' hx' hq' hq
    · rw [updT_other _ _ e] at hx
      by_cases e' : b = j
      · subst e'
        rw [updT_same] at hx'
        injection hx' with hx'
        subst hx'
        exact key a ha e x hx hq hq'
      · rw [updT_other _ _ e'] at hx'
        exact h.ap a b ha hb hab x x' hx hx' q hq hq'
/-- the book took lists that lie where X says -/
theorem PlayIs.took {w0 w w' : World} {y : Nat} {T : Nat → Option Tw} {U U' X : Nat → Prop} (h : PlayIs w0 w y T U) (hz : w.heap.size ≤ w'.heap.size) (os : w'.os = w.os) (tp : w'.tape = w.tape) (ou : w'.output = w.output) (low : ∀ j, j < 6 → w'.cell? ⟨y, j, none⟩ = w.cell? ⟨y, j, none⟩)
    (hblk : ∀ q, q < w.heap.size → q ≠ y → ¬ U q → ¬ X q → w'.heap[q]? = w.heap[q]?) (hnew : ∀ q, U' q → U q ∨ X q ∨ w.heap.size ≤ q) (hk : KB w' y U') (hX0 : ∀ q, X q → w0.heap.size ≤ q) (hXt : ∀ q, X q → ∀ i, i < 3 → ∀ t, T i = some t → ¬ t.fp q) : PlayIs w0 w' y T U' := by
  have hfar : ∀ i, i < 3 → ∀ t, T i = some t → Sep w w' (fun q => ¬ t.fp q) (fun q => ¬ t.fp q ) := fun i hi t ht => ⟨os, tp, ou, hz, fun q hq hn => by
    have hf : t.fp q := Classical.not_not.1 hn
    exact hblk q hq (fun e => h.ay i hi t ht (by rw [← e]; exact hf)) (h.au i hi t ht q hf) (fun hx => hXt q hx i hi t ht hf), fun q hq => .inl hq⟩
  refine ⟨⟨os.trans h.bl.os, tp.trans h.bl.tape, ou.trans h.bl.output, Nat.le_trans h.bl.size hz, fun q hq => (hblk q (Nat.lt_of_lt_of_le hq h.bl.size) (by have := h.yl; omega) (fun e => by have := h.ul q e; omega) (fun e => by have := hX0 q e; omega)).trans (h.bl.block q hq)⟩, h.z0, h.st, h.yl, fun q hq => ?_, h.tl, fun i hi => (low i (by omega)).trans (h.p i hi), fun i hi => (low _ (by omega)).trans (h.d i hi), hk, fun i hi t ht => (h.tw i hi t ht).sep (hfar i hi t ht) (fun q hq hn => hn hq), h.ay, fun i hi t ht q hq hU => ?_, h.ap⟩
  · rcases hnew q hq with h' | h' | h'
    · exact h.ul q h'
    · exact hX0 q h'
    · exact Nat.le_trans h.bl.size h'
  · rcases hnew q hU with h' | h' | h'
    · exact h.au i hi t ht q hq h'
    · exact hXt q h' i hi t ht hq
    · have := (h.tw i hi t ht).lt hq; omega
theorem PlayIs.tookL {w0 w w' : World} {y : Nat} {T : Nat → Option Tw} {U U' : Nat → Prop} {L : Value} (h : PlayIs w0 w y T U) (hT : Took w w' y U U' L) (hk : KB w' y U') (hX0 : ∀ q, L.ownBlock = some q → w0.heap.size ≤ q) (hXt : ∀ q, L.ownBlock = some q → ∀ i, i < 3 → ∀ t, T i = some t → ¬ t.fp q) : PlayIs w0 w' y T U' :=
  h.took (X := fun q => L.ownBlock = some q) hT.size hT.os hT.tape hT.output hT.low hT.block hT.new hk hX0 hXt
/-- the book settled -/
theorem PlayIs.settled {w0 w w' : World} {y : Nat} {T : Nat → Option Tw} {U U' : Nat → Prop} (h : PlayIs w0 w y T U) (hs : Sep w w' U U') (hk : KB w' y U') : PlayIs w0 w' y T U' :=
  have hy : w'.heap[y]? = w.heap[y]? := hs.block y h.kb.lt (fun hq => (h.kb.ul y hq).1 rfl)
  h.took (X := fun _ => False) hs.size hs.os hs.tape hs.output (fun _ _ => World.cell?_of_block hy) (fun q h1 _ h2 _ => hs.block q h1 h2) (fun q hq => (hs.new q hq).imp id .inr) hk (fun _ e => e.elim) (fun _ e => e.elim)
/-- the pair at j made anew -/
theorem PlayIs.put {w0 w : World} {y : Nat} {T : Nat → Option Tw} {U : Nat → Prop} (h : PlayIs w0 w y T U) {j : Nat} (hj : j < 3) (x : Option Tw) (ho : ∀ t, x = some t → TwOK w t ∧ ∀ q, t.fp q → w0.heap.size ≤ q ∧ q ≠ y ∧ ¬ U q ∧ ∀ i, i < 3 → ∀ t', T i = some t' → ¬ t'.fp q) : PlayIs w0 ((w.setCell ⟨y, j, none⟩ (oP x)).setCell ⟨y, 3 + j, none⟩ (oD x)) y (updT T j x) U := by
  have hq : ∀ q, q ≠ y → ((w.setCell ⟨y, j, none⟩ (oP x)).setCell ⟨y, 3 + j, none⟩ (oD x)).heap[q]? = w.heap[q]? := fun q hq => by
    rw [Below.heap_setCell _ ⟨y, 3 + j, none⟩ _ q hq, Below.heap_setCell _ ⟨y, j, none⟩ _ q hq]
  have hz : w.heap.size ≤ ((w.setCell ⟨y, j, none⟩ (oP x)).setCell ⟨y, 3 + j, none⟩ (oD x)).heap.size := by simp
  have hc : ∀ i, i ≠ j → i ≠ 3 + j → ((w.setCell ⟨y, j, none⟩ (oP x)).setCell ⟨y, 3 + j, none⟩ (oD x)).cell? ⟨y, i, none⟩ = w.cell? ⟨y, i, none⟩ := fun i h1 h2 => by
    rw [World.cell?_setCell_other _ _ _ _ (by intro h'; injection h' with _ h' _; omega), World.cell?_setCell_other _ _ _ _ (by intro h'; injection h' with _ h' _; omega)]
  have hf : ∀ i, ((w.setCell ⟨y, j, none⟩ (oP x)).setCell ⟨y, 3 + j, none⟩ (oD x)).frozen? ⟨y, i, none⟩ = w.frozen? ⟨y, i, none⟩ := fun i => by simp
  have hs : Sep w ((w.setCell ⟨y, j, none⟩ (oP x)).setCell ⟨y, 3 + j, none⟩ (oD x)) (fun q => q = y) (fun q => q = y) := ⟨rfl, rfl, rfl, hz, fun q _ hn => hq q hn, fun _ h => .inl h⟩
  have hpj : ((w.setCell ⟨y, j, none⟩ (oP x)).setCell ⟨y, 3 + j, none⟩ (oD x)).cell? ⟨y, j, none⟩ = some (oP x) := by
    rw [World.cell?_setCell_other _ _ _ _ (by intro h'; injection h' with _ h' _; omega)]
    exact World.cell?_setCell_same _ _ _ (h.p j hj)
  have hdj : ((w.setCell ⟨y, j, none⟩ (oP x)).setCell ⟨y, 3 + j, none⟩ (oD x)).cell? ⟨y, 3 + j, none⟩ = some (oD x) := World.cell?_setCell_same _ _ _ ((World.cell?_setCell_other _ _ _ _ (by intro h'; injection h' with _ h' _; omega)).trans (h.d j hj))
  refine ⟨h.bl.trans (hs.below (fun q e => by rw [e]; exact h.yl) h.bl.size), h.z0, h.st, h.yl, h.ul, fun i hi t ht q hq' => ?_, fun i hi => ?_, fun i hi => ?_, h.kb.on hz (fun i hi => hc i (by omega) (by omega)) hf (hq 1 (by have := h.yl; have := h.z0; omega)) (fun q hU => hq q (h.kb.ul q hU).1), fun i hi t ht => ?_, fun i hi t ht hq' => ?_, fun i hi t ht q hq' hU => ?_, fun a b ha hb hab t t' ht ht' q h1 h2 => ?_⟩
  · by_cases e : i = j
    · subst e; rw [updT_same] at ht; exact ((ho t ht).2 q hq').1
    · rw [updT_other _ _ e] at ht; exact h.tl i hi t ht q hq'
  · by_cases e : i = j
    · subst e; rw [updT_same]; exact hpj
    · rw [updT_other _ _ e, hc i e (by omega)]; exact h.p i hi
  · by_cases e : i = j
    · subst e; rw [updT_same]; exact hdj
    · rw [updT_other _ _ e, hc (3 + i) (by omega) (by omega)]; exact h.d i hi
  · by_cases e : i = j
    · subst e
      rw [updT_same] at ht
      exact (ho t ht).1.sep hs (fun q hq' e => ((ho t ht).2 q hq').2.1 e)
    · rw [updT_other _ _ e] at ht
      exact (h.tw i hi t ht).sep hs (fun q hq' e => h.ay i hi t ht (by rw [← e]; exact hq'))
  · by_cases e : i = j
    · subst e; rw [updT_same] at ht; exact ((ho t ht).2 y hq').2.1 rfl
    · rw [updT_other _ _ e] at ht; exact h.ay i hi t ht hq'
  · by_cases e : i = j
    · subst e; rw [updT_same] at ht; exact ((ho t ht).2 q hq').2.2.1 hU
    · rw [updT_other _ _ e] at ht; exact h.au i hi t ht q hq' hU
  · by_cases e : a = j
    · subst e
      rw [updT_same] at ht
      rw [updT_other _ _ (fun e => hab e.symm)] at ht'
      exact ((ho t ht).2 q h1).2.2.2 b hb t' ht' h2
    · rw [updT_other _ _ e] at ht
      by_cases e' : b = j
      · subst e'
        rw [updT_same] at ht'
        exact ((ho t' ht').2 q h2).2.2.2 a ha t ht h1
      · rw [updT_other _ _ e'] at ht'
        exact h.ap a b ha hb hab t t' ht ht' q h1 h2
end Go.Proofs.YtfclknlpdcanpaaGreatDoor.Kg
