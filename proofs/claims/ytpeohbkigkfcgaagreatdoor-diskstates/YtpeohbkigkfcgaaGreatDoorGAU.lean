import Derived.Test.YtpeohbkigkfcgaaGreatDoorGAT
import Derived.Test.YtpeohbkigkfcgaaGreatDoorGAO
import Derived.Test.YtpeohbkigkfcgaaGreatDoorGAN
import Derived.Test.YtpeohbkigkfcgaaGreatDoorGAE
set_option linter.unusedVariables false
set_option linter.unusedSimpArgs false
set_option maxRecDepth 100000
set_option maxHeartbeats 16000000
namespace Go.Proofs.YtpeohbkigkfcgaaGreatDoor
open Go Go.ChangeShapes Go.WideShapes Go.ChangeAt Go.RowKit
structure Tw where
 pb : Nat
 rb : Nat
 K : Dk
 S : Nat -> Prop
 V : Nat -> Prop
def Tw.fp (t : Tw) (q : Nat) : Prop := t.S q \/ t.V q
structure TwOK (w : World) (N : Nat) (t : Tw) : Prop where
 p : DiskOK w t.pb N t.K t.S
 r : RefOK w t.rb t.K t.V
 i : Inv t.K
 a : ∀ q, t.S q -> ¬ t.V q
theorem RefOK.sl {W : World} {r : Nat} {K : Dk} {V : Nat -> Prop} (h : RefOK W r K V) : ∀ q, V q -> q < W.heap.size := by
 obtain ⟨V0, v, h⟩ := h
 exact h.vl
theorem TwOK.lt {w : World} {N : Nat} {t : Tw} (h : TwOK w N t) {q : Nat} (hq : t.fp q) : q < w.heap.size := hq.elim (h.p.sl q) (h.r.sl q)
theorem TwOK.c0 {w : World} {N : Nat} {t : Tw} (h : TwOK w N t) : 0 <= t.K.cap := by have := h.i.tot; omega
theorem TwOK.tt {w : World} {N : Nat} {t : Tw} (h : TwOK w N t) : totF t.K.A <= 1048576 := by have := h.i.tot; have := h.i.cap1; omega
theorem TwOK.sep {w w' : World} {N : Nat} {t : Tw} {S S' : Nat -> Prop} (h : TwOK w N t) (hs : Sep w w' S S') (hd : ∀ q, t.fp q -> ¬ S q) : TwOK w' N t :=
 ⟨h.p.sep hs (fun q hq => hd q (.inl hq)), h.r.sep hs (fun q hq => hd q (.inr hq)), h.i, h.a⟩
theorem TwOK.below {w w' : World} {N : Nat} {t : Tw} (h : TwOK w N t) (hb : Below w.heap.size w w') : TwOK w' N t := ⟨h.p.below hb, h.r.below hb, h.i, h.a⟩
theorem TwOK.mono {w : World} {N N' : Nat} {t : Tw} (h : TwOK w N t) (hN : N <= N') : TwOK w N' t := ⟨h.p.mono hN, h.r, h.i, h.a⟩
def oP (t : Option Tw) : Value := .pointer (t.map fun t => ⟨t.pb, 0, none⟩)
def oD (t : Option Tw) : Value := .pointer (t.map fun t => ⟨t.rb, 0, none⟩)
def updT (T : Nat -> Option Tw) (j : Nat) (x : Option Tw) : Nat -> Option Tw := fun i => if i = j then x else T i
theorem updT_same (T : Nat -> Option Tw) (j : Nat) (x : Option Tw) : updT T j x j = x := by simp [updT]
theorem updT_other (T : Nat -> Option Tw) {i j : Nat} (x : Option Tw) (h : i ≠ j) : updT T j x i = T i := by simp [updT, h]
structure PlayIs (w0 w : World) (y N : Nat) (T : Nat -> Option Tw) (U : Nat -> Prop) : Prop where
 bl : Below w0.heap.size w0 w
 z0 : 0 < w0.heap.size
 yl : w0.heap.size <= y
 ul : ∀ q, U q -> w0.heap.size <= q
 tl : ∀ i, i < 3 -> ∀ t, T i = some t -> ∀ q, t.fp q -> w0.heap.size <= q
 p : ∀ i, i < 3 -> w.cell? ⟨y, i, none⟩ = some (oP (T i))
 d : ∀ i, i < 3 -> w.cell? ⟨y, 3 + i, none⟩ = some (oD (T i))
 kb : KB w y U
 tw : ∀ i, i < 3 -> ∀ t, T i = some t -> TwOK w N t
 ay : ∀ i, i < 3 -> ∀ t, T i = some t -> ¬ t.fp y
 au : ∀ i, i < 3 -> ∀ t, T i = some t -> ∀ q, t.fp q -> ¬ U q
 ap : ∀ i j, i < 3 -> j < 3 -> i ≠ j -> ∀ t t', T i = some t -> T j = some t' -> ∀ q, t.fp q -> ¬ t'.fp q
theorem PlayIs.below {w0 w w' : World} {y N : Nat} {T : Nat -> Option Tw} {U : Nat -> Prop} (h : PlayIs w0 w y N T U) (hb : Below w.heap.size w w') : PlayIs w0 w' y N T U :=
 have hy := hb.block y h.kb.lt
 ⟨h.bl.trans (hb.mono h.bl.size), h.z0, h.yl, h.ul, h.tl, fun i hi => (World.cell?_of_block hy).trans (h.p i hi), fun i hi => (World.cell?_of_block hy).trans (h.d i hi), h.kb.below hb, fun i hi t ht => (h.tw i hi t ht).below hb, h.ay, h.au, h.ap⟩
theorem PlayIs.mono {w0 w : World} {y N N' : Nat} {T : Nat -> Option Tw} {U : Nat -> Prop} (h : PlayIs w0 w y N T U) (hN : N <= N') : PlayIs w0 w y N' T U :=
 ⟨h.bl, h.z0, h.yl, h.ul, h.tl, h.p, h.d, h.kb, fun i hi t ht => (h.tw i hi t ht).mono hN, h.ay, h.au, h.ap⟩
theorem PlayIs.change {w0 w w' : World} {y N N' : Nat} {T : Nat -> Option Tw} {U : Nat -> Prop} (h : PlayIs w0 w y N T U) {j : Nat} (hj : j < 3) {t t' : Tw} (ht : T j = some t) (hp : t'.pb = t.pb) (hr : t'.rb = t.rb) (ho : TwOK w' N' t') (hN : N <= N') (hs : Sep w w' t.fp t'.fp) : PlayIs w0 w' y N' (updT T j (some t')) U := by
 have hyl := h.kb.lt
 have hy : w'.heap[y]? = w.heap[y]? := hs.block y hyl (h.ay j hj t ht)
 have h00 : w'.heap[0]? = w.heap[0]? := hs.block 0 (Nat.lt_of_lt_of_le h.z0 h.bl.size) (fun hq => by have := h.tl j hj t ht 0 hq; have := h.z0; omega)
 have hnew : ∀ q, t'.fp q -> t.fp q \/ w.heap.size <= q := hs.new
 refine ⟨?_, h.z0, h.yl, h.ul, fun i hi x hx q hq => ?_, fun i hi => ?_, fun i hi => ?_, h.kb.on hs.size (fun _ _ => World.cell?_of_block hy) (fun _ => World.frozen?_of_block hy) h00 (fun q hq => hs.block q (h.kb.ul q hq).2.2 (fun e => h.au j hj t ht q e hq)), fun i hi x hx => ?_, fun i hi x hx hq => ?_, fun i hi x hx q hq hU => ?_, fun a b ha hb hab x x' hx hx' q hq hq' => ?_⟩
 ·exact h.bl.trans (hs.below (fun q hq => h.tl j hj t ht q hq) h.bl.size)
 ·by_cases e : i = j
  ·subst e
   rw [updT_same] at hx
   injection hx with hx
   subst hx
   rcases hnew q hq with h' | h'
   ·exact h.tl i hi t ht q h'
   ·exact Nat.le_trans h.bl.size h'
  ·rw [updT_other _ _ e] at hx
   exact h.tl i hi x hx q hq
 ·rw [World.cell?_of_block hy, h.p i hi]
  by_cases e : i = j
  ·subst e
   rw [updT_same, ht]
   simp [oP, hp]
  ·rw [updT_other _ _ e]
 ·rw [World.cell?_of_block hy, h.d i hi]
  by_cases e : i = j
  ·subst e
   rw [updT_same, ht]
   simp [oD, hr]
  ·rw [updT_other _ _ e]
 ·by_cases e : i = j
  ·subst e
   rw [updT_same] at hx
   injection hx with hx
   subst hx
   exact ho
  ·rw [updT_other _ _ e] at hx
   exact ((h.tw i hi x hx).mono hN).sep hs (fun q hq hq' => h.ap i j hi hj e x t hx ht q hq hq')
 ·by_cases e : i = j
  ·subst e
   rw [updT_same] at hx
   injection hx with hx
   subst hx
   rcases hnew y hq with h' | h'
   ·exact h.ay i hi t ht h'
   ·omega
  ·rw [updT_other _ _ e] at hx
   exact h.ay i hi x hx hq
 ·by_cases e : i = j
  ·subst e
   rw [updT_same] at hx
   injection hx with hx
   subst hx
   rcases hnew q hq with h' | h'
   ·exact h.au i hi t ht q h' hU
   ·have := (h.kb.ul q hU).2.2; omega
  ·rw [updT_other _ _ e] at hx
   exact h.au i hi x hx q hq hU
 ·have key : ∀ i, i < 3 -> i ≠ j -> ∀ x, T i = some x -> x.fp q -> ¬ t'.fp q := fun i hi e x hx hq hq' => by
   rcases hnew q hq' with h' | h'
   ·exact h.ap i j hi hj e x t hx ht q hq h'
   ·have := (h.tw i hi x hx).lt hq; omega
  by_cases e : a = j
  ·subst e
   rw [updT_same] at hx
   injection hx with hx
   subst hx
   rw [updT_other _ _ (fun e => hab e.symm)] at hx'
   exact key b hb (fun e => hab e.symm) x' hx' hq' hq
  ·rw [updT_other _ _ e] at hx
   by_cases e' : b = j
   ·subst e'
    rw [updT_same] at hx'
    injection hx' with hx'
    subst hx'
    exact key a ha e x hx hq hq'
   ·rw [updT_other _ _ e'] at hx'
    exact h.ap a b ha hb hab x x' hx hx' q hq hq'
theorem PlayIs.took {w0 w w' : World} {y N : Nat} {T : Nat -> Option Tw} {U U' X : Nat -> Prop} (h : PlayIs w0 w y N T U) (hz : w.heap.size <= w'.heap.size) (os : w'.os = w.os) (tp : w'.tape = w.tape) (ou : w'.output = w.output) (low : ∀ j, j < 6 -> w'.cell? ⟨y, j, none⟩ = w.cell? ⟨y, j, none⟩)
  (hblk : ∀ q, q < w.heap.size -> q ≠ y -> ¬ U q -> ¬ X q -> w'.heap[q]? = w.heap[q]?) (hnew : ∀ q, U' q -> U q \/ X q \/ w.heap.size <= q) (hk : KB w' y U') (hX0 : ∀ q, X q -> w0.heap.size <= q) (hXt : ∀ q, X q -> ∀ i, i < 3 -> ∀ t, T i = some t -> ¬ t.fp q) : PlayIs w0 w' y N T U' := by
 have hfar : ∀ i, i < 3 -> ∀ t, T i = some t -> Sep w w' (fun q => ¬ t.fp q) (fun q => ¬ t.fp q ) := fun i hi t ht => ⟨os, tp, ou, hz, fun q hq hn => by
  have hf : t.fp q := Classical.not_not.1 hn
  exact hblk q hq (fun e => h.ay i hi t ht (by rw [<- e]; exact hf)) (h.au i hi t ht q hf) (fun hx => hXt q hx i hi t ht hf), fun q hq => .inl hq⟩
 refine ⟨⟨os.trans h.bl.os, tp.trans h.bl.tape, ou.trans h.bl.output, Nat.le_trans h.bl.size hz, fun q hq => (hblk q (Nat.lt_of_lt_of_le hq h.bl.size) (by have := h.yl; omega) (fun e => by have := h.ul q e; omega) (fun e => by have := hX0 q e; omega)).trans (h.bl.block q hq)⟩, h.z0, h.yl, fun q hq => ?_, h.tl, fun i hi => (low i (by omega)).trans (h.p i hi), fun i hi => (low _ (by omega)).trans (h.d i hi), hk, fun i hi t ht => (h.tw i hi t ht).sep (hfar i hi t ht) (fun q hq hn => hn hq), h.ay, fun i hi t ht q hq hU => ?_, h.ap⟩
 ·rcases hnew q hq with h' | h' | h'
  ·exact h.ul q h'
  ·exact hX0 q h'
  ·exact Nat.le_trans h.bl.size h'
 ·rcases hnew q hU with h' | h' | h'
  ·exact h.au i hi t ht q hq h'
  ·exact hXt q h' i hi t ht hq
  ·have := (h.tw i hi t ht).lt hq; omega
theorem PlayIs.tookL {w0 w w' : World} {y N : Nat} {T : Nat -> Option Tw} {U U' : Nat -> Prop} {L : Value} (h : PlayIs w0 w y N T U) (hT : Took w w' y U U' L) (hk : KB w' y U') (hX0 : ∀ q, L.ownBlock = some q -> w0.heap.size <= q) (hXt : ∀ q, L.ownBlock = some q -> ∀ i, i < 3 -> ∀ t, T i = some t -> ¬ t.fp q) : PlayIs w0 w' y N T U' :=
 h.took (X := fun q => L.ownBlock = some q) hT.size hT.os hT.tape hT.output hT.low hT.block hT.new hk hX0 hXt
theorem PlayIs.tookR {w0 w w' : World} {y N b e : Nat} {T : Nat -> Option Tw} {U U' : Nat -> Prop} (h : PlayIs w0 w y N T U) (hT : TookR w w' y U U' b e) (hk : KB w' y U') (hX0 : w0.heap.size <= b) (hXt : ∀ q, b <= q -> q < e -> ∀ i, i < 3 -> ∀ t, T i = some t -> ¬ t.fp q) : PlayIs w0 w' y N T U' :=
 h.took (X := fun q => b <= q /\ q < e) hT.size hT.os hT.tape hT.output hT.low hT.block hT.new hk (fun q hq => Nat.le_trans hX0 hq.1) (fun q hq => hXt q hq.1 hq.2)
theorem PlayIs.settled {w0 w w' : World} {y N : Nat} {T : Nat -> Option Tw} {U U' : Nat -> Prop} (h : PlayIs w0 w y N T U) (hs : Sep w w' U U') (hk : KB w' y U') : PlayIs w0 w' y N T U' :=
 have hy : w'.heap[y]? = w.heap[y]? := hs.block y h.kb.lt (fun hq => (h.kb.ul y hq).1 rfl)
 h.took (X := fun _ => False) hs.size hs.os hs.tape hs.output (fun _ _ => World.cell?_of_block hy) (fun q h1 _ h2 _ => hs.block q h1 h2) (fun q hq => (hs.new q hq).imp id .inr) hk (fun _ e => e.elim) (fun _ e => e.elim)
theorem PlayIs.put {w0 w : World} {y N : Nat} {T : Nat -> Option Tw} {U : Nat -> Prop} (h : PlayIs w0 w y N T U) {j : Nat} (hj : j < 3) (x : Option Tw) (ho : ∀ t, x = some t -> TwOK w N t /\ ∀ q, t.fp q -> w0.heap.size <= q /\ q ≠ y /\ ¬ U q /\ ∀ i, i < 3 -> ∀ t', T i = some t' -> ¬ t'.fp q) : PlayIs w0 ((w.setCell ⟨y, j, none⟩ (oP x)).setCell ⟨y, 3 + j, none⟩ (oD x)) y N (updT T j x) U := by
 have hq : ∀ q, q ≠ y -> ((w.setCell ⟨y, j, none⟩ (oP x)).setCell ⟨y, 3 + j, none⟩ (oD x)).heap[q]? = w.heap[q]? := fun q hq => by
  rw [Below.heap_setCell _ ⟨y, 3 + j, none⟩ _ q hq, Below.heap_setCell _ ⟨y, j, none⟩ _ q hq]
 have hz : w.heap.size <= ((w.setCell ⟨y, j, none⟩ (oP x)).setCell ⟨y, 3 + j, none⟩ (oD x)).heap.size := by simp
 have hc : ∀ i, i ≠ j -> i ≠ 3 + j -> ((w.setCell ⟨y, j, none⟩ (oP x)).setCell ⟨y, 3 + j, none⟩ (oD x)).cell? ⟨y, i, none⟩ = w.cell? ⟨y, i, none⟩ := fun i h1 h2 => by
  rw [World.cell?_setCell_other _ _ _ _ (by intro h'; injection h' with _ h' _; omega), World.cell?_setCell_other _ _ _ _ (by intro h'; injection h' with _ h' _; omega)]
 have hf : ∀ i, ((w.setCell ⟨y, j, none⟩ (oP x)).setCell ⟨y, 3 + j, none⟩ (oD x)).frozen? ⟨y, i, none⟩ = w.frozen? ⟨y, i, none⟩ := fun i => by simp
 have hs : Sep w ((w.setCell ⟨y, j, none⟩ (oP x)).setCell ⟨y, 3 + j, none⟩ (oD x)) (fun q => q = y) (fun q => q = y) := ⟨rfl, rfl, rfl, hz, fun q _ hn => hq q hn, fun _ h => .inl h⟩
 have hpj : ((w.setCell ⟨y, j, none⟩ (oP x)).setCell ⟨y, 3 + j, none⟩ (oD x)).cell? ⟨y, j, none⟩ = some (oP x) := by
  rw [World.cell?_setCell_other _ _ _ _ (by intro h'; injection h' with _ h' _; omega)]
  exact World.cell?_setCell_same _ _ _ (h.p j hj)
 have hdj : ((w.setCell ⟨y, j, none⟩ (oP x)).setCell ⟨y, 3 + j, none⟩ (oD x)).cell? ⟨y, 3 + j, none⟩ = some (oD x) := World.cell?_setCell_same _ _ _ ((World.cell?_setCell_other _ _ _ _ (by intro h'; injection h' with _ h' _; omega)).trans (h.d j hj))
 refine ⟨h.bl.trans (hs.below (fun q e => by rw [e]; exact h.yl) h.bl.size), h.z0, h.yl, h.ul, fun i hi t ht q hq' => ?_, fun i hi => ?_, fun i hi => ?_, h.kb.on hz (fun i hi => hc i (by omega) (by omega)) hf (hq 0 (by have := h.yl; have := h.z0; omega)) (fun q hU => hq q (h.kb.ul q hU).1), fun i hi t ht => ?_, fun i hi t ht hq' => ?_, fun i hi t ht q hq' hU => ?_, fun a b ha hb hab t t' ht ht' q h1 h2 => ?_⟩
 ·by_cases e : i = j
  ·subst e; rw [updT_same] at ht; exact ((ho t ht).2 q hq').1
  ·rw [updT_other _ _ e] at ht; exact h.tl i hi t ht q hq'
 ·by_cases e : i = j
  ·subst e; rw [updT_same]; exact hpj
  ·rw [updT_other _ _ e, hc i e (by omega)]; exact h.p i hi
 ·by_cases e : i = j
  ·subst e; rw [updT_same]; exact hdj
  ·rw [updT_other _ _ e, hc (3 + i) (by omega) (by omega)]; exact h.d i hi
 ·by_cases e : i = j
  ·subst e
   rw [updT_same] at ht
   exact (ho t ht).1.sep hs (fun q hq' e => ((ho t ht).2 q hq').2.1 e)
  ·rw [updT_other _ _ e] at ht
   exact (h.tw i hi t ht).sep hs (fun q hq' e => h.ay i hi t ht (by rw [<- e]; exact hq'))
 ·by_cases e : i = j
  ·subst e; rw [updT_same] at ht; exact ((ho t ht).2 y hq').2.1 rfl
  ·rw [updT_other _ _ e] at ht; exact h.ay i hi t ht hq'
 ·by_cases e : i = j
  ·subst e; rw [updT_same] at ht; exact ((ho t ht).2 q hq').2.2.1 hU
  ·rw [updT_other _ _ e] at ht; exact h.au i hi t ht q hq' hU
 ·by_cases e : a = j
  ·subst e
   rw [updT_same] at ht
   rw [updT_other _ _ (fun e => hab e.symm)] at ht'
   exact ((ho t ht).2 q h1).2.2.2 b hb t' ht' h2
  ·rw [updT_other _ _ e] at ht
   by_cases e' : b = j
   ·subst e'
    rw [updT_same] at ht'
    exact ((ho t' ht').2 q h2).2.2.2 a ha t ht h1
   ·rw [updT_other _ _ e'] at ht'
    exact h.ap a b ha hb hab t t' ht ht' q h1 h2
end Go.Proofs.YtpeohbkigkfcgaaGreatDoor
namespace Go.Proofs.YtpeohbkigkfcgaaGreatDoor.Kf
open Go Go.ChangeShapes Go.WideShapes Go.ChangeAt Go.RowKit
open Go.Proofs.YtpeohbkigkfcgaaGreatDoor.Kt (Pw mkS text_any Grn id_any)
attribute [local go_sem] setCell_drewN alloc_drewN
def RoomOut (F : Nat -> FE) (n : Nat) (w : World) (e : Ending) (w' : World) : Prop :=
 ∃ g c, e = .returned (.slice (some ⟨g, 0, none⟩) (n + 64) c) /\ w'.ownsRow w.heap.size 82 3 (.slice (some ⟨g, 0, none⟩) (n + 64) c) (n + 64) (fcells (fcat F n (mkF 700000)) (n + 64)) /\ Below w.heap.size w w'
theorem fcells_newsO {W : World} {F : Nat -> FE} {gb off n : Nat} (h : ∀ j, j < n -> ∀ c, c < 3 -> W.cell? ⟨gb, off + (j * 3 + c), none⟩ = (F j).cells[c]?) : ∀ j u, (fcells F n)[j]? = some u -> W.cell? ((⟨gb, off, none⟩ : Addr).add j) = some u := by
 intro j u hj
 have hl := (List.getElem?_eq_some_iff.1 hj).1
 rw [fcells_len] at hl
 have e : j = j / 3 * 3 + j % 3 := by omega
 have h1 := h (j / 3) (by omega) (j % 3) (by omega)
 have h2 := fcells_get F (j % 3) (by omega) n (j / 3) (by omega)
 rw [<- e] at h1 h2
 rw [Addr.add_mid, h1, <- h2]
 exact hj
theorem room_some (F : Nat -> FE) (b off n cap : Nat) (hn : n <= 2932031007320) (w : World) (hP : Pw w) (hb : 0 < n -> b < w.heap.size) (hc : ∀ k, k < n -> ∀ c, c < 3 -> w.cell? ⟨b, off + (k * 3 + c), none⟩ = (F k).cells[c]?) :
  Calls Tryz.prog 194 #[.slice (some ⟨b, off, none⟩) n cap] w fun e w' => RoomOut F n w e w' := by
 obtain ⟨i0, hi, hz0, hz1, hz2⟩ := info_parts info82
 have HI := hide hi; have HZ0 := hide hz0; have HZ1 := hide hz1; have HZ2 := hide hz2
 have HPW := hide hP
 have HNW : Hid (∀ o, ∀ j u, (fcells F n)[j]? = some u -> (w.alloc o).cell? ((⟨b, off, none⟩ : Addr).add j) = some u) := fun o => fcells_newsO (fun j hj c hc' => (World.cell?_alloc_lt w o ⟨b, off + (j * 3 + c), none⟩ (hb (by omega))).trans (hc j hj c hc'))
 clear hi hz0 hz1 hz2 hP hc hb
 go_enter Tryz.func194, Tryz.ntmps194
 have hnl := hide (World.ownsRow_lit (base := w.heap.size) (e := 82) (size := 3) w #[] 0 (Nat.le_refl _) (by unfold maxLen; omega) rfl)
 go_wp2_with (at_builtin; refine wpList_append_own _ rfl _ _ 57 rfl w.heap.size 82 i0 (.agg #[.string ⟨#[]⟩, .slice none 0 0, .int .i64 0]) 3 48 Tryz.underlying57 (uh HI) (uh HZ0) (uh HZ1) (uh HZ2) rfl (by decide) _ _ _ rfl (uh hnl) ⟨b, off, none⟩ n cap (fcells F n) rfl (fcells_len _ _) (uh HNW _) (fcells_one _ _) (by unfold maxLen; omega) (by omega) (by simp) ?_; intro v1 w1 hown1 hgrow1 _; have O1 := hide hown1; have B1 := hide (Below.grown (bal (Below.refl _ _) _) hgrow1 (by simp) (fun k hk => ((uh hnl).lt k hk).1)); clear hown1 hgrow1)
 go_loopw [3, 4] (fun v i wr => ∃ j : Nat, j <= 64 /\ i = .int .i64 (j : Int) /\ wr.ownsRow w.heap.size 82 3 v (n + j) (fcells (fcat F n (mkF 700000)) (n + j)) /\ Below w.heap.size w wr) (fun _ i _ => 64 - (intOf i).toNat)
 case atStart =>
  refine ⟨0, by omega, rfl, ?_, uh B1⟩
  have h := uh O1
  rw [List.nil_append, Nat.zero_add] at h
  rw [Nat.add_zero, fcells_ext n (fun i hi => fcat_lt hi)]
  exact h
 case round =>
  obtain ⟨j, hj, rfl, hown, hbel⟩ := hrel
  have OWN := hide hown
  have BEL := hide hbel
  have hsz := hbel.size
  have hmk := hide (mark_any 700000 j (by omega) (by omega) wr ((uh HPW).below hbel))
  simp only [FE.val, mkF] at hmk
  clear hown hbel
  by_cases hlt : j < 64
  ·have hI : (j : Int) < 64 := by omega
   go_wp2_with fail
   refine (uh hmk).mono ?_
   rintro e w2 ⟨rfl, hb⟩
   have B2 : Hid (Below w.heap.size w w2) := (uh BEL).trans (hb.mono (uh BEL).size)
   have OW2 := hide (own_below (uh OWN) hb)
   have hz2 := hb.size
   clear hb
   go_wp2_with (at_builtin; refine wpList_append_own _ rfl _ _ 57 rfl w.heap.size 82 i0 (.agg #[.string ⟨#[]⟩, .slice none 0 0, .int .i64 0]) 3 48 Tryz.underlying57 (uh HI) (uh HZ0) (uh HZ1) (uh HZ2) rfl (by decide) _ _ _ rfl (own_below (uh OW2) (bal (Below.refl _ _) _)) ⟨w2.heap.size, 0, none⟩ 1 1 [.string (mkS 700000 j), .slice none 0 0, .int .i64 (-(j : Int) - 1)] rfl rfl (World.news_of_block (heap_alloc_new w2 _)) (one3 _ _ _ _ _) (by unfold maxLen; omega) (by omega) (by rw [World.size_alloc]; omega) ?_; intro v3 w3 hown3 hgrow3 _; have O2 := hide hown3; have B3 := hide (Below.grown (bal (uh B2) _) hgrow3 (by rw [World.size_alloc]; omega) (fun k hk => ((uh OW2).lt k hk).1)); clear hown3 hgrow3)
   refine ⟨⟨j + 1, by omega, by go_num, ?_, uh B3⟩, by simp [intOf]; omega⟩
   have h := uh O2
   show w3.ownsRow w.heap.size 82 3 _ _ (fcells _ (n + j) ++ (fcat F n (mkF 700000) (n + j)).cells)
   rw [fcat_ge]
   exact h
  ·have hj64 : j = 64 := by omega
   subst hj64
   go_wp2_with fail
   go_ret
   obtain ⟨g, c, hv⟩ := own_open (uh OWN) (by omega)
   subst hv
   exact ⟨g, c, rfl, uh OWN, uh BEL⟩
theorem room_none (F : Nat -> FE) (w : World) (hP : Pw w) : Calls Tryz.prog 194 #[.slice none 0 0] w fun e w' => RoomOut F 0 w e w' := by
 obtain ⟨i0, hi, hz0, hz1, hz2⟩ := info_parts info82
 have HI := hide hi; have HZ0 := hide hz0; have HZ1 := hide hz1; have HZ2 := hide hz2
 have HPW := hide hP
 clear hi hz0 hz1 hz2 hP
 go_enter Tryz.func194, Tryz.ntmps194
 have hnl := hide (World.ownsRow_lit (base := w.heap.size) (e := 82) (size := 3) w #[] 0 (Nat.le_refl _) (by unfold maxLen; omega) rfl)
 go_wp2_with (at_builtin; refine wpList_append_own_none rfl _ _ 57 rfl w.heap.size 82 i0 3 Tryz.underlying57 (uh HI) _ _ _ rfl (uh hnl) rfl ?_)
 go_loopw [3, 4] (fun v i wr => ∃ j : Nat, j <= 64 /\ i = .int .i64 (j : Int) /\ wr.ownsRow w.heap.size 82 3 v (0 + j) (fcells (fcat F 0 (mkF 700000)) (0 + j)) /\ Below w.heap.size w wr) (fun _ i _ => 64 - (intOf i).toNat)
 case atStart =>
  exact ⟨0, by omega, rfl, uh hnl, bal (Below.refl _ _) _⟩
 case round =>
  obtain ⟨j, hj, rfl, hown, hbel⟩ := hrel
  have OWN := hide hown
  have BEL := hide hbel
  have hsz := hbel.size
  have hmk := hide (mark_any 700000 j (by omega) (by omega) wr ((uh HPW).below hbel))
  simp only [FE.val, mkF] at hmk
  clear hown hbel
  by_cases hlt : j < 64
  ·have hI : (j : Int) < 64 := by omega
   go_wp2_with fail
   refine (uh hmk).mono ?_
   rintro e w2 ⟨rfl, hb⟩
   have B2 : Hid (Below w.heap.size w w2) := (uh BEL).trans (hb.mono (uh BEL).size)
   have OW2 := hide (own_below (uh OWN) hb)
   have hz2 := hb.size
   clear hb
   go_wp2_with (at_builtin; refine wpList_append_own _ rfl _ _ 57 rfl w.heap.size 82 i0 (.agg #[.string ⟨#[]⟩, .slice none 0 0, .int .i64 0]) 3 48 Tryz.underlying57 (uh HI) (uh HZ0) (uh HZ1) (uh HZ2) rfl (by decide) _ _ _ rfl (own_below (uh OW2) (bal (Below.refl _ _) _)) ⟨w2.heap.size, 0, none⟩ 1 1 [.string (mkS 700000 j), .slice none 0 0, .int .i64 (-(j : Int) - 1)] rfl rfl (World.news_of_block (heap_alloc_new w2 _)) (one3 _ _ _ _ _) (by unfold maxLen; omega) (by omega) (by rw [World.size_alloc]; omega) ?_; intro v3 w3 hown3 hgrow3 _; have O2 := hide hown3; have B3 := hide (Below.grown (bal (uh B2) _) hgrow3 (by rw [World.size_alloc]; omega) (fun k hk => ((uh OW2).lt k hk).1)); clear hown3 hgrow3)
   refine ⟨⟨j + 1, by omega, by go_num, ?_, uh B3⟩, by simp [intOf]; omega⟩
   have h := uh O2
   show w3.ownsRow w.heap.size 82 3 _ _ (fcells _ (0 + j) ++ (fcat F 0 (mkF 700000) (0 + j)).cells)
   rw [fcat_ge]
   exact h
  ·have hj64 : j = 64 := by omega
   subst hj64
   go_wp2_with fail
   go_ret
   obtain ⟨g, c, hv⟩ := own_open (uh OWN) (by omega)
   subst hv
   exact ⟨g, c, rfl, uh OWN, uh BEL⟩
theorem kept_some (F F' : Nat -> FE) (b off n cap : Nat) (hn : n <= 2932031007320) (g c : Nat) (w : World) (hP : Pw w) (hbl : 0 < n -> b < w.heap.size) (hgl : g < w.heap.size) (hs : ∀ k, k < n -> (F' k).nm = (F k).nm /\ (F' k).m = (F k).m /\ (F' k).sy = (F k).sy) (hc : ∀ k, k < n -> ∀ c, c < 3 -> w.cell? ⟨b, off + (k * 3 + c), none⟩ = (F' k).cells[c]?)
  (hg : ∀ k, k < n + 64 -> ∀ c, c < 3 -> w.cell? ⟨g, k * 3 + c, none⟩ = (fcat F n (mkF 700000) k).cells[c]?) :
  Calls Tryz.prog 96 #[.slice (some ⟨g, 0, none⟩) (n + 64) c, .slice (some ⟨b, off, none⟩) n cap] w fun e w' => e = .returned (.bool true) /\ Below w.heap.size w w' := by
 have HP := hide hP
 have HS := hide hs
 have HC := hide hc
 have HG := hide hg
 have HBL := hide hbl
 clear hP hs hc hg hbl
 go_enter Tryz.func96, Tryz.ntmps96
 go_wp2_with fail
 go_loopw [5] (fun i wr => ∃ (k : Nat) (K : Int), k <= n + 64 /\ i = .int .i64 K /\ K = (k : Int) /\ Below w.heap.size w wr) (fun i _ => ((n : Int) + 64 - intOf i).toNat)
 case atStart => exact ⟨0, 0, by omega, rfl, rfl, Below.refl _ _⟩
 case round =>
  obtain ⟨k, K, hk, rfl, hK, hb⟩ := hrel
  have HB := hide hb
  have HK := hide hK
  have hK0 : 0 <= K := by omega
  have hKt : K.toNat = k := by omega
  have hgr : g < wr.heap.size := Nat.lt_of_lt_of_le hgl hb.size
  by_cases hlt : k < n + 64
  ·have hI : K < (n : Int) + 64 := by omega
   have e := fun c hc' => (World.cell?_of_block (a := ⟨g, k * 3 + c, none⟩) (hb.block g hgl)).trans (uh HG k hlt c hc')
   by_cases hkn : k < n
   ·obtain ⟨h1, h2, h3⟩ := uh HS k hkn
    have hbr : b < wr.heap.size := Nat.lt_of_lt_of_le (uh HBL (by omega)) hb.size
    have e' := fun c hc' => (World.cell?_of_block (a := ⟨b, off + (k * 3 + c), none⟩) (hb.block b (uh HBL (by omega)))).trans (uh HC k hkn c hc')
    rw [fcat_lt hkn] at e
    obtain ⟨f, hf⟩ : ∃ f, f = F k := ⟨_, rfl⟩
    obtain ⟨f', hf'⟩ : ∃ f', f' = F' k := ⟨_, rfl⟩
    rw [<- hf] at e h1 h2 h3
    rw [<- hf'] at e' h1 h2 h3
    obtain ⟨nm, p, m, cc, sy⟩ := f
    obtain ⟨nm', p', m', cc', sy'⟩ := f'
    simp only at h1 h2 h3
    subst h1 h2 h3
    have x0 : ∀ P : Bel wr, P.W.cell? ⟨g, k * 3, none⟩ = some (.string nm') := fun P => keep1 P.h hgr (e 0 (by omega))
    have x1 : ∀ P : Bel wr, P.W.cell? ⟨g, k * 3 + 1, none⟩ = some (.slice p m' cc) := fun P => keep1 P.h hgr (e 1 (by omega))
    have x2 : ∀ P : Bel wr, P.W.cell? ⟨g, k * 3 + 2, none⟩ = some (.int .i64 sy') := fun P => keep1 P.h hgr (e 2 (by omega))
    have y0 : ∀ P : Bel wr, P.W.cell? ⟨b, off + k * 3, none⟩ = some (.string nm') := fun P => keep1 P.h hbr (e' 0 (by omega))
    have y1 : ∀ P : Bel wr, P.W.cell? ⟨b, off + k * 3 + 1, none⟩ = some (.slice p' m' cc') := fun P => keep1 P.h hbr (e' 1 (by omega))
    have y2 : ∀ P : Bel wr, P.W.cell? ⟨b, off + k * 3 + 2, none⟩ = some (.int .i64 sy') := fun P => keep1 P.h hbr (e' 2 (by omega))
    have HSM : Hid (∀ P : Bel wr, Calls Tryz.prog 199 #[.agg #[.string nm', .slice p m' cc, .int .i64 sy'], .agg #[.string nm', .slice p' m' cc', .int .i64 sy']] P.W fun e w'' => e = .returned (.bool true) /\ ∃ q : Bel wr, w'' = q.W) := fun P =>
     (sameF ⟨nm', p, m', cc, sy'⟩ ⟨nm', p', m', cc', sy'⟩ rfl rfl rfl P.W).mono (fun e w' ⟨h1, h2⟩ => ⟨h1, ⟨w', P.h.trans (h2.mono P.h.size)⟩, rfl⟩)
    subst hK
    have hI1 : (k : Int) < (n : Int) := by omega
    have hI2 : ¬ (n : Int) <= (k : Int) := by omega
    have hN2 : ¬ n <= k := by omega
    have hD2 : decide (n <= k) = false := decide_eq_false hN2
    clear e e' hf hf' hb hk HK hKt
    go_wp2_with fail
    refine wp_region_quiet_below (by kernel_rfl) (by kernel_rfl) ?_
    repeat (go_big_quiet_step (first | (go_at_call 199; refine uh HSM _)))
    refine wpQuiet_nil ?_
    rintro _ ⟨P, rfl⟩
    clear x0 x1 x2 y0 y1 y2
    go_wp2_with fail
    exact ⟨⟨k + 1, (k : Int) + 1, by omega, by go_num, by omega, (uh HB).trans (P.h.mono (uh HB).size)⟩, by simp [intOf]; omega⟩
   ·obtain ⟨j, hjk⟩ : ∃ j, k = n + j := ⟨k - n, by omega⟩
    rw [hjk, fcat_ge] at e
    rw [<- hjk] at e
    have x0 : ∀ P : Bel wr, P.W.cell? ⟨g, k * 3, none⟩ = some (.string (mkS 700000 j)) := fun P => keep1 P.h hgr (e 0 (by omega))
    have x1 : ∀ P : Bel wr, P.W.cell? ⟨g, k * 3 + 1, none⟩ = some (.slice none 0 0) := fun P => keep1 P.h hgr (e 1 (by omega))
    have x2 : ∀ P : Bel wr, P.W.cell? ⟨g, k * 3 + 2, none⟩ = some (.int .i64 (-(j : Int) - 1)) := fun P => keep1 P.h hgr (e 2 (by omega))
    have hI1 : ¬ K < (n : Int) := by omega
    have hI2 : (n : Int) <= K := by omega
    have hI3 : K - (n : Int) = (j : Int) := by omega
    have hwj : IntKind.i64.wrap (j : Int) = (j : Int) := by rw [IntKind.wrap_i64]; omega
    have hwK : IntKind.i64.wrap (K - (n : Int)) = (j : Int) := by rw [hI3, hwj]
    have hD1 : decide (K < (n : Int)) = false := decide_eq_false hI1
    have hD2 : decide ((n : Int) <= K) = true := decide_eq_true hI2
    have HMK : Hid (∀ P : Bel wr, Calls Tryz.prog 200 #[.int .i64 700000, .int .i64 (j : Int)] P.W fun e w'' => e = .returned (.agg #[.string (mkS 700000 j), .slice none 0 0, .int .i64 (-(j : Int) - 1)]) /\ ∃ q : Bel wr, w'' = q.W) := fun P =>
     (mark_any 700000 j (by omega) (by omega) P.W (((uh HP).below hb).below P.h)).mono (fun e w' ⟨h1, h2⟩ => ⟨h1, ⟨w', P.h.trans (h2.mono P.h.size)⟩, rfl⟩)
    have HSM : Hid (∀ P : Bel wr, Calls Tryz.prog 199 #[.agg #[.string (mkS 700000 j), .slice none 0 0, .int .i64 (-(j : Int) - 1)], .agg #[.string (mkS 700000 j), .slice none 0 0, .int .i64 (-(j : Int) - 1)]] P.W fun e w'' => e = .returned (.bool true) /\ ∃ q : Bel wr, w'' = q.W) := fun P =>
     (sameF (mkF 700000 j) (mkF 700000 j) rfl rfl rfl P.W).mono (fun e w' ⟨h1, h2⟩ => ⟨h1, ⟨w', P.h.trans (h2.mono P.h.size)⟩, rfl⟩)
    clear e hb hK hlt hk hkn hjk
    go_wp2_with fail
    refine wp_region_quiet_below (by kernel_rfl) (by kernel_rfl) ?_
    repeat (go_big_quiet_step (first | (go_at_call 199; refine uh HSM _) | (go_at_call 200; refine uh HMK _)))
    refine wpQuiet_nil ?_
    rintro _ ⟨P, rfl⟩
    clear x0 x1 x2
    go_wp2_with fail
    exact ⟨⟨k + 1, K + 1, by have := uh HK; omega, by go_num, by have := uh HK; omega, (uh HB).trans (P.h.mono (uh HB).size)⟩, by have := uh HK; simp [intOf]; omega⟩
  ·have hI : ¬ K < (n : Int) + 64 := by omega
   clear hb hK
   go_wp2_with fail
   go_ret
   exact ⟨rfl, uh HB⟩
end Go.Proofs.YtpeohbkigkfcgaaGreatDoor.Kf
namespace Go.Proofs.YtpeohbkigkfcgaaGreatDoor.Ki
open Go Go.ChangeShapes Go.WideShapes Go.ChangeAt Go.RowKit
attribute [local go_sem] setCell_drewN alloc_drewN
theorem info3 : (Tryz.prog.info? 3).map (fun i => (i.zero, i.size, i.bytes)) = some (some (.int .i64 0), 1, 8) := by kernel_rfl
def mI (k : Nat) : Int := -1000000 - (k : Int)
theorem mark_any (k : Nat) (hk : k < 1000000) (w : World) : Calls Tryz.prog 212 #[.int .i64 700000, .int .i64 (k : Int)] w fun e w' => e = .returned (.int .i64 (mI k)) /\ w' = w := by
 have s0 : -9223372036854775808 <= -1000000 - (k : Int) := by omega
 have s1 : -1000000 - (k : Int) <= 9223372036854775807 := by omega
 go_enter Tryz.func212, Tryz.ntmps212
 go_wp2_with fail
 go_ret
 exact ⟨rfl, rfl⟩
def icells (f : Nat -> Int) (n : Nat) : List Value := (List.range n).map fun i => .int .i64 (f i)
theorem icells_len (f : Nat -> Int) (n : Nat) : (icells f n).length = n := by simp [icells]
theorem icells_succ (f : Nat -> Int) (n : Nat) : icells f (n + 1) = icells f n ++ [.int .i64 (f n)] := by simp [icells, List.range_succ]
theorem icells_get (f : Nat -> Int) (n j : Nat) (h : j < n) : (icells f n)[j]? = some (.int .i64 (f j)) := by simp [icells, h]
theorem icells_get' {f : Nat -> Int} {n j : Nat} {u : Value} (h : (icells f n)[j]? = some u) : j < n /\ u = .int .i64 (f j) := by
 by_cases hj : j < n
 ·rw [icells_get f n j hj] at h
  exact ⟨hj, (Option.some.inj h).symm⟩
 ·rw [List.getElem?_eq_none (by rw [icells_len]; omega)] at h
  cases h
theorem icells_one (f : Nat -> Int) (n : Nat) : ∀ u ∈ icells f n, u.oneCell' = true := by
 intro u hu
 simp only [icells, List.mem_map] at hu
 obtain ⟨i, _, rfl⟩ := hu
 rfl
theorem icells_ext {f g : Nat -> Int} (n : Nat) (h : ∀ i, i < n -> f i = g i) : icells f n = icells g n := by
 induction n with
 | zero => rfl
 | succ n ih => rw [icells_succ, icells_succ, ih (fun i hi => h i (by omega)), h n (by omega)]
def cat (f : Nat -> Int) (n : Nat) (g : Nat -> Int) : Nat -> Int := fun i => if i < n then f i else g (i - n)
theorem cat_lt {f g : Nat -> Int} {n i : Nat} (h : i < n) : cat f n g i = f i := by simp [cat, h]
theorem cat_ge {f g : Nat -> Int} {n : Nat} (i : Nat) : cat f n g (n + i) = g i := by
 have : ¬ n + i < n := by omega
 simp only [cat, if_neg this, Nat.add_sub_cancel_left]
def ILies (f : Nat -> Int) (v : Value) (n : Nat) (W : World) : Prop :=
 (n = 0 /\ v = .slice none 0 0) \/ ∃ b off cap, v = .slice (some ⟨b, off, none⟩) n cap /\ (0 < n -> b < W.heap.size) /\ ∀ k, k < n -> W.cell? ⟨b, off + k, none⟩ = some (.int .i64 (f k))
theorem one_one (a : Int) : ∀ u ∈ ([.int .i64 a] : List Value), u.oneCell' = true := by
 intro u hu
 simp only [List.mem_cons, List.not_mem_nil, or_false] at hu
 rcases hu with rfl
 rfl
def RoomOut (f : Nat -> Int) (n : Nat) (w : World) (e : Ending) (w' : World) : Prop :=
 ∃ g c, e = .returned (.slice (some ⟨g, 0, none⟩) (n + 64) c) /\ w'.ownsRow w.heap.size 3 1 (.slice (some ⟨g, 0, none⟩) (n + 64) c) (n + 64) (icells (cat f n mI) (n + 64)) /\ Below w.heap.size w w'
theorem room_some (f : Nat -> Int) (b off n cap : Nat) (hn : n <= 17592186043904) (w : World) (hb : 0 < n -> b < w.heap.size) (hc : Hid (∀ k, k < n -> w.cell? ⟨b, off + k, none⟩ = some (.int .i64 (f k)))) :
  Calls Tryz.prog 108 #[.slice (some ⟨b, off, none⟩) n cap] w fun e w' => RoomOut f n w e w' := by
 obtain ⟨i0, hi, hz0, hz1, hz2⟩ := info_parts info3
 have HI := hide hi; have HZ0 := hide hz0; have HZ1 := hide hz1; have HZ2 := hide hz2
 clear hi hz0 hz1 hz2
 go_enter Tryz.func108, Tryz.ntmps108
 have hnl := hide (World.ownsRow_lit (base := w.heap.size) (e := 3) (size := 1) w #[] 0 (Nat.le_refl _) (by unfold maxLen; omega) rfl)
 have hc1 := hide (fun o j (hj : j < n) => (World.cell?_alloc_lt w o ⟨b, off + j, none⟩ (hb (by omega))).trans (uh hc j hj))
 go_wp2_with (at_builtin; refine wpList_append_own _ rfl _ _ 56 rfl w.heap.size 3 i0 (.int .i64 0) 1 8 Tryz.underlying56 (uh HI) (uh HZ0) (uh HZ1) (uh HZ2) rfl (by decide) _ _ _ rfl (uh hnl) ⟨b, off, none⟩ n cap (icells f n) rfl (by rw [icells_len]; omega) (fun j u hj => by obtain ⟨h1, h2⟩ := icells_get' hj; rw [h2, Addr.add_mid]; exact uh hc1 _ j h1) (icells_one _ _) (by unfold maxLen; omega) (by omega) (by simp) ?_; intro v1 w1 hown1 hgrow1 _; have O1 := hide hown1; have B1 := hide (Below.grown (bal (Below.refl _ _) _) hgrow1 (by simp) (fun k hk => ((uh hnl).lt k hk).1)); clear hown1 hgrow1)
 go_loopw [3, 4] (fun v i wr => ∃ j : Nat, j <= 64 /\ i = .int .i64 (j : Int) /\ wr.ownsRow w.heap.size 3 1 v (n + j) (icells (cat f n mI) (n + j)) /\ Below w.heap.size w wr) (fun _ i _ => 64 - (intOf i).toNat)
 case atStart =>
  refine ⟨0, by omega, rfl, ?_, uh B1⟩
  have h := uh O1
  rw [List.nil_append, Nat.zero_add] at h
  rw [Nat.add_zero, icells_ext n (fun i hi => cat_lt hi)]
  exact h
 case round =>
  obtain ⟨j, hj, rfl, hown, hbel⟩ := hrel
  have OWN := hide hown
  have BEL := hide hbel
  have hsz := hbel.size
  clear hown hbel O1 B1
  by_cases hlt : j < 64
  ·have hI : (j : Int) < 64 := by omega
   go_wp2_with fail
   refine (mark_any j (by omega) wr).mono ?_
   rintro e w2 ⟨rfl, hw⟩
   rw [hw]
   clear hw
   go_wp2_with (at_builtin; refine wpList_append_own _ rfl _ _ 56 rfl w.heap.size 3 i0 (.int .i64 0) 1 8 Tryz.underlying56 (uh HI) (uh HZ0) (uh HZ1) (uh HZ2) rfl (by decide) _ _ _ rfl ((uh OWN).alloc _) ⟨wr.heap.size, 0, none⟩ 1 1 [.int .i64 (mI j)] rfl rfl (cell_one_new _ _ _) (one_one _) (by unfold maxLen; omega) (by omega) (by simp; omega) ?_; intro v1 w2 hown1 hgrow1 _; have B2 := hide (Below.grown (bal (uh BEL) _) hgrow1 (by simp; omega) (fun k hk => ((uh OWN).lt k hk).1)); have O2 := hide hown1; clear hown1 hgrow1)
   refine ⟨⟨j + 1, by omega, by go_num, ?_, uh B2⟩, by simp [intOf]; omega⟩
   have h := uh O2
   rw [<- cat_ge (f := f) (g := mI) (n := n) j, <- icells_succ] at h
   exact h
  ·have hj64 : j = 64 := by omega
   subst hj64
   go_wp2_with fail
   go_ret
   obtain ⟨g, c, hv⟩ := own_open (uh OWN) (by omega)
   subst hv
   exact ⟨g, c, rfl, uh OWN, uh BEL⟩
theorem room_none (f : Nat -> Int) (w : World) : Calls Tryz.prog 108 #[.slice none 0 0] w fun e w' => RoomOut f 0 w e w' := by
 obtain ⟨i0, hi, hz0, hz1, hz2⟩ := info_parts info3
 have HI := hide hi; have HZ0 := hide hz0; have HZ1 := hide hz1; have HZ2 := hide hz2
 clear hi hz0 hz1 hz2
 go_enter Tryz.func108, Tryz.ntmps108
 have hnl := hide (World.ownsRow_lit (base := w.heap.size) (e := 3) (size := 1) w #[] 0 (Nat.le_refl _) (by unfold maxLen; omega) rfl)
 go_wp2_with (at_builtin; refine wpList_append_own_none rfl _ _ 56 rfl w.heap.size 3 i0 1 Tryz.underlying56 (uh HI) _ _ _ rfl (uh hnl) rfl ?_)
 go_loopw [3, 4] (fun v i wr => ∃ j : Nat, j <= 64 /\ i = .int .i64 (j : Int) /\ wr.ownsRow w.heap.size 3 1 v (0 + j) (icells (cat f 0 mI) (0 + j)) /\ Below w.heap.size w wr) (fun _ i _ => 64 - (intOf i).toNat)
 case atStart =>
  exact ⟨0, by omega, rfl, uh hnl, bal (Below.refl _ _) _⟩
 case round =>
  obtain ⟨j, hj, rfl, hown, hbel⟩ := hrel
  have OWN := hide hown
  have BEL := hide hbel
  have hsz := hbel.size
  clear hown hbel
  by_cases hlt : j < 64
  ·have hI : (j : Int) < 64 := by omega
   go_wp2_with fail
   refine (mark_any j (by omega) wr).mono ?_
   rintro e w2 ⟨rfl, hw⟩
   rw [hw]
   clear hw
   go_wp2_with (at_builtin; refine wpList_append_own _ rfl _ _ 56 rfl w.heap.size 3 i0 (.int .i64 0) 1 8 Tryz.underlying56 (uh HI) (uh HZ0) (uh HZ1) (uh HZ2) rfl (by decide) _ _ _ rfl ((uh OWN).alloc _) ⟨wr.heap.size, 0, none⟩ 1 1 [.int .i64 (mI j)] rfl rfl (cell_one_new _ _ _) (one_one _) (by unfold maxLen; omega) (by omega) (by simp; omega) ?_; intro v1 w2 hown1 hgrow1 _; have B2 := hide (Below.grown (bal (uh BEL) _) hgrow1 (by simp; omega) (fun k hk => ((uh OWN).lt k hk).1)); have O2 := hide hown1; clear hown1 hgrow1)
   refine ⟨⟨j + 1, by omega, by go_num, ?_, uh B2⟩, by simp [intOf]; omega⟩
   have h := uh O2
   rw [<- cat_ge (f := f) (g := mI) (n := 0) j, <- icells_succ] at h
   exact h
  ·have hj64 : j = 64 := by omega
   subst hj64
   go_wp2_with fail
   go_ret
   obtain ⟨g, c, hv⟩ := own_open (uh OWN) (by omega)
   subst hv
   exact ⟨g, c, rfl, uh OWN, uh BEL⟩
theorem room_any {f : Nat -> Int} {v : Value} {n : Nat} {w : World} (hn : n <= 17592186043904) (h : ILies f v n w) : Calls Tryz.prog 108 #[v] w fun e w' => RoomOut f n w e w' := by
 rcases h with ⟨rfl, rfl⟩ | ⟨b, off, cap, rfl, h2, h3⟩
 ·exact room_none f w
 ·exact room_some f b off n cap hn w h2 (hide h3)
theorem same8 (a : Int) (w : World) : Calls Tryz.prog 214 #[.int .i64 a, .int .i64 a] w fun e w' => e = .returned (.bool true) /\ w' = w := by
 go_enter Tryz.func214, Tryz.ntmps214
 go_wp2_with fail
 go_ret
 exact ⟨by simp, rfl⟩
theorem kept_some (f : Nat -> Int) (b off n cap : Nat) (hn : n <= 17592186043904) (g c : Nat) (w : World) (hc : Hid (∀ k, k < n -> w.cell? ⟨b, off + k, none⟩ = some (.int .i64 (f k))))
  (hg : Hid (∀ k, k < n + 64 -> w.cell? ⟨g, k, none⟩ = some (.int .i64 (cat f n mI k)))) :
  Calls Tryz.prog 110 #[.slice (some ⟨g, 0, none⟩) (n + 64) c, .slice (some ⟨b, off, none⟩) n cap] w fun e w' => e = .returned (.bool true) /\ ∃ m, w' = w.drewN m := by
 go_enter Tryz.func110, Tryz.ntmps110
 go_wp2_with fail
 go_loopw [5] (fun i wr => ∃ (k m : Nat), k <= n + 64 /\ i = .int .i64 (k : Int) /\ wr = w.drewN m) (fun i _ => n + 64 - (intOf i).toNat)
 case atStart => exact ⟨0, 0, by omega, rfl, rfl⟩
 case round =>
  obtain ⟨k, m, hk, rfl, hw⟩ := hrel
  have HW := hide hw
  have hI0 : (0 : Int) <= (k : Int) := by omega
  by_cases hlt : k < n + 64
  ·have h1 : wr.cell? ⟨g, k, none⟩ = some (.int .i64 (cat f n mI k)) := by rw [hw]; exact uh hg k hlt
   have hI : (k : Int) < (n : Int) + 64 := by omega
   by_cases hkn : k < n
   ·have h2 : wr.cell? ⟨b, off + k, none⟩ = some (.int .i64 (f k)) := by rw [hw]; exact uh hc k hkn
    rw [cat_lt hkn] at h1
    have hI1 : (k : Int) < (n : Int) := by omega
    have hI2 : ¬ (n : Int) <= (k : Int) := by omega
    have hN2 : ¬ n <= k := by omega
    have hD2 : decide (n <= k) = false := decide_eq_false hN2
    clear hw hc hg
    go_wp2_with fail
    go_quiet (first | (go_at_call 214; refine Calls.quiet_of_same (same8 _ _)))
    go_wp2_with fail
    go_roundw
    case rel => exact ⟨k + 1, m + nq, by omega, by go_num, by rw [uh HW]; exact drew_two _ _ _⟩
    case measure => simp [intOf]; omega
   ·obtain ⟨j, hjk⟩ : ∃ j, k = n + j := ⟨k - n, by omega⟩
    rw [hjk, cat_ge] at h1
    rw [<- hjk] at h1
    obtain ⟨K, hK⟩ : ∃ K : Int, (k : Int) = K := ⟨_, rfl⟩
    have hKn : K.toNat = k := by omega
    have hI1 : ¬ K < (n : Int) := by omega
    have hI2 : (n : Int) <= K := by omega
    have hI3 : K - (n : Int) = (j : Int) := by omega
    have hD1 : decide (K < (n : Int)) = false := decide_eq_false hI1
    have hD2 : decide ((n : Int) <= K) = true := decide_eq_true hI2
    rw [hK] at hI hI0 ⊢
    have HK := hide hK
    have hj64 : j < 64 := by omega
    clear hK hw hc hg hjk hkn hlt hk
    go_wp2_with fail
    go_quiet (first | (go_at_call 214; refine Calls.quiet_of_same (same8 _ _)) | (go_at_call 212; refine Calls.quiet_of_same (mark_any j (by omega) _)))
    go_wp2_with fail
    go_roundw
    case rel => exact ⟨k + 1, m + nq, by have := uh HK; omega, by have := uh HK; go_num, by rw [uh HW]; exact drew_two _ _ _⟩
    case measure => have := uh HK; simp [intOf]; omega
  ·have hkn : k = n + 64 := by omega
   subst hkn
   have hI : ¬ ((n + 64 : Nat) : Int) < (n : Int) + 64 := by omega
   clear hw
   go_wp2_with fail
   go_ret
   exact ⟨rfl, m, uh HW⟩
theorem kept_none (f : Nat -> Int) (g c : Nat) (w : World) (hg : Hid (∀ k, k < 0 + 64 -> w.cell? ⟨g, k, none⟩ = some (.int .i64 (cat f 0 mI k)))) :
  Calls Tryz.prog 110 #[.slice (some ⟨g, 0, none⟩) (0 + 64) c, .slice none 0 0] w fun e w' => e = .returned (.bool true) /\ ∃ m, w' = w.drewN m := by
 go_enter Tryz.func110, Tryz.ntmps110
 go_wp2_with fail
 go_loopw [5] (fun i wr => ∃ (k m : Nat), k <= 64 /\ i = .int .i64 (k : Int) /\ wr = w.drewN m) (fun i _ => 64 - (intOf i).toNat)
 case atStart => exact ⟨0, 0, by omega, rfl, rfl⟩
 case round =>
  obtain ⟨k, m, hk, rfl, hw⟩ := hrel
  have HW := hide hw
  have hI0 : (0 : Int) <= (k : Int) := by omega
  by_cases hlt : k < 64
  ·have h1 : wr.cell? ⟨g, k, none⟩ = some (.int .i64 (mI k)) := by
    have e := cat_ge (f := f) (g := mI) (n := 0) k
    rw [Nat.zero_add] at e
    rw [hw, <- e]
    exact uh hg k (by omega)
   have hI : (k : Int) < 64 := by omega
   obtain ⟨K, hK⟩ : ∃ K : Int, (k : Int) = K := ⟨_, rfl⟩
   have hKn : K.toNat = k := by omega
   have hI1 : ¬ K < 0 := by omega
   have hI2 : (0 : Int) <= K := by omega
   have hD1 : decide (K < 0) = false := decide_eq_false hI1
   have hD2 : decide (0 <= K) = true := decide_eq_true hI2
   rw [hK] at hI hI0 ⊢
   have HK := hide hK
   have hmk := hide (show ∀ W, Calls Tryz.prog 212 #[.int .i64 700000, .int .i64 K] W fun e w' => e = .returned (.int .i64 (mI k)) /\ w' = W from fun W => by rw [<- hK]; exact mark_any k (by omega) W)
   clear hK hw hg hlt hk
   go_wp2_with fail
   go_quiet (first | (go_at_call 214; refine Calls.quiet_of_same (same8 _ _)) | (go_at_call 212; refine Calls.quiet_of_same (uh hmk _)))
   go_wp2_with fail
   go_roundw
   case rel => exact ⟨k + 1, m + nq, by have := uh HK; omega, by have := uh HK; go_num, by rw [uh HW]; exact drew_two _ _ _⟩
   case measure => have := uh HK; simp [intOf]; omega
  ·have hkn : k = 64 := by omega
   subst hkn
   clear hw
   go_wp2_with fail
   go_ret
   exact ⟨rfl, m, uh HW⟩
theorem kept_any {f : Nat -> Int} {v : Value} {n : Nat} {w : World} (hn : n <= 17592186043904) (h : ILies f v n w) (g c : Nat) (hg : ∀ k, k < n + 64 -> w.cell? ⟨g, k, none⟩ = some (.int .i64 (cat f n mI k))) :
  Calls Tryz.prog 110 #[.slice (some ⟨g, 0, none⟩) (n + 64) c, v] w fun e w' => e = .returned (.bool true) /\ ∃ m, w' = w.drewN m := by
 rcases h with ⟨rfl, rfl⟩ | ⟨b, off, cap, rfl, h2, h3⟩
 ·exact kept_none f g c w (hide hg)
 ·exact kept_some f b off n cap hn g c w (hide h3) (hide hg)
end Go.Proofs.YtpeohbkigkfcgaaGreatDoor.Ki
