import Derived.Test.YtfclknlpdcanpaaGreatDoorW36
/- A play: New and From (15): plain facts. By tools/mda.py. -/
namespace Go.Proofs.YtfclknlpdcanpaaGreatDoor.Kg
open Go Go.Shelf Go.ChangeShapes Go.WideShapes Go.ChangeAt Go.RowKit Go.Maps
set_option linter.unusedVariables false
set_option linter.unusedSimpArgs false
/-- what New and From are asked of -/
structure FromIn (W : World) (pc : Option Addr) (C : List Cl) (cc : Nat) (pa : Option Addr) (A : List Al) (ca : Nat) : Prop where
  lC : Lies kC W pc C
  lA : Lies kA W pa A
  nC : pc = none → cc = 0
  nA : pa = none → ca = 0
  bC : C.length ≤ 2513169434843
  bA : A.length ≤ 2932031007317
  wC : ∀ c ∈ C, (c.key.size ≤ maxLen ∧ c.acc.size ≤ maxLen) ∧ c.amt ≤ 9223372036854775807
  wA : ∀ a ∈ A, a.inv.size ≤ maxLen
theorem FromIn.below {W W' : World} {pc : Option Addr} {C : List Cl} {cc : Nat} {pa : Option Addr} {A : List Al} {ca : Nat} (h : FromIn W pc C cc pa A ca) (hb : Below W.heap.size W W') : FromIn W' pc C cc pa A ca := ⟨h.lC.below hb, h.lA.below hb, h.nC, h.nA, h.bC, h.bA, h.wC, h.wA⟩
theorem OpIn.from {W : World} {o : OpV} (h : OpIn W o) (ok : OpOk o) : FromIn W o.pC o.C o.cC o.pA o.A o.cA := ⟨h.lC, h.lA, ok.nC, ok.nA, ok.bC, ok.bA, ok.wC, ok.wA⟩
theorem sz_toList {a b : ByteArray} (h : a.data.toList = b.data.toList) : a.size = b.size := by
  have h1 := congrArg List.length h
  rw [Array.length_toList, Array.length_toList] at h1
  exact h1
theorem TwOK.from {W : World} {t : Tw} (h : TwOK W t) {pc pa : Option Addr} {cc ca : Nat} (hC : Lies kC W pc t.C) (hA : Lies kA W pa t.A) (nC : pc = none → cc = 0) (nA : pa = none → ca = 0) : FromIn W pc t.C cc pa t.A ca := by
  have hG := h.p.good
  have hC1 : ∀ c ∈ t.C, (c.key.size ≤ maxLen ∧ c.acc.size ≤ maxLen) ∧ c.amt ≤ 9223372036854775807 := fun c hc => ⟨⟨(hG.ok c hc).s1, (hG.ok c hc).s2⟩, (hG.ok c hc).a2⟩
  refine ⟨hC, hA, nC, nA, by have := hG.l1; omega, by have := hG.l2; omega, hC1, fun a ha => ?_⟩
  obtain ⟨_, _, c, hc, h1, _⟩ := hG.al a ha
  rw [← sz_toList h1]
  exact (hC1 c hc).1.1
theorem room_bound {n b : Nat} (h : n ≤ 3000000000000) (hb : b ≤ 56) : (n + 64 + (n + 64) / 4 + 192) * b ≤ 281474976710656 := by
  have h1 : (n + 64 + (n + 64) / 4 + 192) * b ≤ 5000000000000 * 56 := Nat.mul_le_mul (by omega) hb
  omega
theorem lies_pre {α : Type} {K : Kd α} (hK : KdOK K) {W : World} {B g c n m : Nat} {X Y : List α} (hn : X.length = n) (hm : (X ++ Y).length = m) (h : W.ownsRow B K.e K.s (.slice (some ⟨g, 0, none⟩) m c) m (K.flat (X ++ Y))) : Lies K W (some ⟨g, 0, none⟩) X := by
  have h6 := (own_lies hK hm h).part 0 n
  have e7 : ((X ++ Y).drop 0).take n = X := by
    rw [List.drop_zero]
    exact List.take_left' hn
  rw [e7, Nat.zero_mul, Nat.add_zero] at h6
  exact h6
theorem own_cap {w : World} {B e s n g c : Nat} {xs : List Value} (h : w.ownsRow B e s (.slice (some ⟨g, 0, none⟩) n c) n xs) : n ≤ c ∧ c ≤ maxLen := by
  rcases h.2 with ⟨e, _⟩ | ⟨g', cap, cur, e, hB, hh, hc, hm, _⟩
  · cases e
  · injection e with _ _ e2
    subst e2
    exact ⟨hc, hm⟩
/-- a list of one's own while it is written over -/
structure Spo {α : Type} (K : Kd α) (w wr : World) (v : Value) (n : Nat) : Prop where
  gr : w.grownBy wr v.ownBlock
  own : ∃ L : List α, L.length = n ∧ wr.ownsRow 0 K.e K.s v n (K.flat L)
theorem Spo.start {α : Type} {K : Kd α} {w : World} {B n : Nat} {v : Value} {L : List α} (hn : L.length = n) (h : w.ownsRow B K.e K.s v n (K.flat L)) : Spo K w w v n := ⟨⟨rfl, rfl, rfl, Nat.le_refl _, fun _ _ _ => rfl⟩, L, hn, row_le h (Nat.zero_le _)⟩
theorem Spo.step {α : Type} {K : Kd α} (hK : KdOK K) {w wr : World} {g c n k : Nat} (h : Spo K w wr (.slice (some ⟨g, 0, none⟩) n c) n) (hk : k < n) (x : α) : Spo K w (wr.setCells g (k * K.s) (K.enc x)) (.slice (some ⟨g, 0, none⟩) n c) n := by
  obtain ⟨L, hL, ho⟩ := h.own
  exact ⟨h.gr.trans (grown_cells _ _ _ _), L.set k x, by rw [List.length_set, hL], own_set hK ho hL hk x⟩
theorem Spo.there {α : Type} {K : Kd α} (hK : KdOK K) {w wr : World} {g c n k : Nat} (h : Spo K w wr (.slice (some ⟨g, 0, none⟩) n c) n) (hk : k < n) : wr.there g (k * K.s) K.s := by
  obtain ⟨L, hL, ho⟩ := h.own
  exact own_there hK ho hk
def spC : Cl := ⟨⟨#[115, 112, 111, 105, 108, 116]⟩, ⟨#[]⟩, 0, 0, -1⟩
def spA : Al := ⟨⟨#[115, 112, 111, 105, 108, 116]⟩, ⟨#[]⟩, 0, -1⟩
/-- the pair at j made anew, whatever was done in between -/
theorem PlayIs.putG {w0 w wf : World} {y : Nat} {T : Nat → Option Tw} {U : Nat → Prop} (h : PlayIs w0 w y T U) {j : Nat} (hj : j < 3) (x : Option Tw) (hs : Sep w wf (fun q => q = y) (fun q => q = y)) (hc : ∀ i, i ≠ j → i ≠ 3 + j → wf.cell? ⟨y, i, none⟩ = w.cell? ⟨y, i, none⟩) (hf : ∀ i, wf.frozen? ⟨y, i, none⟩ = w.frozen? ⟨y, i, none⟩) (hpj : wf.cell? ⟨y, j, none⟩ = some (oP x)) (hdj : wf.cell? ⟨y, 3 + j, none⟩ = some (oD x)) (ho : ∀ t, x = some t → TwOK wf t ∧ ∀ q, t.fp q → w.heap.size ≤ q) : PlayIs w0 wf y (updT T j x) U := by
  have hq : ∀ q, q < w.heap.size → q ≠ y → wf.heap[q]? = w.heap[q]? := fun q h1 h2 => hs.block q h1 h2
  have hz := hs.size
  refine ⟨h.bl.trans (hs.below (fun q e => by rw [e]; exact h.yl) h.bl.size), h.z0, h.st, h.yl, h.ul, fun i hi t ht q hq' => ?_, fun i hi => ?_, fun i hi => ?_, h.kb.on hz (fun i hi => hc i (by omega) (by omega)) hf (hq 1 (by have := h.z0; have := h.bl.size; omega) (by have := h.yl; have := h.z0; omega)) (fun q hU => hq q (h.kb.ul q hU).2.2 (h.kb.ul q hU).1), fun i hi t ht => ?_, fun i hi t ht hq' => ?_, fun i hi t ht q hq' hU => ?_, fun a b ha hb hab t t' ht ht' q h1 h2 => ?_⟩
  · by_cases e : i = j
    · subst e; rw [updT_same] at ht; exact Nat.le_trans h.bl.size ((ho t ht).2 q hq')
    · rw [updT_other _ _ e] at ht; exact h.tl i hi t ht q hq'
  · by_cases e : i = j
    · subst e; rw [updT_same]; exact hpj
    · rw [updT_other _ _ e, hc i e (by omega)]; exact h.p i hi
  · by_cases e : i = j
    · subst e; rw [updT_same]; exact hdj
    · rw [updT_other _ _ e, hc (3 + i) (by omega) (by omega)]; exact h.d i hi
  · by_cases e : i = j
    · subst e
      rw [updT_same] at ht
      exact (ho t ht).1
    · rw [updT_other _ _ e] at ht
      exact (h.tw i hi t ht).sep hs (fun q hq' e => h.ay i hi t ht (by rw [← e]; exact hq'))
  · by_cases e : i = j
    · subst e; rw [updT_same] at ht; exact (h.und ((ho t ht).2 y hq')).1 rfl
    · rw [updT_other _ _ e] at ht; exact h.ay i hi t ht hq'
  · by_cases e : i = j
    · subst e; rw [updT_same] at ht; exact (h.und ((ho t ht).2 q hq')).2.1 hU
    · rw [updT_other _ _ e] at ht; exact h.au i hi t ht q hq' hU
  · by_cases e : a = j
    · subst e
      rw [updT_same] at ht
      rw [updT_other _ _ (fun e => hab e.symm)] at ht'
      exact (h.und ((ho t ht).2 q h1)).2.2 b hb t' ht' h2
    · rw [updT_other _ _ e] at ht
      by_cases e' : b = j
      · subst e'
        rw [updT_same] at ht'
        exact (h.und ((ho t' ht').2 q h2)).2.2 a ha t ht h1
      · rw [updT_other _ _ e'] at ht'
        exact h.ap a b ha hb hab t t' ht ht' q h1 h2
/-- a world in which the first of the two places is written -/
theorem Sep.one {w w1 : World} {y i : Nat} {v : Value} (hb : Below w.heap.size w w1) : Sep w (w1.setCell ⟨y, i, none⟩ v) (fun q => q = y) (fun q => q = y) := ⟨hb.os, hb.tape, hb.output, by simpa using hb.size, fun q hq hn => (heap_set hn).trans (hb.block q hq), fun q h => .inl h⟩
end Go.Proofs.YtfclknlpdcanpaaGreatDoor.Kg
