import Derived.Test.YtdeibifjiefapaaGreatDoorW41
/- plays (5): plain: two sides and the book. -/
namespace Go.Proofs.YtdeibifjiefapaaGreatDoor.Kg
open Go Go.RowKit Go.Shelf Go.ChangeShapes Go.WideShapes Go.ChangeAt Go.Maps
set_option linter.unusedVariables false
set_option linter.unusedSimpArgs false
set_option maxRecDepth 100000
set_option maxHeartbeats 8000000
theorem book_cells : ∀ j, 1 ≤ j → j ≤ 20 → (#[.int .i64 0, .slice none 0 0, .slice none 0 0, .slice none 0 0, .slice none 0 0, .slice none 0 0, .slice none 0 0, .slice none 0 0, .slice none 0 0, .slice none 0 0, .slice none 0 0, .slice none 0 0, .slice none 0 0, .slice none 0 0, .slice none 0 0, .slice none 0 0, .slice none 0 0, .slice none 0 0, .slice none 0 0, .slice none 0 0, .slice none 0 0] : Array Value)[j]? = some (.slice none 0 0) := fun j h1 h2 => by
    match j, h1, h2 with
    | 1, _, _ => rfl
    | 2, _, _ => rfl
    | 3, _, _ => rfl
    | 4, _, _ => rfl
    | 5, _, _ => rfl
    | 6, _, _ => rfl
    | 7, _, _ => rfl
    | 8, _, _ => rfl
    | 9, _, _ => rfl
    | 10, _, _ => rfl
    | 11, _, _ => rfl
    | 12, _, _ => rfl
    | 13, _, _ => rfl
    | 14, _, _ => rfl
    | 15, _, _ => rfl
    | 16, _, _ => rfl
    | 17, _, _ => rfl
    | 18, _, _ => rfl
    | 19, _, _ => rfl
    | 20, _, _ => rfl
    | 0, h, _ => exact absurd h (by decide)
    | n + 21, _, h => exact absurd h (by omega)

theorem kb_new {w : World} {y : Nat} (c0 : w.cell? ⟨y, 0, none⟩ = some (.int .i64 0)) (ci : ∀ j, 1 ≤ j → j ≤ 20 → w.cell? ⟨y, j, none⟩ = some (.slice none 0 0)) (fz : ∀ i, w.frozen? ⟨y, i, none⟩ = false) (hP : Pw w) (hy : y ≠ 1) : KB w y (fun _ => False) := by
  have hn : ∀ {q : Nat}, (Value.slice none 0 0).ownBlock ≠ some q := fun e => by cases e
  refine ⟨0, 0, .slice none 0 0, fun _ => ⟨.slice none 0 0, 0, .slice none 0 0, .slice none 0 0, 0, 0, []⟩, 0, .slice none 0 0, fun _ => ⟨.slice none 0 0, 0, .slice none 0 0, .slice none 0 0, 0, 0, []⟩, ⟨c0, ⟨ci 4 (by omega) (by omega), fz, World.ownsRow_nil _ _ _ _, hn, fun i hi => by omega, fun i hi => by omega, fun i j hi => by omega, hP, hy, hn, fun i hi => by omega⟩, ⟨ci 8 (by omega) (by omega), fz, World.ownsRow_nil _ _ _ _, hn, fun i hi => by omega, fun i hi => by omega, fun i j hi => by omega, hP, hy, hn, fun i hi => by omega⟩, by omega, by omega, by omega, fun j h1 h2 _ _ => ci j h1 h2, ?_, ?_, ?_, fun q h => h.elim⟩, fun i hi => by omega, fun i hi => by omega⟩
  · rintro q (h | ⟨i, hi, _⟩)
    · cases h
    · omega
  · rintro q (h | ⟨i, hi, _⟩)
    · cases h
    · omega
  · rintro q (h | ⟨i, hi, _⟩)
    · cases h
    · omega
/-- where a play stands: two sides in boxes, the book -/
structure St (w0 w : World) (bk ba bb c1 r1 c2 r2 : Nat) : Prop where
  bel : Below w0.heap.size w0 w
  pw : 1 < w0.heap.size
  ex : ∃ (U G1 G2 : Nat → Prop) (L1 L2 : List Ac), KB w bk U ∧ Sd w c1 r1 G1 L1 ∧ Sd w c2 r2 G2 L2 ∧ (∀ q, G1 q → G2 q → False) ∧ (∀ q, U q → w0.heap.size ≤ q ∧ q ≠ ba ∧ q ≠ bb) ∧ (∀ q, G1 q ∨ G2 q → w0.heap.size ≤ q ∧ q ≠ bk ∧ q ≠ ba ∧ q ≠ bb ∧ ¬ U q)
  xa : w.heap[ba]? = some (.cells #[.pointer (some ⟨c1, 0, none⟩), .pointer (some ⟨r1, 0, none⟩)] 33 (0, 0))
  xb : w.heap[bb]? = some (.cells #[.pointer (some ⟨c2, 0, none⟩), .pointer (some ⟨r2, 0, none⟩)] 33 (0, 0))
  la : w0.heap.size ≤ ba ∧ w0.heap.size ≤ bb ∧ w0.heap.size ≤ bk
  ne : ba ≠ bk ∧ bb ≠ bk
section
variable {w0 w w' : World} {bk ba bb c1 r1 c2 r2 : Nat}
theorem St.below (h : St w0 w bk ba bb c1 r1 c2 r2) (hb : Below w.heap.size w w') : St w0 w' bk ba bb c1 r1 c2 r2 := by
  obtain ⟨U, G1, G2, L1, L2, hk, h1, h2, hd, hU, hG⟩ := h.ex
  exact ⟨h.bel.trans (hb.mono h.bel.size), h.pw, ⟨U, G1, G2, L1, L2, hk.below hb, h1.below hb, h2.below hb, hd, hU, hG⟩, (hb.block ba (Array.getElem?_eq_some_iff.1 h.xa).1).trans h.xa, (hb.block bb (Array.getElem?_eq_some_iff.1 h.xb).1).trans h.xb, h.la, h.ne⟩
/-- the other way round -/
theorem St.swap (h : St w0 w bk ba bb c1 r1 c2 r2) : St w0 w bk bb ba c2 r2 c1 r1 := by
  obtain ⟨U, G1, G2, L1, L2, hk, h1, h2, hd, hU, hG⟩ := h.ex
  exact ⟨h.bel, h.pw, ⟨U, G2, G1, L2, L1, hk, h2, h1, fun q a b => hd q b a, fun q hq => ⟨(hU q hq).1, (hU q hq).2.2, (hU q hq).2.1⟩, fun q hq => by
    have := hG q hq.symm
    exact ⟨this.1, this.2.1, this.2.2.2.1, this.2.2.1, this.2.2.2.2⟩⟩, h.xb, h.xa, ⟨h.la.2.1, h.la.1, h.la.2.2⟩, h.ne.2, h.ne.1⟩
theorem below_sep {w0 : World} {S S' : Nat → Prop} (h : Below w0.heap.size w0 w) (hs : Sep w w' S S') (hS : ∀ q, S q → w0.heap.size ≤ q) : Below w0.heap.size w0 w' :=
  h.trans (hs.below hS h.size)
/-- a call on the first side -/
theorem St.does1 {x : World} (hx : St w0 x bk ba bb c1 r1 c2 r2) (hY : Below x.heap.size x w) (v : Av) (hv : v.ok) : Calls Tryz.prog 9 #[sdV c1 r1, v.val] w fun e w' => e = .returned (.bool true) ∧ St w0 w' bk ba bb c1 r1 c2 r2 ∧ ∀ q, x.heap.size ≤ q → q < w.heap.size → w'.heap[q]? = w.heap[q]? := by
  obtain ⟨U, G1, G2, L1, L2, hkx, h1x, h2x, hd, hU, hG⟩ := hx.ex
  have h := hx.below hY
  have hk := hkx.below hY
  have h1 := h1x.below hY
  have h2 := h2x.below hY
  refine (does_any h1 v hv).mono ?_
  rintro e w' ⟨he, S', hs, hnew, hf⟩
  have hG1 : ∀ q, G1 q → w0.heap.size ≤ q ∧ q ≠ bk ∧ q ≠ ba ∧ q ≠ bb ∧ ¬ U q := fun q hq => hG q (.inl hq)
  have hba := (Array.getElem?_eq_some_iff.1 h.xa).1
  have hbb := (Array.getElem?_eq_some_iff.1 h.xb).1
  have bbk : w'.heap[bk]? = w.heap[bk]? := hf.block bk hk.lt (fun hs => (hG1 bk hs).2.1 rfl)
  have hkb : KB w' bk U := hk.on hf.size (fun j _ => World.cell?_of_block bbk) (fun j => World.frozen?_of_block bbk) (hf.block 1 (Nat.lt_of_lt_of_le h.pw h.bel.size) (fun hs => by have := (hG1 1 hs).1; have := h.pw; omega)) (fun q hq => hf.block q (hk.ul q hq).2.2 (fun hs => (hG1 q hs).2.2.2.2 hq))
  have hs2 : Sd w' c2 r2 G2 L2 := h2.keep hf.size (fun k hk2 => hf.block k (h2.lt k hk2) (fun hs => hd k hs hk2))
  refine ⟨he, ⟨⟨hf.os.trans h.bel.os, hf.tape.trans h.bel.tape, hf.output.trans h.bel.output, Nat.le_trans h.bel.size hf.size, fun q hq => (hf.block q (Nat.lt_of_lt_of_le hq h.bel.size) (fun hs => by have := (hG1 q hs).1; omega)).trans (h.bel.block q hq)⟩, h.pw, ⟨U, S', G2, _, L2, hkb, hs, hs2, fun q a b => ?_, hU, fun q hq => ?_⟩, (hf.block ba hba (fun hs => (hG1 ba hs).2.2.1 rfl)).trans h.xa, (hf.block bb hbb (fun hs => (hG1 bb hs).2.2.2.1 rfl)).trans h.xb, h.la, h.ne⟩, fun q hq1 hq2 => hf.block q hq2 (fun hs => by have := h1x.lt q hs; omega)⟩
  · rcases hnew q a with z | z
    · exact hd q z b
    · have := h2.lt q b; omega
  · rcases hq with hq | hq
    · rcases hnew q hq with z | z
      · exact hG1 q z
      · have := h.bel.size
        have := hk.lt
        exact ⟨by omega, by omega, by omega, by omega, fun hu => by have := (hk.ul q hu).2.2; omega⟩
    · exact hG q (.inr hq)
/-- the first side is asked -/
theorem St.asks1 (h : St w0 w bk ba bb c1 r1 c2 r2) (s : ByteArray) (hs : s.size < 4611686018427387904) : Calls Tryz.prog 10 #[sdV c1 r1, .string s, .pointer (some ⟨bk, 0, none⟩)] w fun e w' => e = .returned (.bool true) ∧ St w0 w' bk ba bb c1 r1 c2 r2 := by
  obtain ⟨U, G1, G2, L1, L2, hk, h1, h2, hd, hU, hG⟩ := h.ex
  refine (asks_any h1 hk (fun q hq => ⟨(hG q (.inl hq)).2.1, (hG q (.inl hq)).2.2.2.2⟩) s hs).mono ?_
  rintro e w' ⟨he, U', hk', hp⟩
  have hba := (Array.getElem?_eq_some_iff.1 h.xa).1
  have hbb := (Array.getElem?_eq_some_iff.1 h.xb).1
  have hz := h.bel.size
  have hU' : ∀ q, U' q → U q ∨ w.heap.size ≤ q := fun q hq => by
    rcases hp.new q (.inr hq) with (e | z) | z
    · exact absurd e (hk'.ul q hq).1
    · exact .inl z
    · exact .inr z
  have hkeep : ∀ q, q < w.heap.size → q ≠ bk → ¬ U q → w'.heap[q]? = w.heap[q]? := fun q hq n1 n2 => hp.block q hq (fun e => e.elim n1 n2)
  refine ⟨he, below_sep h.bel hp (fun q hq => by
      rcases hq with e | z
      · rw [e]; exact h.la.2.2
      · exact (hU q z).1), h.pw, ⟨U', G1, G2, L1, L2, hk', h1.keep hp.size (fun k hk2 => hkeep k (h1.lt k hk2) (hG k (.inl hk2)).2.1 (hG k (.inl hk2)).2.2.2.2), h2.keep hp.size (fun k hk2 => hkeep k (h2.lt k hk2) (hG k (.inr hk2)).2.1 (hG k (.inr hk2)).2.2.2.2), hd, fun q hq => ?_, fun q hq => ?_⟩, (hkeep ba hba h.ne.1 (fun hu => (hU ba hu).2.1 rfl)).trans h.xa, (hkeep bb hbb h.ne.2 (fun hu => (hU bb hu).2.2 rfl)).trans h.xb, h.la, h.ne⟩
  · rcases hU' q hq with z | z
    · exact hU q z
    · exact ⟨by omega, by omega, by omega⟩
  · have h5 := hG q hq
    refine ⟨h5.1, h5.2.1, h5.2.2.1, h5.2.2.2.1, fun hu => ?_⟩
    rcases hU' q hu with z | z
    · exact h5.2.2.2.2 z
    · have hlt : q < w.heap.size := by
        rcases hq with hq | hq
        · exact h1.lt q hq
        · exact h2.lt q hq
      omega
theorem St.does2 {x : World} (hx : St w0 x bk ba bb c1 r1 c2 r2) (hY : Below x.heap.size x w) (v : Av) (hv : v.ok) : Calls Tryz.prog 9 #[sdV c2 r2, v.val] w fun e w' => e = .returned (.bool true) ∧ St w0 w' bk ba bb c1 r1 c2 r2 ∧ ∀ q, x.heap.size ≤ q → q < w.heap.size → w'.heap[q]? = w.heap[q]? :=
  (hx.swap.does1 hY v hv).mono (fun e w' h => ⟨h.1, h.2.1.swap, h.2.2⟩)
theorem St.asks2 (h : St w0 w bk ba bb c1 r1 c2 r2) (s : ByteArray) (hs : s.size < 4611686018427387904) : Calls Tryz.prog 10 #[sdV c2 r2, .string s, .pointer (some ⟨bk, 0, none⟩)] w fun e w' => e = .returned (.bool true) ∧ St w0 w' bk ba bb c1 r1 c2 r2 :=
  (h.swap.asks1 s hs).mono (fun e w' h => ⟨h.1, h.2.swap⟩)
theorem St.settle (h : St w0 w bk ba bb c1 r1 c2 r2) : Calls Tryz.prog 11 #[.pointer (some ⟨bk, 0, none⟩)] w fun e w' => e = .returned (.bool true) ∧ Below w0.heap.size w0 w' := by
  obtain ⟨U, G1, G2, L1, L2, hk, h1, h2, hd, hU, hG⟩ := h.ex
  refine hk.settle.mono ?_
  rintro e w' ⟨he, U', _, hs⟩
  exact ⟨he, below_sep h.bel hs (fun q hq => (hU q hq).1)⟩
end
/-- a list of calls in memory -/
def ActsAt (W : World) (p : Option Addr) (L : List Av) : Prop := ∀ k (hk : k < L.length), ∃ b off, p = some ⟨b, off, none⟩ ∧ b < W.heap.size ∧ W.rangeAt b (off + k * 6) L[k].vals
/-- the first world of a play -/
theorem st_start {W1 W3 W4 w5 W6 W7 : World} {bk ba bb c1 r1 c2 r2 : Nat} {S2 : Nat → Prop} {M : List Ac} (hP : Pw W1) (h3 : Sd W3 c1 r1 (fun k => k = W1.heap.size ∨ k = W1.heap.size + 1) []) (b3 : Below W1.heap.size W1 W3) (e3 : W3.heap.size = W1.heap.size + 2)
    (b4 : Below W3.heap.size W3 W4) (e4 : W4.heap.size = W3.heap.size + 1) (hba : ba = W3.heap.size) (x4 : W4.heap[ba]? = some (.cells #[.pointer (some ⟨c1, 0, none⟩), .pointer (some ⟨r1, 0, none⟩)] 33 (0, 0)))
    (h5 : Sd w5 c2 r2 S2 M) (n5 : ∀ k, S2 k → W4.heap.size ≤ k) (b5 : Below W4.heap.size W4 w5)
    (b6 : Below w5.heap.size w5 W6) (e6 : W6.heap.size = w5.heap.size + 1) (hbb : bb = w5.heap.size) (x6 : W6.heap[bb]? = some (.cells #[.pointer (some ⟨c2, 0, none⟩), .pointer (some ⟨r2, 0, none⟩)] 33 (0, 0)))
    (hbk : bk = W6.heap.size) (hW7 : W7 = W6.alloc (.cells #[.int .i64 0, .slice none 0 0, .slice none 0 0, .slice none 0 0, .slice none 0 0, .slice none 0 0, .slice none 0 0, .slice none 0 0, .slice none 0 0, .slice none 0 0, .slice none 0 0, .slice none 0 0, .slice none 0 0, .slice none 0 0, .slice none 0 0, .slice none 0 0, .slice none 0 0, .slice none 0 0, .slice none 0 0, .slice none 0 0, .slice none 0 0] 58)) : St W1 W7 bk ba bb c1 r1 c2 r2 := by
  have b7 : Below W6.heap.size W6 W7 := by rw [hW7]; exact bal (Below.refl _ _) _
  have x7 : W7.heap[bk]? = some (.cells #[.int .i64 0, .slice none 0 0, .slice none 0 0, .slice none 0 0, .slice none 0 0, .slice none 0 0, .slice none 0 0, .slice none 0 0, .slice none 0 0, .slice none 0 0, .slice none 0 0, .slice none 0 0, .slice none 0 0, .slice none 0 0, .slice none 0 0, .slice none 0 0, .slice none 0 0, .slice none 0 0, .slice none 0 0, .slice none 0 0, .slice none 0 0] 58 (0, 0)) := by rw [hW7, hbk]; exact heap_new _ _
  have h1 := hP.lt
  have s4 := b4.size; have s5 := b5.size
  have b14 : Below W1.heap.size W1 W4 := b3.trans (b4.mono b3.size)
  have b15 : Below W1.heap.size W1 w5 := b14.trans (b5.mono b14.size)
  have b16 : Below W1.heap.size W1 W6 := b15.trans (b6.mono b15.size)
  have b17 : Below W1.heap.size W1 W7 := b16.trans (b7.mono b16.size)
  have b57 : Below w5.heap.size w5 W7 := b6.trans (b7.mono b6.size)
  have b37 : Below W3.heap.size W3 W7 := (b4.trans (b5.mono b4.size)).trans (b57.mono (by omega))
  have l5 := h5.lt
  refine ⟨b17, h1, ⟨fun _ => False, _, S2, [], M, kb_new (by rw [cell_at x7]; rfl) (fun j a b => by rw [cell_at x7]; exact book_cells j a b) (fun i => froz_at x7) (hP.below b17) (by omega), h3.below b37, h5.below b57, fun q a b => ?_, fun q h => h.elim, fun q hq => ?_⟩, ?_, ?_, ⟨by omega, by omega, by omega⟩, by omega, by omega⟩
  · have := n5 q b; rcases a with a | a <;> omega
  · rcases hq with (a | a) | a
    · exact ⟨by omega, by omega, by omega, by omega, fun h => h⟩
    · exact ⟨by omega, by omega, by omega, by omega, fun h => h⟩
    · have := n5 q a; have := l5 q a
      exact ⟨by omega, by omega, by omega, by omega, fun h => h⟩
  · exact ((b57.block ba (by omega)).trans (b5.block ba (by omega))).trans x4
  · exact (b7.block bb (by omega)).trans x6
end Go.Proofs.YtdeibifjiefapaaGreatDoor.Kg
