/- The keeper's book: its pages, whatever their number. No program in it. -/
import Derived.Test.YthiiommpeaejaaaGreatDoorPtxE
import Derived.Deep.Onto
namespace Go.Proofs.YthiiommpeaejaaaGreatDoor
open Go Go.ChangeShapes Go.WideShapes Go.ChangeAt Go.RowKit
set_option linter.unusedVariables false
/-- a page: its list L of n bytes, the longer one G, the copy W, its number, how far it is (0 kept, 1 filled, 2 grown), what it showed -/
structure Pg where
  L : Value
  n : Nat
  G : Value
  W : Value
  id : Nat
  s : Nat
  f : Nat → ByteArray
def Pg.cells (p : Pg) : List Value := [p.L, p.G, p.W, .int .i64 (p.id : Int), .bool (decide (0 < p.s))]
def Pg.has (p : Pg) (q : Nat) : Prop := p.L.ownBlock = some q ∨ p.G.ownBlock = some q ∨ p.W.ownBlock = some q
/-- a list that shows so many bytes, from its block's beginning on -/
def LShows (w : World) (L : Value) (n : Nat) (f : Nat → ByteArray) : Prop := (n = 0 ∧ L = .slice none 0 0) ∨ ∃ gb cap, L = .slice (some ⟨gb, 0, none⟩) n cap ∧ gb < w.heap.size ∧ ∀ k, k < n → w.cell? ⟨gb, k, none⟩ = some (.string (f k))
theorem LShows.of_own {w : World} {B n : Nat} {L : Value} {f : Nat → ByteArray} (h : w.ownsRow B 9 1 L n (scells f n)) : LShows w L n f := by
  rcases h.2 with ⟨h1, h2⟩ | ⟨g, cap, cur, rfl, hb, _⟩
  · exact .inl ⟨h2, h1⟩
  · refine .inr ⟨g, cap, rfl, (h.lt g rfl).2, fun k hk => ?_⟩
    rw [h.cellAt k (by omega)]
    exact scells_get f n k hk
theorem LShows.far {w w' : World} {L : Value} {n : Nat} {f : Nat → ByteArray} (h : LShows w L n f) (hz : w.heap.size ≤ w'.heap.size) (hq : ∀ q, L.ownBlock = some q → w'.heap[q]? = w.heap[q]?) : LShows w' L n f := by
  rcases h with h | ⟨gb, cap, rfl, h1, h2⟩
  · exact .inl h
  · exact .inr ⟨gb, cap, rfl, by omega, fun k hk => (World.cell?_of_block (hq gb rfl)).trans (h2 k hk)⟩
/-- what a page says of the world -/
structure Pg.OK (p : Pg) (w : World) : Prop where
  le : p.n ≤ 4096
  idl : p.id < 1000
  s0 : p.s = 0 → w.ownsRow 0 9 1 p.L p.n (scells p.f p.n) ∧ p.G = .slice none 0 0 ∧ w.ownsRow 0 9 1 p.W p.n (scells p.f p.n) ∧ (∀ q, p.L.ownBlock = some q → p.W.ownBlock ≠ some q) ∧ ∃ gw cw, p.W = .slice (some ⟨gw, 0, none⟩) p.n cw
  s1 : p.s = 1 → w.ownsRow 0 9 1 p.L p.n (scells (mkS p.id) p.n) ∧ p.G = .slice none 0 0
  s2 : p.s = 2 → LShows w p.L p.n (mkS p.id) ∧ w.ownsRow 0 9 1 p.G (p.n + 64) (scells (cat (mkS p.id) p.n (mkS (p.id + 100000))) (p.n + 64))
  s3 : p.s ≤ 2
theorem Pg.OK.far {p : Pg} {w w' : World} (h : p.OK w) (hz : w.heap.size ≤ w'.heap.size) (hq : ∀ q, p.has q → w'.heap[q]? = w.heap[q]?) : p.OK w' :=
  ⟨h.le, h.idl, fun e => ⟨row_far (h.s0 e).1 (fun q hq' => hq q (.inl hq')), (h.s0 e).2.1, row_far (h.s0 e).2.2.1 (fun q hq' => hq q (.inr (.inr hq'))), (h.s0 e).2.2.2⟩,
    fun e => ⟨row_far (h.s1 e).1 (fun q hq' => hq q (.inl hq')), (h.s1 e).2⟩,
    fun e => ⟨(h.s2 e).1.far hz (fun q hq' => hq q (.inl hq')), row_far (h.s2 e).2 (fun q hq' => hq q (.inr (.inl hq')))⟩, h.s3⟩
/-- the pages' cells, one behind the other -/
def pages (p : Nat → Pg) : Nat → List Value
  | 0 => []
  | m + 1 => pages p m ++ (p m).cells
theorem pages_len (p : Nat → Pg) : ∀ m, (pages p m).length = m * 5
  | 0 => rfl
  | m + 1 => by simp [pages, pages_len p m, Pg.cells]; omega
theorem pages_get (p : Nat → Pg) (c : Nat) (hc : c < 5) : ∀ m i, i < m → (pages p m)[i * 5 + c]? = (p i).cells[c]?
  | 0, i, h => by omega
  | m + 1, i, h => by
    by_cases e : i = m
    · subst e
      rw [pages, List.getElem?_append_right (by rw [pages_len]; omega), pages_len]
      congr 1
      omega
    · rw [pages, List.getElem?_append_left (by rw [pages_len]; omega)]
      exact pages_get p c hc m i (by omega)
theorem pages_ext {p p' : Nat → Pg} : ∀ m, (∀ i, i < m → (p i).cells = (p' i).cells) → pages p m = pages p' m
  | 0, _ => rfl
  | m + 1, h => by rw [pages, pages, pages_ext m (fun i hi => h i (by omega)), h m (by omega)]
/-- one page changed -/
def upd (p : Nat → Pg) (i : Nat) (P : Pg) : Nat → Pg := fun j => if j = i then P else p j
theorem upd_same (p : Nat → Pg) (i : Nat) (P : Pg) : upd p i P i = P := by simp [upd]
theorem upd_other (p : Nat → Pg) (i j : Nat) (P : Pg) (h : j ≠ i) : upd p i P j = p j := by simp [upd, h]
theorem pages_set (p : Nat → Pg) (i : Nat) (P : Pg) (c : Nat) (v : Value) (hc : c < 5) (hP : P.cells = (p i).cells.set c v) : ∀ m, i < m → (pages p m).set (i * 5 + c) v = pages (upd p i P) m
  | 0, h => by omega
  | m + 1, h => by
    by_cases e : i = m
    · subst e
      rw [pages, pages, upd_same, hP, List.set_append_right _ _ (by rw [pages_len]; omega), pages_len, pages_ext i (p' := upd p i P) (fun j hj => by rw [upd_other _ _ _ _ (by omega)])]
      congr 2
      omega
    · rw [pages, pages, upd_other _ _ _ _ (by omega), List.set_append_left _ _ (by rw [pages_len]; omega), pages_set p i P c v hc hP m (by omega)]
/-- a book: its next number, its row of pages, nothing of the other kinds -/
structure BookAt (w : World) (bk m k : Nat) (R : Value) (p : Nat → Pg) : Prop where
  c0 : w.cell? ⟨bk, 0, none⟩ = some (.int .i64 (k : Int))
  c1 : w.cell? ⟨bk, 4, none⟩ = some R
  bare : ∀ j, 1 ≤ j → j ≤ 20 → j ≠ 4 → w.cell? ⟨bk, j, none⟩ = some (.slice none 0 0)
  fz : ∀ i, w.frozen? ⟨bk, i, none⟩ = false
  row : w.ownsRow 0 68 5 R m (pages p m)
  rb : R.ownBlock ≠ some bk
  ok : ∀ i, i < m → (p i).OK w
  far : ∀ i, i < m → ∀ q, (p i).has q → q ≠ bk ∧ R.ownBlock ≠ some q ∧ q < w.heap.size
  apart : ∀ i j, i < m → j < m → i ≠ j → ∀ q, (p i).has q → ¬ (p j).has q
  tab : Pw w
  b3 : bk ≠ 3
  r3 : R.ownBlock ≠ some 3
  p3 : ∀ i, i < m → ¬ (p i).has 3
theorem BookAt.lt {w : World} {bk m k : Nat} {R : Value} {p : Nat → Pg} (h : BookAt w bk m k R p) : bk < w.heap.size := World.block_lt_of_cell? w ⟨bk, 4, none⟩ h.c1
/-- the book stands where its blocks stand -/
theorem BookAt.stay {w w' : World} {bk m k : Nat} {R : Value} {p : Nat → Pg} (h : BookAt w bk m k R p) (hz : w.heap.size ≤ w'.heap.size) (hb : w'.heap[bk]? = w.heap[bk]?) (hr : ∀ q, R.ownBlock = some q → w'.heap[q]? = w.heap[q]?) (hp : ∀ i, i < m → ∀ q, (p i).has q → w'.heap[q]? = w.heap[q]?) (ht : w'.heap[3]? = w.heap[3]?) : BookAt w' bk m k R p :=
  ⟨(World.cell?_of_block hb).trans h.c0, (World.cell?_of_block hb).trans h.c1, fun j h1 h2 h4 => (World.cell?_of_block hb).trans (h.bare j h1 h2 h4), fun i => (World.frozen?_of_block hb).trans (h.fz i), row_far h.row hr, h.rb,
    fun i hi => (h.ok i hi).far hz (hp i hi), fun i hi q hq => ⟨(h.far i hi q hq).1, (h.far i hi q hq).2.1, by have := (h.far i hi q hq).2.2; omega⟩, h.apart, h.tab.keep ht, h.b3, h.r3, h.p3⟩
theorem BookAt.below {w w' : World} {bk m k : Nat} {R : Value} {p : Nat → Pg} (h : BookAt w bk m k R p) (hb : Below w.heap.size w w') : BookAt w' bk m k R p :=
  h.stay hb.size (hb.block _ h.lt) (fun q hq => hb.block q (h.row.lt q hq).2) (fun i hi q hq => hb.block q (h.far i hi q hq).2.2) (hb.block 3 h.tab.lt)
/-- one page changed, in a new world -/
theorem BookAt.put {w w' : World} {bk m k i : Nat} {R : Value} {p : Nat → Pg} {P : Pg} (h : BookAt w bk m k R p) (hi : i < m) (hrow : w'.ownsRow 0 68 5 R m (pages (upd p i P) m)) (hok : P.OK w') (hz : w.heap.size ≤ w'.heap.size)
    (hfar : ∀ q, q < w.heap.size → R.ownBlock ≠ some q → ¬ (p i).has q → w'.heap[q]? = w.heap[q]?) (hhas : ∀ q, P.has q → (p i).has q ∨ w.heap.size ≤ q) (hlt : ∀ q, P.has q → q < w'.heap.size) : BookAt w' bk m k R (upd p i P) := by
  have hbk := h.lt
  have hb : w'.heap[bk]? = w.heap[bk]? := hfar bk hbk h.rb (fun hq => (h.far i hi bk hq).1 rfl)
  have hRlt : ∀ q, R.ownBlock = some q → q < w.heap.size := fun q hq => (h.row.lt q hq).2
  refine ⟨(World.cell?_of_block hb).trans h.c0, (World.cell?_of_block hb).trans h.c1, fun j h1 h2 h4 => (World.cell?_of_block hb).trans (h.bare j h1 h2 h4), fun i => (World.frozen?_of_block hb).trans (h.fz i), hrow, h.rb, fun j hj => ?_, fun j hj q hq => ?_, fun a b ha hb' hab q hq hq' => ?_, h.tab.keep (hfar 3 h.tab.lt h.r3 (h.p3 i hi)), h.b3, h.r3, fun j hj hq => ?_⟩
  · by_cases e : j = i
    · subst e; rw [upd_same]; exact hok
    · rw [upd_other _ _ _ _ e]
      exact (h.ok j hj).far hz (fun q hq => hfar q (h.far j hj q hq).2.2 (h.far j hj q hq).2.1 (h.apart j i hj hi e q hq))
  · by_cases e : j = i
    · subst e
      rw [upd_same] at hq
      rcases hhas q hq with h' | h'
      · exact ⟨(h.far j hj q h').1, (h.far j hj q h').2.1, hlt q hq⟩
      · exact ⟨by omega, fun e => by have := hRlt q e; omega, hlt q hq⟩
    · rw [upd_other _ _ _ _ e] at hq
      exact ⟨(h.far j hj q hq).1, (h.far j hj q hq).2.1, by have := (h.far j hj q hq).2.2; omega⟩
  · by_cases e : a = i
    · subst e
      rw [upd_same] at hq
      rw [upd_other _ _ _ _ (fun e => hab e.symm)] at hq'
      rcases hhas q hq with h' | h'
      · exact h.apart a b ha hb' hab q h' hq'
      · have := (h.far b hb' q hq').2.2; omega
    · rw [upd_other _ _ _ _ e] at hq
      by_cases e' : b = i
      · subst e'
        rw [upd_same] at hq'
        rcases hhas q hq' with h' | h'
        · exact h.apart a b ha hb' hab q hq h'
        · have := (h.far a ha q hq).2.2; omega
      · rw [upd_other _ _ _ _ e'] at hq'
        exact h.apart a b ha hb' hab q hq hq'
  · by_cases e : j = i
    · subst e
      rw [upd_same] at hq
      rcases hhas 3 hq with h' | h'
      · exact h.p3 j hj h'
      · have := h.tab.lt; omega
    · rw [upd_other _ _ _ _ e] at hq
      exact h.p3 j hj hq
/-- a page more, in a new world -/
theorem BookAt.push {w w' : World} {bk m k k' : Nat} {R R' : Value} {p : Nat → Pg} {P : Pg} (h : BookAt w bk m k R p) (c0 : w'.cell? ⟨bk, 0, none⟩ = some (.int .i64 (k' : Int))) (c1 : w'.cell? ⟨bk, 4, none⟩ = some R') (ci : ∀ i, i ≠ 0 → i ≠ 4 → w'.cell? ⟨bk, i, none⟩ = w.cell? ⟨bk, i, none⟩) (cf : ∀ i, w'.frozen? ⟨bk, i, none⟩ = w.frozen? ⟨bk, i, none⟩)
    (hrow : w'.ownsRow 0 68 5 R' (m + 1) (pages p m ++ P.cells)) (hR : ∀ q, R'.ownBlock = some q → q ≠ bk ∧ ¬ P.has q ∧ (R.ownBlock = some q ∨ w.heap.size ≤ q)) (hok : P.OK w') (hz : w.heap.size ≤ w'.heap.size)
    (hfar : ∀ i, i < m → ∀ q, (p i).has q → w'.heap[q]? = w.heap[q]?) (hP : ∀ q, P.has q → q ≠ bk ∧ q < w'.heap.size ∧ ∀ i, i < m → ¬ (p i).has q) (ht : w'.heap[3]? = w.heap[3]?) (hP3 : ¬ P.has 3) : BookAt w' bk (m + 1) k' R' (upd p m P) := by
  have hin : ∀ j, j < m + 1 → j ≠ m → j < m := fun j h1 h2 => by omega
  refine ⟨c0, c1, fun j h1 h2 h4 => (ci j (by omega) h4).trans (h.bare j h1 h2 h4), fun i => (cf i).trans (h.fz i), ?_, fun e => (hR bk e).1 rfl, fun j hj => ?_, fun j hj q hq => ?_, fun a b ha hb' hab q hq hq' => ?_, h.tab.keep ht, h.b3, fun e => (hR 3 e).2.2.elim h.r3 (fun h' => by have := h.tab.lt; omega), fun j hj hq => ?_⟩
  · rw [pages, upd_same, pages_ext m (p' := p) (fun j hj => by rw [upd_other _ _ _ _ (by omega)])]
    exact hrow
  · by_cases e : j = m
    · subst e; rw [upd_same]; exact hok
    · rw [upd_other _ _ _ _ e]
      exact (h.ok j (hin j hj e)).far hz (fun q hq => hfar j (hin j hj e) q hq)
  · by_cases e : j = m
    · subst e
      rw [upd_same] at hq
      exact ⟨(hP q hq).1, fun e => (hR q e).2.1 hq, (hP q hq).2.1⟩
    · rw [upd_other _ _ _ _ e] at hq
      have hf := h.far j (hin j hj e) q hq
      exact ⟨hf.1, fun e => by rcases (hR q e).2.2 with h' | h'; exact hf.2.1 h'; omega, by omega⟩
  · by_cases e : a = m
    · subst e
      rw [upd_same] at hq
      rw [upd_other _ _ _ _ (fun e => hab e.symm)] at hq'
      exact (hP q hq).2.2 b (hin b hb' (fun e => hab e.symm)) hq'
    · rw [upd_other _ _ _ _ e] at hq
      by_cases e' : b = m
      · subst e'
        rw [upd_same] at hq'
        exact (hP q hq').2.2 a (hin a ha e) hq
      · rw [upd_other _ _ _ _ e'] at hq'
        exact h.apart a b (hin a ha e) (hin b hb' e') hab q hq hq'
  · by_cases e : j = m
    · subst e
      rw [upd_same] at hq
      exact hP3 hq
    · rw [upd_other _ _ _ _ e] at hq
      exact h.p3 j (hin j hj e) hq
/-- what of the world is not the book's stands -/
structure Rest (w w' : World) (R : Value) (p : Nat → Pg) (m : Nat) : Prop where
  size : w.heap.size ≤ w'.heap.size
  os : w'.os = w.os
  tape : w'.tape = w.tape
  output : w'.output = w.output
  block : ∀ q, q < w.heap.size → R.ownBlock ≠ some q → (∀ i, i < m → ¬ (p i).has q) → w'.heap[q]? = w.heap[q]?
theorem Rest.refl (w : World) (R : Value) (p : Nat → Pg) (m : Nat) : Rest w w R p m := ⟨Nat.le_refl _, rfl, rfl, rfl, fun _ _ _ _ => rfl⟩
theorem Rest.below {w w1 w' : World} {R : Value} {p : Nat → Pg} {m : Nat} (h : Rest w w1 R p m) (hb : Below w1.heap.size w1 w') : Rest w w' R p m :=
  ⟨Nat.le_trans h.size hb.size, hb.os.trans h.os, hb.tape.trans h.tape, hb.output.trans h.output, fun q h1 h2 h3 => (hb.block q (Nat.lt_of_lt_of_le h1 h.size)).trans (h.block q h1 h2 h3)⟩
theorem Rest.trans {w w1 w' : World} {R : Value} {p p' : Nat → Pg} {m : Nat} (h : Rest w w1 R p m) (h' : Rest w1 w' R p' m) (hhas : ∀ i, i < m → ∀ q, (p' i).has q → (p i).has q ∨ w.heap.size ≤ q) : Rest w w' R p m :=
  ⟨Nat.le_trans h.size h'.size, h'.os.trans h.os, h'.tape.trans h.tape, h'.output.trans h.output, fun q h1 h2 h3 => (h'.block q (Nat.lt_of_lt_of_le h1 h.size) h2 (fun i hi hq => by rcases hhas i hi q hq with h4 | h4; exact h3 i hi h4; omega)).trans (h.block q h1 h2 h3)⟩
end Go.Proofs.YthiiommpeaejaaaGreatDoor
