import Derived.Test.YtdeibifjiefapaaGreatDoorW29
/- The keeper's pages: a book that takes a list more, and a book whose pages go on; as plain facts of worlds. -/
namespace Go.Proofs.YtdeibifjiefapaaGreatDoor.Kg
open Go Go.Shelf Go.ChangeShapes Go.WideShapes Go.ChangeAt Go.RowKit Go.Maps
set_option linter.unusedVariables false
variable {α : Type} {Z : Kk α}
/-- what holds of a kind that is kept -/
structure KkOK (Z : Kk α) : Prop where
  k : KdOK Z.K
  und : Tryz.prog.underlying Z.R = some (.slice Z.T)
  info : ∃ i z, Tryz.prog.info? Z.T = some i ∧ i.zero = some z ∧ z.cells.size = 5 ∧ i.size = 5 ∧ i.bytes = 88
  sl : 1 ≤ Z.sl ∧ Z.sl ≤ 20
/-- an append of one page -/
theorem run_page (hZ : KkOK Z) {W : World} {v : Value} {n : Nat} {xs : List Value} (ty : TypeId) (hown : W.ownsRow 0 Z.T 5 v n xs) (ad : Addr) (c : Nat) (news : List Value) (hl : news.length = 5) (hnews : ∀ j u, news[j]? = some u → W.cell? (ad.add j) = some u) (h1 : ∀ u ∈ news, u.oneCell' = true) (hn : n ≤ 96) :
    ∃ g cap w', (Builtin.append_ #[Z.R, Z.R] ty #[v, .slice (some ad) 1 c]).run Tryz.prog W = .ok (.slice (some ⟨g, 0, none⟩) (n + 1) cap) w' ∧ w'.ownsRow 0 Z.T 5 (.slice (some ⟨g, 0, none⟩) (n + 1) cap) (n + 1) (xs ++ news) ∧ W.grownBy w' v.ownBlock ∧ (some g = v.ownBlock ∨ g = W.heap.size) := by
  obtain ⟨i, z, hi, hz, hzs, hsize, hby⟩ := hZ.info
  obtain ⟨v', w', hr, h2, h3, _, h4⟩ := run_append_own_at (P := Tryz.prog) W 0 Z.R ty Z.T i z 5 88 hZ.und hi hz hsize hby hzs (by decide) v n xs hown ad 1 c news (by omega) hnews h1 (by unfold maxLen; omega) (by omega) (Nat.zero_le _)
  obtain ⟨g, cap, e⟩ := own_open h2 (by omega)
  subst e
  exact ⟨g, cap, w', hr, h2, h3, h4.imp id (fun e => Option.some.inj e)⟩
theorem five_new {W : World} {g : Nat} (hg : g = W.heap.size) (a b c d e : Value) (t : TypeId) : ∀ j u, ([a, b, c, d, e] : List Value)[j]? = some u → (W.alloc (.cells #[a, b, c, d, e] t)).cell? ((⟨g, 0, none⟩ : Addr).add j) = some u := by
  intro j u hj
  subst hg
  rw [Addr.add_mid, Nat.zero_add, World.cell?_alloc_mark]
  simpa using hj
theorem one5 {p1 p2 p3 : Option Addr} {n1 n2 n3 c1 c2 c3 : Nat} {i : Int} {b : Bool} : ∀ u ∈ ([.slice p1 n1 c1, .slice p2 n2 c2, .slice p3 n3 c3, .int .i64 i, .bool b] : List Value), u.oneCell' = true := by
  intro u hu
  simp at hu
  rcases hu with rfl | rfl | rfl | rfl | rfl <;> rfl
/-- what Keep leaves: the next number, one page more, a copy of the list of its own; the rest stands -/
def KeepOut (Z : Kk α) (w : World) (bk k m : Nat) (L : Value) (n : Nat) (X : List α) (old : Value) (xs : List Value) (w' : World) : Prop :=
  ∃ g6 c6 u, w'.cell? ⟨bk, 0, none⟩ = some (.int .i64 ((k : Int) + 1)) ∧ w'.cell? ⟨bk, Z.sl, none⟩ = some (.slice (some ⟨g6, 0, none⟩) (m + 1) c6) ∧
    w'.ownsRow 0 Z.T 5 (.slice (some ⟨g6, 0, none⟩) (m + 1) c6) (m + 1) (xs ++ [L, .slice none 0 0, u, .int .i64 ((k : Int) + 1), .bool false]) ∧
    w'.ownsRow w.heap.size Z.K.e Z.K.s u n (Z.K.flat X) ∧ g6 ≠ bk ∧ u.ownBlock ≠ some g6 ∧ (some g6 = old.ownBlock ∨ w.heap.size ≤ g6) ∧
    (∀ i, i ≠ 0 → i ≠ Z.sl → w'.cell? ⟨bk, i, none⟩ = w.cell? ⟨bk, i, none⟩) ∧ (∀ i, w'.frozen? ⟨bk, i, none⟩ = w.frozen? ⟨bk, i, none⟩) ∧
    w.heap.size ≤ w'.heap.size ∧ w'.os = w.os ∧ w'.tape = w.tape ∧ w'.output = w.output ∧ ∀ q, q < w.heap.size → q ≠ bk → old.ownBlock ≠ some q → w'.heap[q]? = w.heap[q]?
theorem keep_out (hZ : KkOK Z) {w w5 w6 : World} {bk k m n g6 c6 : Nat} {L old u u1 u0 : Value} {X : List α} {xs : List Value} {o : Obj} (hbk : bk < w.heap.size) (hold : ∀ q, old.ownBlock = some q → q ≠ bk ∧ q < w.heap.size)
    (hb5 : Below w.heap.size w w5) (O5 : w5.ownsRow w.heap.size Z.K.e Z.K.s u n (Z.K.flat X)) (t0 : w5.cell? ⟨bk, 0, none⟩ = some u0)
    (t6 : w6.cell? ⟨bk, Z.sl, none⟩ = some u1) (G6 : ((w5.setCell ⟨bk, 0, none⟩ (.int .i64 ((k : Int) + 1))).alloc o).grownBy w6 old.ownBlock)
    (O6 : w6.ownsRow 0 Z.T 5 (.slice (some ⟨g6, 0, none⟩) (m + 1) c6) (m + 1) (xs ++ [L, .slice none 0 0, u, .int .i64 ((k : Int) + 1), .bool false]))
    (A6 : some g6 = old.ownBlock ∨ g6 = ((w5.setCell ⟨bk, 0, none⟩ (.int .i64 ((k : Int) + 1))).alloc o).heap.size) :
    KeepOut Z w bk k m L n X old xs (w6.setCell ⟨bk, Z.sl, none⟩ (.slice (some ⟨g6, 0, none⟩) (m + 1) c6)) := by
  have hsl := hZ.sl
  have hs5 := hb5.size
  have hsz : ((w5.setCell ⟨bk, 0, none⟩ (.int .i64 ((k : Int) + 1))).alloc o).heap.size = w5.heap.size + 1 := by simp
  rw [hsz] at A6
  have hs6 := G6.size
  rw [hsz] at hs6
  have hne6 : g6 ≠ bk := by
    rcases A6 with h | h
    · exact (hold g6 h.symm).1
    · omega
  have hneg : u.ownBlock ≠ some g6 := fun e => by
    have h1 := row_lt O5 e
    rcases A6 with h | h
    · have := (hold g6 h.symm).2
      omega
    · omega
  have hblk : ∀ q, q < w5.heap.size → q ≠ bk → some q ≠ old.ownBlock → (w6.setCell ⟨bk, Z.sl, none⟩ (.slice (some ⟨g6, 0, none⟩) (m + 1) c6)).heap[q]? = w5.heap[q]? := by
    intro q hq h1 h2
    rw [heap_set h1, G6.block q (by rw [hsz]; omega) h2, Below.heap_alloc _ _ _ (by simpa using hq), heap_set h1]
  have hcell : ∀ i, i ≠ Z.sl → i ≠ 0 → (w6.setCell ⟨bk, Z.sl, none⟩ (.slice (some ⟨g6, 0, none⟩) (m + 1) c6)).cell? ⟨bk, i, none⟩ = w.cell? ⟨bk, i, none⟩ := by
    intro i h1 h0
    rw [World.cell?_setCell_other _ _ _ _ (by intro h'; injection h' with _ h' _; omega), G6.cell_far ⟨bk, i, none⟩ (by rw [hsz]; show bk < _; omega) (fun e => (hold bk e.symm).1 rfl), World.cell?_alloc_lt _ _ _ (by simp; omega), World.cell?_setCell_other _ _ _ _ (by intro h'; injection h' with _ h' _; omega)]
    exact World.cell?_of_block (hb5.block bk hbk)
  refine ⟨g6, c6, u, ?_, World.cell?_setCell_same _ _ _ t6, row_far O6 ?_, row_far O5 ?_, hne6, hneg, A6.imp id (fun h => by omega), fun i hi hi18 => hcell i hi18 hi, fun i => ?_, by simp; omega, ?_, ?_, ?_, fun q hq h1 h2 => ?_⟩
  · rw [World.cell?_setCell_other _ _ _ _ (by intro h'; injection h' with _ h' _; omega), G6.cell_far ⟨bk, 0, none⟩ (by rw [hsz]; show bk < _; omega) (fun e => (hold bk e.symm).1 rfl), World.cell?_alloc_lt _ _ _ (by simp; omega)]
    exact World.cell?_setCell_same _ _ _ t0
  · intro q hq
    injection hq with hq
    have hq : g6 = q := hq
    subst hq
    exact heap_set hne6
  · intro q hq
    have h1 := row_lt O5 hq
    exact hblk q h1.2 (by omega) (fun e => by have := (hold q e.symm).2; omega)
  · have e1 := (G6.frozen_far ⟨bk, i, none⟩ (by rw [hsz]; show bk < _; omega) (fun e => (hold bk e.symm).1 rfl)).trans (World.frozen?_alloc_past (w := w5.setCell ⟨bk, 0, none⟩ (.int .i64 ((k : Int) + 1))) o bk i (by simp; omega))
    have e2 : w5.frozen? ⟨bk, i, none⟩ = w.frozen? ⟨bk, i, none⟩ := World.frozen?_of_block (hb5.block bk hbk)
    rw [← e2]
    simpa using e1
  · exact G6.os.trans hb5.os
  · exact G6.tape.trans hb5.tape
  · exact G6.output.trans hb5.output
  · rw [hblk q (by omega) h1 (fun e => h2 e.symm)]
    exact hb5.block q hq
/-- what Write leaves: the next number, one page more, the list written over, a longer one made of it; the rest stands -/
def WriteOut (Z : Kk α) (w : World) (bk k m : Nat) (L : Value) (n : Nat) (old : Value) (xs : List Value) (w' : World) : Prop :=
  ∃ g6 c6 v, w'.cell? ⟨bk, 0, none⟩ = some (.int .i64 ((k : Int) + 1)) ∧ w'.cell? ⟨bk, Z.sl, none⟩ = some (.slice (some ⟨g6, 0, none⟩) (m + 1) c6) ∧
    w'.ownsRow 0 Z.T 5 (.slice (some ⟨g6, 0, none⟩) (m + 1) c6) (m + 1) (xs ++ [L, v, .slice none 0 0, .int .i64 ((k : Int) + 1), .bool true]) ∧
    w'.ownsRow 0 Z.K.e Z.K.s v (n + 64) (Z.K.flat (mkm Z (k + 1) n 64)) ∧ LShows Z.K w' L n (mks Z (k + 1) n) ∧
    g6 ≠ bk ∧ L.ownBlock ≠ some g6 ∧ v.ownBlock ≠ some g6 ∧ v.ownBlock ≠ some bk ∧ ((∃ b, v.ownBlock = some b ∧ L.ownBlock = some b) ∨ ∀ q, v.ownBlock = some q → w.heap.size ≤ q) ∧ (some g6 = old.ownBlock ∨ w.heap.size ≤ g6) ∧
    (∀ i, i ≠ 0 → i ≠ Z.sl → w'.cell? ⟨bk, i, none⟩ = w.cell? ⟨bk, i, none⟩) ∧ (∀ i, w'.frozen? ⟨bk, i, none⟩ = w.frozen? ⟨bk, i, none⟩) ∧
    w.heap.size ≤ w'.heap.size ∧ w'.os = w.os ∧ w'.tape = w.tape ∧ w'.output = w.output ∧ ∀ q, q < w.heap.size → q ≠ bk → L.ownBlock ≠ some q → old.ownBlock ≠ some q → w'.heap[q]? = w.heap[q]?
theorem write_out {w w3 w6 : World} {bk k m n g6 c6 : Nat} {L old u v : Value} {xs : List Value} {o : Obj} (hbk : bk < w.heap.size) (hLl : ∀ q, L.ownBlock = some q → q ≠ bk ∧ q < w.heap.size) (hold : ∀ q, old.ownBlock = some q → (q ≠ bk ∧ L.ownBlock ≠ some q) ∧ q < w.heap.size)
    (c0 : w3.cell? ⟨bk, 0, none⟩ = some (.int .i64 ((k : Int) + 1))) (ci : ∀ i, i ≠ 0 → i ≠ Z.sl → w3.cell? ⟨bk, i, none⟩ = w.cell? ⟨bk, i, none⟩) (cf : ∀ i, w3.frozen? ⟨bk, i, none⟩ = w.frozen? ⟨bk, i, none⟩) (hsl : Z.sl ≠ 0)
    (r3 : ∀ q, q < w.heap.size → q ≠ bk → L.ownBlock ≠ some q → w3.heap[q]? = w.heap[q]?) (hz3 : w.heap.size + 1 ≤ w3.heap.size) (own3 : w3.ownsRow 0 Z.K.e Z.K.s v (n + 64) (Z.K.flat (mkm Z (k + 1) n 64)))
    (lst3 : LShows Z.K w3 L n (mks Z (k + 1) n)) (hv : (∃ b, v.ownBlock = some b ∧ L.ownBlock = some b) ∨ ∀ q, v.ownBlock = some q → w.heap.size ≤ q) (os3 : w3.os = w.os) (tp3 : w3.tape = w.tape) (ou3 : w3.output = w.output)
    (t6 : w6.cell? ⟨bk, Z.sl, none⟩ = some u) (G6 : (w3.alloc o).drew.grownBy w6 old.ownBlock)
    (O6 : w6.ownsRow 0 Z.T 5 (.slice (some ⟨g6, 0, none⟩) (m + 1) c6) (m + 1) (xs ++ [L, v, .slice none 0 0, .int .i64 ((k : Int) + 1), .bool true]))
    (A6 : some g6 = old.ownBlock ∨ g6 = (w3.alloc o).drew.heap.size) :
    WriteOut Z w bk k m L n old xs (w6.setCell ⟨bk, Z.sl, none⟩ (.slice (some ⟨g6, 0, none⟩) (m + 1) c6)) := by
  have hsz : (w3.alloc o).drew.heap.size = w3.heap.size + 1 := by simp
  rw [hsz] at A6
  have hs6 := G6.size
  rw [hsz] at hs6
  have hne6 : g6 ≠ bk ∧ L.ownBlock ≠ some g6 := by
    rcases A6 with h | h
    · exact (hold g6 h.symm).1
    · exact ⟨by omega, fun e => by have := (hLl g6 e).2; omega⟩
  have hvo : ∀ q, v.ownBlock = some q → q ≠ bk ∧ q ≠ g6 ∧ q < w3.heap.size ∧ some q ≠ old.ownBlock := by
    intro q hq
    have h1 := (row_lt own3 hq).2
    rcases hv with ⟨b, h2, h3⟩ | h
    · rw [hq] at h2
      injection h2 with h2
      subst h2
      exact ⟨(hLl q h3).1, fun e => hne6.2 (by rw [← e]; exact h3), h1, fun e => (hold _ e.symm).1.2 h3⟩
    · have h2 := h q hq
      refine ⟨by omega, ?_, h1, fun e => by have := (hold _ e.symm).2; omega⟩
      rcases A6 with h' | h'
      · have := (hold g6 h'.symm).2
        omega
      · omega
  have hblk : ∀ q, q < w3.heap.size → q ≠ bk → some q ≠ old.ownBlock → (w6.setCell ⟨bk, Z.sl, none⟩ (.slice (some ⟨g6, 0, none⟩) (m + 1) c6)).heap[q]? = w3.heap[q]? := by
    intro q hq h1 h2
    rw [heap_set h1, G6.block q (by rw [hsz]; omega) h2]
    exact Below.heap_alloc w3 _ _ hq
  have hcell : ∀ i, i ≠ Z.sl → (w6.setCell ⟨bk, Z.sl, none⟩ (.slice (some ⟨g6, 0, none⟩) (m + 1) c6)).cell? ⟨bk, i, none⟩ = w3.cell? ⟨bk, i, none⟩ := by
    intro i h1
    rw [World.cell?_setCell_other _ _ _ _ (by intro h'; injection h' with _ h' _; omega), G6.cell_far ⟨bk, i, none⟩ (by rw [hsz]; show bk < _; omega) (fun e => (hold bk e.symm).1.1 rfl)]
    exact World.cell?_alloc_lt w3 _ _ (by show bk < _; omega)
  refine ⟨g6, c6, v, (hcell 0 (fun e => hsl e.symm)).trans c0, World.cell?_setCell_same _ _ _ t6, row_far O6 ?_, row_far own3 ?_, lst3.far (by simp; omega) ?_, hne6.1, hne6.2, fun e => (hvo g6 e).2.1 rfl, fun e => (hvo bk e).1 rfl, hv, A6.imp id (fun h => by omega), fun i hi hi4 => (hcell i hi4).trans (ci i hi hi4), fun i => ?_, by simp; omega, ?_, ?_, ?_, fun q hq h1 h2 h3 => ?_⟩
  · intro q hq
    injection hq with hq
    have hq : g6 = q := hq
    subst hq
    exact heap_set hne6.1
  · intro q hq
    obtain ⟨h1, _, h3, h4⟩ := hvo q hq
    exact hblk q h3 h1 h4
  · intro q hq
    have h1 := hLl q hq
    exact hblk q (by omega) h1.1 (fun e => (hold q e.symm).1.2 hq)
  · rw [← cf i]
    have h := (G6.frozen_far ⟨bk, i, none⟩ (by rw [hsz]; show bk < _; omega) (fun e => (hold bk e.symm).1.1 rfl)).trans (World.frozen?_alloc_past (w := w3) o bk i (by omega))
    simpa using h
  · exact G6.os.trans os3
  · exact G6.tape.trans tp3
  · exact G6.output.trans ou3
  · rw [hblk q (by omega) h1 (fun e => h3 e.symm)]
    exact r3 q hq h1 h2
/-- one page went on: the book, the rest, whose blocks there are -/
def Went (Z : Kk α) (w w' : World) (bk m : Nat) (R : Value) (p p' : Nat → Pg α) : Prop :=
  KindAt Z w' bk m R p' ∧ Rest w w' R p m ∧ ∀ i, i < m → ∀ q, (p' i).has q → (p i).has q ∨ w.heap.size ≤ q
theorem Went.refl {w : World} {bk m : Nat} {R : Value} {p : Nat → Pg α} (h : KindAt Z w bk m R p) : Went Z w w bk m R p p := ⟨h, Rest.refl _ _ _ _, fun _ _ _ hq => .inl hq⟩
theorem Went.trans {w w1 w' : World} {bk m : Nat} {R : Value} {p p1 p' : Nat → Pg α} (h : Went Z w w1 bk m R p p1) (h' : Went Z w1 w' bk m R p1 p') : Went Z w w' bk m R p p' :=
  ⟨h'.1, h.2.1.trans h'.2.1 h.2.2, fun i hi q hq => by
    rcases h'.2.2 i hi q hq with h1 | h1
    · exact h.2.2 i hi q h1
    · exact .inr (Nat.le_trans h.2.1.size h1)⟩
theorem went_of {w w' : World} {bk m i : Nat} {R : Value} {p : Nat → Pg α} {P : Pg α} (h : KindAt Z w bk m R p) (hi : i < m) (hrow : w'.ownsRow 0 Z.T 5 R m (pages (upd p i P) m)) (hok : P.OK Z w') (hz : w.heap.size ≤ w'.heap.size) (os : w'.os = w.os) (tp : w'.tape = w.tape) (ou : w'.output = w.output)
    (hfar : ∀ q, q < w.heap.size → R.ownBlock ≠ some q → ¬ (p i).has q → w'.heap[q]? = w.heap[q]?) (hhas : ∀ q, P.has q → (p i).has q ∨ w.heap.size ≤ q) (hlt : ∀ q, P.has q → q < w'.heap.size) : Went Z w w' bk m R p (upd p i P) := by
  refine ⟨h.put hi hrow hok hz hfar hhas hlt, ⟨hz, os, tp, ou, fun q h1 h2 h3 => hfar q h1 h2 (h3 i hi)⟩, fun j hj q hq => ?_⟩
  by_cases e : j = i
  · subst e; rw [upd_same] at hq; exact hhas q hq
  · rw [upd_other _ _ _ _ e] at hq; exact .inl hq
/-- a page's cells in its book's row -/
theorem KindAt.cell {w : World} {bk m g6 c6 : Nat} {p : Nat → Pg α} (h : KindAt Z w bk m (.slice (some ⟨g6, 0, none⟩) m c6) p) (i : Nat) (hi : i < m) (c : Nat) (hc : c < 5) : w.cell? ⟨g6, i * 5 + c, none⟩ = (p i).cells[c]? := by
  rw [h.row.cellAt (i * 5 + c) (by omega)]
  exact pages_get p c hc m i hi
theorem book_row {w : World} {bk m : Nat} {R : Value} {p : Nat → Pg α} (h : KindAt Z w bk m R p) : ∃ pa pc, R = .slice pa m pc ∧ (0 < m → ∃ g6, pa = some ⟨g6, 0, none⟩) := by
  rcases h.row.2 with ⟨h1, h2⟩ | ⟨g, c, cur, h1, _⟩
  · exact ⟨none, 0, by rw [h1, h2], fun h => by omega⟩
  · exact ⟨_, c, h1, fun _ => ⟨g, rfl⟩⟩
/-- the contracts of a kind's pages: fill, grow, shows -/
def FillC (Z : Kk α) (f : Nat) : Prop := ∀ (pg po : Nat) (L : Value) (n id : Nat) (X : List α) (w : World), n ≤ 900000 → id < 1000 → X.length = n → w.ownsRow 0 Z.K.e Z.K.s L n (Z.K.flat X) → L.ownBlock ≠ some pg → L.ownBlock ≠ some 1 → w.cell? ⟨pg, po, none⟩ = some L → w.cell? ⟨pg, po + 3, none⟩ = some (.int .i64 (id : Int)) → (∃ v, w.cell? ⟨pg, po + 4, none⟩ = some v) → w.frozen? ⟨pg, po + 4, none⟩ = false → Pw w →
  Calls Tryz.prog f #[.pointer (some ⟨pg, po, none⟩)] w fun e w' => e = .returned (.tuple #[]) ∧ ∃ w1, FillAt Z w w1 L n id X n ∧ w' = w1.setCell ⟨pg, po + 4, none⟩ (.bool true)
def GrowC (Z : Kk α) (f : Nat) : Prop := ∀ (pg po : Nat) (L : Value) (n id : Nat) (w : World), n ≤ 900000 → id < 1000 → w.ownsRow 0 Z.K.e Z.K.s L n (Z.K.flat (mks Z id n)) → L.ownBlock ≠ some pg → L.ownBlock ≠ some 1 → pg ≠ 1 → w.cell? ⟨pg, po, none⟩ = some L → (∃ u, w.cell? ⟨pg, po + 1, none⟩ = some u) → w.frozen? ⟨pg, po + 1, none⟩ = false → w.cell? ⟨pg, po + 3, none⟩ = some (.int .i64 (id : Int)) → Pw w →
  Calls Tryz.prog f #[.pointer (some ⟨pg, po, none⟩)] w fun e w' => e = .returned (.tuple #[]) ∧ ∃ v, GrowAt Z w pg po L n id 64 v w'
def ShowsC (Z : Kk α) (f : Nat) : Prop := ∀ (p : Pg α) (w : World), p.OK Z w → p.s ≠ 1 → Pw w →
  Calls Tryz.prog f #[.agg #[p.L, p.G, p.W, .int .i64 (p.id : Int), .bool (decide (0 < p.s))]] w fun e w' => e = .returned (.bool true) ∧ Below w.heap.size w w'
theorem fill_page {f : Nat} (hZ : KkOK Z) (hf : FillC Z f) {w : World} {bk m g6 c6 : Nat} {p : Nat → Pg α} (h : KindAt Z w bk m (.slice (some ⟨g6, 0, none⟩) m c6) p) (i : Nat) (hi : i < m) (hs : (p i).s = 0) :
    Calls Tryz.prog f #[.pointer (some ⟨g6, i * 5, none⟩)] w fun e w' => e = .returned (.tuple #[]) ∧ ∃ P, P.s = 1 ∧ Went Z w w' bk m (.slice (some ⟨g6, 0, none⟩) m c6) p (upd p i P) := by
  obtain ⟨h1, h2, h4⟩ := (h.ok i hi).s0 hs
  have a0 := h.cell i hi 0 (by omega)
  have a3 := h.cell i hi 3 (by omega)
  have a4 := h.cell i hi 4 (by omega)
  have f4 := h.row.frozenAt (i * 5 + 4)
  simp only [Pg.cells, List.getElem?_cons_zero, List.getElem?_cons_succ, Nat.add_zero] at a0 a3 a4
  have hset : ({ p i with s := 1 } : Pg α).cells = (p i).cells.set 4 (.bool true) := by simp [Pg.cells]
  have hne : ∀ q, (p i).L.ownBlock = some q → g6 ≠ q := fun q hq e => (h.far i hi q (.inl hq)).2.1 (by rw [e]; rfl)
  refine (hf g6 (i * 5) (p i).L (p i).n (p i).id (p i).X w (h.ok i hi).le (h.ok i hi).idl (h.ok i hi).len h1 (fun e => hne g6 e rfl) (fun e => h.p3 i hi (.inl e)) a0 a3 ⟨_, a4⟩ f4 h.tab).mono ?_
  rintro e w' ⟨rfl, w1, hF, rfl⟩
  have hrow1 : w1.ownsRow 0 Z.T 5 (.slice (some ⟨g6, 0, none⟩) m c6) m (pages p m) := row_far h.row (fun q hq => by injection hq with hq; have hq : g6 = q := hq; subst hq; exact hF.gr.block g6 (row_lt h.row (q := g6) rfl).2 (fun e => hne g6 e.symm rfl))
  have hst := hrow1.stored (i * 5 + 4) (.bool true)
  have hz := Nat.le_trans hF.gr.size hst.2.size
  refine ⟨rfl, { p i with s := 1 }, rfl, went_of h hi ?_ ?_ hz (hst.2.os.trans hF.gr.os) (hst.2.tape.trans hF.gr.tape) (hst.2.output.trans hF.gr.output) (fun q hq h7 h8 => ?_) (fun q hq => .inl hq) (fun q hq => by have := (h.far i hi q hq).2.2; omega)⟩
  · rw [← pages_set p i { p i with s := 1 } 4 (.bool true) (by omega) hset m hi]
    exact hst.1
  · refine ⟨(h.ok i hi).le, (h.ok i hi).idl, fun e => by simp at e, fun _ => ⟨?_, h2⟩, fun e => by simp at e, by simp, (h.ok i hi).len⟩
    exact row_far (hF.full (h.ok i hi).len) (fun q hq => heap_set (fun e => hne q hq e.symm))
  · rw [hst.2.block q (Nat.lt_of_lt_of_le hq hF.gr.size) (fun e => h7 (by rw [e]; rfl))]
    exact hF.gr.block q hq (fun e => h8 (.inl e.symm))
theorem own_at {w : World} {B e s n b : Nat} {L : Value} {xs : List Value} (h : w.ownsRow B e s L n xs) (hb : L.ownBlock = some b) : b < w.heap.size ∧ ∃ c, L = .slice (some ⟨b, 0, none⟩) n c := by
  refine ⟨(row_lt h hb).2, ?_⟩
  rcases h.2 with ⟨e, _⟩ | ⟨g, cap, cur, e, _⟩
  · rw [e] at hb; cases hb
  · rw [e] at hb
    injection hb with hb
    have hb : g = b := hb
    subst hb
    exact ⟨cap, e⟩
theorem grow_page {f : Nat} (hZ : KkOK Z) (hf : GrowC Z f) {w : World} {bk m g6 c6 : Nat} {p : Nat → Pg α} (h : KindAt Z w bk m (.slice (some ⟨g6, 0, none⟩) m c6) p) (i : Nat) (hi : i < m) (hs : (p i).s = 1) :
    Calls Tryz.prog f #[.pointer (some ⟨g6, i * 5, none⟩)] w fun e w' => e = .returned (.tuple #[]) ∧ ∃ P, P.s = 2 ∧ Went Z w w' bk m (.slice (some ⟨g6, 0, none⟩) m c6) p (upd p i P) := by
  obtain ⟨h1, h2⟩ := (h.ok i hi).s1 hs
  have a0 := h.cell i hi 0 (by omega)
  have a1 := h.cell i hi 1 (by omega)
  have a3 := h.cell i hi 3 (by omega)
  have f1 := h.row.frozenAt (i * 5 + 1)
  simp only [Pg.cells, List.getElem?_cons_zero, List.getElem?_cons_succ, Nat.add_zero] at a0 a1 a3
  have hgl6 := (row_lt h.row (q := g6) rfl).2
  have hne : ∀ q, (p i).L.ownBlock = some q → g6 ≠ q := fun q hq e => (h.far i hi q (.inl hq)).2.1 (by rw [e]; rfl)
  refine (hf g6 (i * 5) (p i).L (p i).n (p i).id w (h.ok i hi).le (h.ok i hi).idl h1 (fun e => hne g6 e rfl) (fun e => h.p3 i hi (.inl e)) (fun e => h.r3 (by rw [e]; rfl)) a0 ⟨_, a1⟩ f1 a3 h.tab).mono ?_
  rintro e w' ⟨rfl, v, hG⟩
  have hset : ({ p i with s := 2, G := v } : Pg α).cells = (p i).cells.set 1 v := by simp [Pg.cells, hs]
  have hhas : ∀ q, ({ p i with s := 2, G := v } : Pg α).has q → (p i).has q ∨ w.heap.size ≤ q := by
    intro q hq
    rcases hq with hq | hq | hq
    · exact .inl (.inl hq)
    · have hq : v.ownBlock = some q := hq
      rcases hG.at' with ⟨b, k1, k2⟩ | h'
      · rw [hq] at k1
        rw [← k1] at k2
        exact .inl (.inl k2)
      · exact .inr (h' q hq)
    · exact .inl (.inr (.inr hq))
  have hst := h.row.stored (i * 5 + 1) v
  refine ⟨rfl, _, rfl, went_of h hi ?_ ?_ hG.size hG.os hG.tape hG.output (fun q hq h7 h8 => hG.far q hq (fun e => h7 (by rw [e]; rfl)) (fun e => h8 (.inl e))) hhas (fun q hq => ?_)⟩
  · rw [← pages_set p i _ 1 v (by omega) hset m hi]
    exact row_far hst.1 (fun q hq => by injection hq with hq; have hq : g6 = q := hq; subst hq; exact hG.page)
  · exact ⟨(h.ok i hi).le, (h.ok i hi).idl, fun e => by simp at e, fun e => by simp at e, fun _ => ⟨hG.lst, hG.own⟩, by simp, (h.ok i hi).len⟩
  · rcases hq with hq | hq | hq
    · have := (h.far i hi q (.inl hq)).2.2; have := hG.size; omega
    · exact (row_lt hG.own hq).2
    · have := (h.far i hi q (.inr (.inr hq))).2.2; have := hG.size; omega
/-- the blocks of a book's pages of this kind -/
def Fp (R : Value) (p : Nat → Pg α) (m q : Nat) : Prop := R.ownBlock = some q ∨ ∃ i, i < m ∧ (p i).has q
theorem KindAt.fp {w : World} {bk m : Nat} {R : Value} {p : Nat → Pg α} (h : KindAt Z w bk m R p) {q : Nat} (hq : Fp R p m q) : q ≠ bk ∧ q < w.heap.size := by
  rcases hq with hq | ⟨i, hi, hq⟩
  · exact ⟨fun e => h.rb (by rw [← e]; exact hq), (row_lt h.row hq).2⟩
  · exact ⟨(h.far i hi q hq).1, (h.far i hi q hq).2.2⟩
theorem Went.fp {w w' : World} {bk m : Nat} {R : Value} {p p' : Nat → Pg α} (h : Went Z w w' bk m R p p') {q : Nat} (hq : Fp R p' m q) : Fp R p m q ∨ w.heap.size ≤ q := by
  rcases hq with hq | ⟨i, hi, hq⟩
  · exact .inl (.inl hq)
  · exact (h.2.2 i hi q hq).imp (fun h' => .inr ⟨i, hi, h'⟩) id
theorem Went.far {w w' : World} {bk m : Nat} {R : Value} {p p' : Nat → Pg α} (h : Went Z w w' bk m R p p') {q : Nat} (hq : ¬ Fp R p m q) (hl : q < w.heap.size) : w'.heap[q]? = w.heap[q]? :=
  h.2.1.block q hl (fun e => hq (.inl e)) (fun i hi e => hq (.inr ⟨i, hi, e⟩))
/-- a list that may be put into a book: of its own, apart from the book's of this kind -/
structure Mine (Z : Kk α) (w : World) (bk m : Nat) (R : Value) (p : Nat → Pg α) (L : Value) (n : Nat) (X : List α) : Prop where
  own : w.ownsRow 0 Z.K.e Z.K.s L n (Z.K.flat X)
  le : n ≤ 900000
  len : X.length = n
  apart : ∀ q, L.ownBlock = some q → q ≠ bk ∧ ¬ Fp R p m q
  l3 : L.ownBlock ≠ some 1
/-- a book with a list more -/
def More (Z : Kk α) (w w' : World) (bk m k : Nat) (R : Value) (p : Nat → Pg α) (L : Value) (s : Nat) : Prop :=
  ∃ R' P, P.s = s ∧ KindAt Z w' bk (m + 1) R' (upd p m P) ∧ w'.cell? ⟨bk, 0, none⟩ = some (.int .i64 ((k : Int) + 1)) ∧ (∀ i, i ≠ 0 → i ≠ Z.sl → w'.cell? ⟨bk, i, none⟩ = w.cell? ⟨bk, i, none⟩) ∧ (∀ q, Fp R' (upd p m P) (m + 1) q → Fp R p m q ∨ L.ownBlock = some q ∨ w.heap.size ≤ q) ∧
    w.heap.size ≤ w'.heap.size ∧ w'.os = w.os ∧ w'.tape = w.tape ∧ w'.output = w.output ∧ ∀ q, q < w.heap.size → q ≠ bk → ¬ Fp R p m q → L.ownBlock ≠ some q → w'.heap[q]? = w.heap[q]?
theorem fp_push {R R' L : Value} {p : Nat → Pg α} {P : Pg α} {m z : Nat} (hR : ∀ q, R'.ownBlock = some q → R.ownBlock = some q ∨ z ≤ q) (hP : ∀ q, P.has q → L.ownBlock = some q ∨ z ≤ q) : ∀ q, Fp R' (upd p m P) (m + 1) q → Fp R p m q ∨ L.ownBlock = some q ∨ z ≤ q := by
  rintro q (hq | ⟨i, hi, hq⟩)
  · exact (hR q hq).imp .inl .inr
  · by_cases e : i = m
    · subst e
      rw [upd_same] at hq
      exact .inr (hP q hq)
    · rw [upd_other _ _ _ _ e] at hq
      exact .inl (.inr ⟨i, by omega, hq⟩)
theorem more_keep {w w' : World} {bk m k n : Nat} {R L : Value} {p : Nat → Pg α} {X : List α} (h : KindAt Z w bk m R p) (hL : Mine Z w bk m R p L n X) (hk : k < 900) (ho : KeepOut Z w bk k m L n X R (pages p m) w') : More Z w w' bk m k R p L 0 := by
  obtain ⟨g6, c6, u, c0, c1, hrow, hW, n1, n2, n3, ci, cf, hz, os, tp, ou, hblk⟩ := ho
  have hbk := h.lt
  have hgw : ∀ q, u.ownBlock = some q → w.heap.size ≤ q ∧ q < w'.heap.size := fun q hq => row_lt hW hq
  have hLl : ∀ q, L.ownBlock = some q → q < w.heap.size := fun q hq => (row_lt hL.own hq).2
  have hLR : ∀ q, L.ownBlock = some q → R.ownBlock ≠ some q := fun q hq e => (hL.apart q hq).2 (.inl e)
  have hhas : ∀ q, (⟨L, n, .slice none 0 0, u, k + 1, 0, X⟩ : Pg α).has q → L.ownBlock = some q ∨ u.ownBlock = some q := by
    intro q hq
    rcases hq with hq | hq | hq
    · exact .inl hq
    · cases hq
    · exact .inr hq
  have hg6 : ∀ q, L.ownBlock = some q → g6 ≠ q := by
    intro q hq e
    subst e
    rcases n3 with h' | h'
    · exact hLR g6 hq h'.symm
    · have := hLl g6 hq; omega
  refine ⟨_, ⟨L, n, .slice none 0 0, u, k + 1, 0, X⟩, rfl, h.push c1 cf ?_ ?_ ?_ hz ?_ ?_ (hblk 1 h.tab.lt (fun e => h.b3 e.symm) h.r3) (fun h' => (hhas 1 h').elim hL.l3 (fun e => by have := h.tab.lt; have := (hgw 1 e).1; omega)), c0, ci, fp_push ?_ ?_, hz, os, tp, ou, fun q h1 h2 h3 _ => hblk q h1 h2 (fun e => h3 (.inl e))⟩
  · have e : (⟨L, n, .slice none 0 0, u, k + 1, 0, X⟩ : Pg α).cells = [L, .slice none 0 0, u, .int .i64 ((k : Int) + 1), .bool false] := by simp [Pg.cells]
    rw [e]
    exact hrow
  · intro q hq
    injection hq with hq
    have hq : g6 = q := hq
    subst hq
    refine ⟨n1, fun hh => ?_, n3.imp Eq.symm id⟩
    rcases hhas g6 hh with h' | h'
    · exact hg6 g6 h' rfl
    · exact n2 h'
  · refine ⟨hL.le, by show k + 1 < 1000; omega, fun _ => ⟨?_, rfl, row_le hW (Nat.zero_le _)⟩, fun e => by simp at e, fun e => by simp at e, by simp, hL.len⟩
    exact row_far hL.own (fun q hq => hblk q (hLl q hq) (hL.apart q hq).1 (hLR q hq))
  · intro i hi q hq
    exact hblk q (h.far i hi q hq).2.2 (h.far i hi q hq).1 (h.far i hi q hq).2.1
  · intro q hq
    rcases hhas q hq with h' | h'
    · exact ⟨(hL.apart q h').1, by have := hLl q h'; omega, fun i hi e => (hL.apart q h').2 (.inr ⟨i, hi, e⟩)⟩
    · have h8 := hgw q h'
      exact ⟨by omega, h8.2, fun i hi hq => by have := (h.far i hi q hq).2.2; omega⟩
  · intro q hq
    injection hq with hq
    have hq : g6 = q := hq
    subst hq
    exact n3.imp Eq.symm id
  · intro q hq
    exact (hhas q hq).imp id (fun e => (hgw q e).1)
theorem more_write {w w' : World} {bk m k n : Nat} {R L : Value} {p : Nat → Pg α} {X : List α} (h : KindAt Z w bk m R p) (hL : Mine Z w bk m R p L n X) (hk : k < 900) (ho : WriteOut Z w bk k m L n R (pages p m) w') : More Z w w' bk m k R p L 2 := by
  obtain ⟨g6, c6, v, c0, c1, hrow, hV, hlst, n1, n2, n3, n4, n5, n6, ci, cf, hz, os, tp, ou, hblk⟩ := ho
  have hbk := h.lt
  have hLl : ∀ q, L.ownBlock = some q → q < w.heap.size := fun q hq => (row_lt hL.own hq).2
  have hvL : ∀ q, v.ownBlock = some q → L.ownBlock = some q ∨ w.heap.size ≤ q := by
    intro q hq
    rcases n5 with ⟨b, k1, k2⟩ | h'
    · rw [hq] at k1
      rw [← k1] at k2
      exact .inl k2
    · exact .inr (h' q hq)
  have hhas : ∀ q, (⟨L, n, v, .slice none 0 0, k + 1, 2, X⟩ : Pg α).has q → L.ownBlock = some q ∨ w.heap.size ≤ q := by
    intro q hq
    rcases hq with hq | hq | hq
    · exact .inl hq
    · exact hvL q hq
    · cases hq
  refine ⟨_, ⟨L, n, v, .slice none 0 0, k + 1, 2, X⟩, rfl, h.push c1 cf ?_ ?_ ?_ hz ?_ ?_ (hblk 1 h.tab.lt (fun e => h.b3 e.symm) hL.l3 h.r3) (fun h' => (hhas 1 h').elim hL.l3 (fun e => by have := h.tab.lt; omega)), c0, ci, fp_push ?_ hhas, hz, os, tp, ou, fun q h1 h2 h3 h4 => hblk q h1 h2 h4 (fun e => h3 (.inl e))⟩
  · have e : (⟨L, n, v, .slice none 0 0, k + 1, 2, X⟩ : Pg α).cells = [L, v, .slice none 0 0, .int .i64 ((k : Int) + 1), .bool true] := by simp [Pg.cells]
    rw [e]
    exact hrow
  · intro q hq
    injection hq with hq
    have hq : g6 = q := hq
    subst hq
    refine ⟨n1, fun hh => ?_, n6.imp Eq.symm id⟩
    rcases hh with hh | hh | hh
    · exact n2 hh
    · exact n3 hh
    · cases hh
  · exact ⟨hL.le, by show k + 1 < 1000; omega, fun e => by simp at e, fun e => by simp at e, fun _ => ⟨hlst, hV⟩, by simp, hL.len⟩
  · intro i hi q hq
    have hf := h.far i hi q hq
    exact hblk q hf.2.2 hf.1 (fun e => (hL.apart q e).2 (.inr ⟨i, hi, hq⟩)) hf.2.1
  · intro q hq
    rcases hhas q hq with h' | h'
    · exact ⟨(hL.apart q h').1, by have := hLl q h'; omega, fun i hi e => (hL.apart q h').2 (.inr ⟨i, hi, e⟩)⟩
    · refine ⟨by omega, ?_, fun i hi hq => by have := (h.far i hi q hq).2.2; omega⟩
      rcases hq with hq | hq | hq
      · have := hLl q hq; omega
      · exact (row_lt hV hq).2
      · cases hq
  · intro q hq
    injection hq with hq
    have hq : g6 = q := hq
    subst hq
    exact n6.imp Eq.symm id
end Go.Proofs.YtdeibifjiefapaaGreatDoor.Kg
