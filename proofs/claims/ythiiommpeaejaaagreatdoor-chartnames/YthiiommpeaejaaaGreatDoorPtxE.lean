/- The keeper's book: an append of a page to its row of pages. -/
import Derived.Test.YthiiommpeaejaaaGreatDoorPtxD
import Derived.Deep.RegionLaw
namespace Go.Proofs.YthiiommpeaejaaaGreatDoor
open Go Go.ChangeShapes Go.WideShapes Go.ChangeAt Go.RowKit
set_option linter.unusedVariables false
theorem info68 : (Tryz.prog.info? 68).map (fun i => (i.zero.map (fun z => z.cells.size), i.size, i.bytes)) = some (some 5, 5, 88) := by kernel_rfl
theorem info68_parts : ∃ i z, Tryz.prog.info? 68 = some i ∧ i.zero = some z ∧ z.cells.size = 5 ∧ i.size = 5 ∧ i.bytes = 88 := by
  obtain ⟨i, hi, hzz⟩ := Option.map_eq_some_iff.1 info68
  simp only [Prod.mk.injEq] at hzz
  obtain ⟨z, hz, hs⟩ := Option.map_eq_some_iff.1 hzz.1
  exact ⟨i, z, hi, hz, hs, hzz.2.1, hzz.2.2⟩
/-- an append of one page, at an operation of a region that draws -/
theorem step_append_page {ops : Array Oper} {o : Oper} {a : Act} {K : Act → World → Prop} {Q : Exit → Act → World → Prop} {E : Prop} (w : World) (hgd : o.guard = none) (s x : Operand)
    (ho : o.op = .call { callee := .builtin .append, args := #[s, x], argTypes := #[31, 31] })
    (base : Nat) (v : Value) (n : Nat) (xs : List Value) (hs : a.eval s = v) (hown : w.ownsRow base 68 5 v n xs)
    (ad : Addr) (c : Nat) (news : List Value) (hx : a.eval x = .slice (some ad) 1 c) (hl : news.length = 5) (hnews : ∀ j u, news[j]? = some u → w.cell? (ad.add j) = some u) (h1 : ∀ u ∈ news, u.oneCell' = true)
    (hn : n ≤ 96) (hbase : base ≤ w.heap.size)
    (h : ∀ g cap w', w'.ownsRow base 68 5 (.slice (some ⟨g, 0, none⟩) (n + 1) cap) (n + 1) (xs ++ news) → w.grownBy w' v.ownBlock → (some g = v.ownBlock ∨ g = w.heap.size) → K (a.put o.dst (.slice (some ⟨g, 0, none⟩) (n + 1) cap)) w') :
    if Region.wanted o (yielded ops a.tmps) = true then Oper.wp Tryz.prog o a w K Q else E := by
  have hw : Region.wanted o (yielded ops a.tmps) = true := by simp [Region.wanted, hgd]
  rw [if_pos hw]
  obtain ⟨i, z, hi, hz, hzs, hsize, hby⟩ := info68_parts
  obtain ⟨v', w', hr, h2, h3, _, h4⟩ := run_append_own_at (P := Tryz.prog) w base 31 o.type 68 i z 5 88 Tryz.underlying31 hi hz hsize hby hzs (by decide) v n xs hown ad 1 c news (by omega) hnews h1 (by unfold maxLen; omega) (by omega) hbase
  have h5 : ∃ g cap, v' = .slice (some ⟨g, 0, none⟩) (n + 1) cap := by
    rcases h2.2 with ⟨_, h0⟩ | ⟨g, cap, cur, rfl, _⟩
    · omega
    · exact ⟨g, cap, rfl⟩
  obtain ⟨g, cap, rfl⟩ := h5
  unfold Oper.wp execOp
  simp only [ho, resolve, invoke, builtin, Sem.run_bind, Sem.run_pure, Result.andThen_ok, List.map_toArray, List.map_cons, List.map_nil, hs, hx, hr]
  exact h g cap w' h2 h3 (h4.imp id (fun e => by simpa [Value.ownBlock] using e))
/-- a row stands where its own block stands -/
theorem row_far {w w' : World} {B e s : Nat} {v : Value} {n : Nat} {xs : List Value} (h : w.ownsRow B e s v n xs) (hq : ∀ q, v.ownBlock = some q → w'.heap[q]? = w.heap[q]?) : w'.ownsRow B e s v n xs := by
  refine ⟨h.1, ?_⟩
  rcases h.2 with h1 | ⟨g, cap, cur, rfl, hb, hg, rest⟩
  · exact .inl h1
  · exact .inr ⟨g, cap, cur, rfl, hb, (hq g rfl).trans hg, rest⟩
theorem five_new {W : World} {g : Nat} (hg : g = W.heap.size) (a b c d e : Value) (t : TypeId) : ∀ j u, ([a, b, c, d, e] : List Value)[j]? = some u → (W.alloc (.cells #[a, b, c, d, e] t)).cell? ((⟨g, 0, none⟩ : Addr).add j) = some u := by
  intro j u hj
  subst hg
  rw [Addr.add_mid, Nat.zero_add, World.cell?_alloc_mark]
  simpa using hj
theorem below_keep {w W w5 : World} {v : Value} {g : Nat} (hb : Below w.heap.size w W) (hw : w.heap.size ≤ W.heap.size) (hv : ∀ k, v.ownBlock = some k → w.heap.size ≤ k) (h : (v.ownBlock = some g ∧ W.grownBy w5 (some g)) ∨ (g = W.heap.size ∧ W.grownBy w5 none)) : Below w.heap.size w w5 ∧ w.heap.size ≤ g := by
  rcases h with ⟨h1, h2⟩ | ⟨h1, h2⟩
  · exact ⟨hb.grown h2 hw (fun k hk => by injection hk with hk; subst hk; exact hv _ h1), hv _ h1⟩
  · exact ⟨hb.grown h2 hw (fun k hk => by simp at hk), by omega⟩
theorem keep_one {w w5 : World} {o : Obj} {g : Nat} (h : ((Value.slice (some ⟨w.heap.size, 0, none⟩) 0 0).ownBlock = some g ∧ (w.alloc o).drew.grownBy w5 (some g)) ∨ (g = (w.alloc o).drew.heap.size ∧ (w.alloc o).drew.grownBy w5 none)) : Below w.heap.size w w5 ∧ w.heap.size ≤ g :=
  below_keep (v := .slice (some ⟨w.heap.size, 0, none⟩) 0 0) (bal (Below.refl _ _) o).drew (by simp) (by intro q hq; simp [Value.ownBlock] at hq; omega) h
theorem page_far {w5 w6 : World} {bk i : Nat} {o : Obj} {x u : Value} {r : Option Nat} (h : ((w5.setCell ⟨bk, 0, none⟩ x).alloc o).grownBy w6 r) (hr : ∀ q, r = some q → q ≠ bk) (hb : bk < w5.heap.size) (hi : i ≠ 0) (hc : w5.cell? ⟨bk, i, none⟩ = some u) : w6.cell? ⟨bk, i, none⟩ = some u := by
  have h1 : ((w5.setCell ⟨bk, 0, none⟩ x).alloc o).cell? ⟨bk, i, none⟩ = some u := (World.cell?_alloc_lt _ _ _ (by simpa using hb)).trans ((World.cell?_setCell_other _ _ _ _ (by intro h'; injection h' with _ h' _; omega)).trans hc)
  exact (h.cell_far ⟨bk, i, none⟩ (by simp; omega) (by first | (intro e; exact hr bk e rfl) | (intro e; exact hr bk e.symm rfl))).trans h1
theorem page_farF {w5 w6 : World} {bk i : Nat} {o : Obj} {x : Value} {u : Bool} {r : Option Nat} (h : ((w5.setCell ⟨bk, 0, none⟩ x).alloc o).grownBy w6 r) (hr : ∀ q, r = some q → q ≠ bk) (hb : bk < w5.heap.size) (hc : w5.frozen? ⟨bk, i, none⟩ = u) : w6.frozen? ⟨bk, i, none⟩ = u := by
  have h1 : ((w5.setCell ⟨bk, 0, none⟩ x).alloc o).frozen? ⟨bk, i, none⟩ = u := ((bal (Below.refl (w5.setCell ⟨bk, 0, none⟩ x).heap.size (w5.setCell ⟨bk, 0, none⟩ x)) o).frozen (p := ⟨bk, i, none⟩) (by simpa using hb)).trans (by simpa using hc)
  exact (h.frozen_far ⟨bk, i, none⟩ (by simp; omega) (by first | (intro e; exact hr bk e rfl) | (intro e; exact hr bk e.symm rfl))).trans h1
theorem load_far {w5 : World} {bk : Nat} {x u : Value} {o : Obj} (hb : bk < w5.heap.size) (hc : w5.cell? ⟨bk, 4, none⟩ = some u) : ((w5.setCell ⟨bk, 0, none⟩ x).alloc o).cell? ⟨bk, 4, none⟩ = some u :=
  (World.cell?_alloc_lt _ _ _ (by simpa using hb)).trans ((World.cell?_setCell_other _ _ _ _ (by intro h'; injection h' with _ h' _; omega)).trans hc)
/-- what KeepBytes leaves: the next number, one page more, a copy of the list of its own; the rest stands -/
def KeepOut (w : World) (bk k m B : Nat) (L : Value) (n : Nat) (f : Nat → ByteArray) (old : Value) (xs : List Value) (w' : World) : Prop :=
  ∃ g6 c6 gw cw, w'.cell? ⟨bk, 0, none⟩ = some (.int .i64 ((k : Int) + 1)) ∧ w'.cell? ⟨bk, 4, none⟩ = some (.slice (some ⟨g6, 0, none⟩) (m + 1) c6) ∧
    w'.ownsRow B 68 5 (.slice (some ⟨g6, 0, none⟩) (m + 1) c6) (m + 1) (xs ++ [L, .slice none 0 0, .slice (some ⟨gw, 0, none⟩) n cw, .int .i64 ((k : Int) + 1), .bool false]) ∧
    w'.ownsRow w.heap.size 9 1 (.slice (some ⟨gw, 0, none⟩) n cw) n (scells f n) ∧ g6 ≠ bk ∧ g6 ≠ gw ∧ (some g6 = old.ownBlock ∨ w.heap.size ≤ g6) ∧
    (∀ i, i ≠ 0 → i ≠ 4 → w'.cell? ⟨bk, i, none⟩ = w.cell? ⟨bk, i, none⟩) ∧ (∀ i, w'.frozen? ⟨bk, i, none⟩ = w.frozen? ⟨bk, i, none⟩) ∧
    w.heap.size ≤ w'.heap.size ∧ w'.os = w.os ∧ w'.tape = w.tape ∧ w'.output = w.output ∧ ∀ q, q < w.heap.size → q ≠ bk → old.ownBlock ≠ some q → w'.heap[q]? = w.heap[q]?
theorem keep_out {w w5 w6 : World} {bk k m B n g c5 g6 c6 : Nat} {L old u u0 : Value} {f : Nat → ByteArray} {xs : List Value} {o : Obj} (hbk : bk < w.heap.size) (hold : ∀ q, old.ownBlock = some q → q ≠ bk ∧ q < w.heap.size)
    (G5 : Below w.heap.size w w5 ∧ w.heap.size ≤ g) (O5 : w5.ownsRow w.heap.size 9 1 (.slice (some ⟨g, 0, none⟩) n c5) n (scells f n)) (t0 : w5.cell? ⟨bk, 0, none⟩ = some u0)
    (h5 : ∀ i, w5.frozen? ⟨bk, i, none⟩ = w.frozen? ⟨bk, i, none⟩) (t6 : w6.cell? ⟨bk, 4, none⟩ = some u) (G6 : ((w5.setCell ⟨bk, 0, none⟩ (.int .i64 ((k : Int) + 1))).alloc o).grownBy w6 old.ownBlock)
    (O6 : w6.ownsRow B 68 5 (.slice (some ⟨g6, 0, none⟩) (m + 1) c6) (m + 1) (xs ++ [L, .slice none 0 0, .slice (some ⟨g, 0, none⟩) n c5, .int .i64 ((k : Int) + 1), .bool false]))
    (A6 : some g6 = old.ownBlock ∨ g6 = ((w5.setCell ⟨bk, 0, none⟩ (.int .i64 ((k : Int) + 1))).alloc o).heap.size) :
    KeepOut w bk k m B L n f old xs (w6.setCell ⟨bk, 4, none⟩ (.slice (some ⟨g6, 0, none⟩) (m + 1) c6)) := by
  obtain ⟨hb5, hg⟩ := G5
  have hs5 := hb5.size
  have hgl := (O5.lt g rfl).2
  have hsz : ((w5.setCell ⟨bk, 0, none⟩ (.int .i64 ((k : Int) + 1))).alloc o).heap.size = w5.heap.size + 1 := by simp
  rw [hsz] at A6
  have hs6 := G6.size
  rw [hsz] at hs6
  have hne6 : g6 ≠ bk := by
    rcases A6 with h | h
    · exact (hold g6 h.symm).1
    · omega
  have hneg : g6 ≠ g := by
    rcases A6 with h | h
    · have := (hold g6 h.symm).2
      omega
    · omega
  have hblk : ∀ q, q < w5.heap.size → q ≠ bk → some q ≠ old.ownBlock → (w6.setCell ⟨bk, 4, none⟩ (.slice (some ⟨g6, 0, none⟩) (m + 1) c6)).heap[q]? = w5.heap[q]? := by
    intro q hq h1 h2
    rw [Below.heap_setCell _ _ _ _ h1, G6.block q (by rw [hsz]; omega) h2, Below.heap_alloc _ _ _ (by simpa using hq), Below.heap_setCell _ _ _ _ h1]
  have hcell : ∀ i, i ≠ 4 → i ≠ 0 → (w6.setCell ⟨bk, 4, none⟩ (.slice (some ⟨g6, 0, none⟩) (m + 1) c6)).cell? ⟨bk, i, none⟩ = w.cell? ⟨bk, i, none⟩ := by
    intro i h1 h0
    rw [World.cell?_setCell_other _ _ _ _ (by intro h'; injection h' with _ h' _; omega), G6.cell_far ⟨bk, i, none⟩ (by rw [hsz]; show bk < _; omega) (fun e => (hold bk e.symm).1 rfl), World.cell?_alloc_lt _ _ _ (by simp; omega), World.cell?_setCell_other _ _ _ _ (by intro h'; injection h' with _ h' _; omega)]
    exact World.cell?_of_block (hb5.block bk hbk)
  refine ⟨g6, c6, g, c5, ?_, World.cell?_setCell_same _ _ _ t6, row_far O6 ?_, row_far O5 ?_, hne6, hneg, A6.imp id (fun h => by omega), fun i hi hi4 => hcell i hi4 hi, fun i => ?_, by simp; omega, ?_, ?_, ?_, fun q hq h1 h2 => ?_⟩
  · rw [World.cell?_setCell_other _ _ _ _ (by intro h'; injection h' with _ h' _; omega), G6.cell_far ⟨bk, 0, none⟩ (by rw [hsz]; show bk < _; omega) (fun e => (hold bk e.symm).1 rfl), World.cell?_alloc_lt _ _ _ (by simp; omega)]
    exact World.cell?_setCell_same _ _ _ t0
  · intro q hq
    injection hq with hq
    have hq : g6 = q := hq
    subst hq
    exact Below.heap_setCell _ _ _ _ hne6
  · intro q hq
    injection hq with hq
    have hq : g = q := hq
    subst hq
    exact hblk g hgl (by omega) (fun e => by have := (hold g e.symm).2; omega)
  · rw [← h5 i]
    have h := page_farF (i := i) G6 (fun q hq => (hold q hq).1) (by omega) rfl
    simpa using h
  · exact (G6.os.trans hb5.os)
  · exact (G6.tape.trans hb5.tape)
  · exact (G6.output.trans hb5.output)
  · rw [hblk q (by omega) h1 (fun e => h2 e.symm)]
    exact hb5.block q hq
end Go.Proofs.YthiiommpeaejaaaGreatDoor
