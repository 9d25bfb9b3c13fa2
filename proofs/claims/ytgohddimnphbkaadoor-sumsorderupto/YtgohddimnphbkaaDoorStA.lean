/- sums: State (9). -/
import Derived.Test.YtgohddimnphbkaaDoorRsA
import Derived.Test.YtgohddimnphbkaaDoorApB
import Derived.Maps.OwnIn
namespace Go.Proofs.YtgohddimnphbkaaDoor
open Go Go.RowKit Go.Shelf Go.ChangeShapes Go.WideShapes Go.ChangeAt Go.Maps Go.Sort
set_option linter.unusedVariables false
attribute [local go_sem] Oper.semAt_some
theorem srt_len (l : List (List UInt8)) : (srt l).length = l.length := List.length_mergeSort _
theorem srt_mem {l : List (List UInt8)} {k : List UInt8} : k ∈ srt l ↔ k ∈ l := List.mem_mergeSort
theorem srt_perm (l : List (List UInt8)) : (srt l).Perm l := List.mergeSort_perm _ _
theorem srt_eq {a b : List (List UInt8)} (ha : a.Nodup) (hb : b.Nodup) (h : ∀ k, k ∈ a ↔ k ∈ b) : srt a = srt b := mergeSort_of_perm ((List.perm_ext_iff_of_nodup ha hb).2 h)
/-- a name as a row that counts 1 -/
def roK (k : List UInt8) : Ro := ⟨0, 0, 0, 0, ⟨#[]⟩, ⟨k.toArray⟩, 1, ⟨#[]⟩, ⟨#[]⟩⟩
/-- the counts' adder in memory: its block hb, its map -/
structure HAt (W : World) (hb : Nat) (mo : Option Nat) (n : Nat) (f : List UInt8 → Int) : Prop where
  c0 : W.cell? ⟨hb, 0, none⟩ = some (.map mo)
  fz : W.frozen? ⟨hb, 0, none⟩ = false
  map : MapAt 3 W mo n f
  d0 : ∀ b, mo = some b → hb < b
theorem HAt.block {W W' : World} {hb : Nat} {mo : Option Nat} {n : Nat} {f : List UInt8 → Int} (h : HAt W hb mo n f) (e : ∀ k, k = hb ∨ mo = some k → W'.heap[k]? = W.heap[k]?) : HAt W' hb mo n f :=
  ⟨(World.cell?_of_block (a := ⟨hb, 0, none⟩) (e hb (.inl rfl))).trans h.c0, (World.frozen?_of_block (a := ⟨hb, 0, none⟩) (e hb (.inl rfl))).trans h.fz, h.map.block (fun b hb' => e b (.inr hb')), h.d0⟩
theorem HAt.lt {W : World} {hb : Nat} {mo : Option Nat} {n : Nat} {f : List UInt8 → Int} (h : HAt W hb mo n f) : ∀ k, k = hb ∨ mo = some k → k < W.heap.size := by
  rintro k (rfl | rfl)
  · exact World.block_lt_of_cell? W _ h.c0
  · exact h.map.lt
theorem HAt.not_lpy {W : World} {hb : Nat} {mo : Option Nat} {n : Nat} {f : List UInt8 → Int} (h : HAt W hb mo n f) {q : Nat} {o : Obj} (ho : W.heap[q]? = some o) (hl : lpy o = true) : ¬ (q = hb ∨ mo = some q) := by
  rintro (rfl | rfl)
  · have hc := h.c0
    unfold World.cell? at hc
    simp only [ho] at hc
    cases o <;> simp_all [lpy]
  · obtain ⟨es, clock, e⟩ := h.map.obj
    rw [e] at ho
    cases ho
    simp [lpy] at hl
/-- since the adder was laid: nothing older has changed, nor a row of cells beside it -/
def Ha (w0 : World) (hb : Nat) (n : Nat) (f : List UInt8 → Int) (v : Value) (ks : List (List UInt8)) (W : World) : Prop :=
  ∃ mo, HAt W hb mo n f ∧ Below hb w0 W ∧ W.ownsRow (hb + 1) 9 1 v ks.length (ks.map encStr)
theorem row_block {W : World} {B g e s n : Nat} {v : Value} {xs : List Value} (h : W.ownsRow B e s v n xs) (hg : v.ownBlock = some g) : B ≤ g ∧ g < W.heap.size ∧ ∃ o, W.heap[g]? = some o ∧ o.isCells = true := by
  rcases h.2 with ⟨e, _⟩ | ⟨g', c, xs, e, hB, hh, _⟩
  · rw [e] at hg; cases hg
  · rw [e] at hg
    have e2 : g' = g := by injection hg
    subst e2
    exact ⟨hB, (Array.getElem?_eq_some_iff.1 hh).1, _, hh, rfl⟩
theorem row_keep {W W' : World} {B e s n : Nat} {v : Value} {xs : List Value} (h : W.ownsRow B e s v n xs) (hk : ∀ g, v.ownBlock = some g → W'.heap[g]? = W.heap[g]?) : W'.ownsRow B e s v n xs := by
  refine ⟨h.1, ?_⟩
  rcases h.2 with h1 | ⟨g, cap, cur, rfl, hb, hh, rest⟩
  · exact .inl h1
  · exact .inr ⟨g, cap, cur, rfl, hb, (hk g rfl).trans hh, rest⟩
section
variable {w0 W W' : World} {hb n : Nat} {f : List UInt8 → Int} {v : Value} {ks : List (List UInt8)}
theorem Ha.turn (h : Ha w0 hb n f v ks W) {row : Option Nat} (hg : W.grownBy W' row) (hr : ∀ r, row = some r → hb ≤ r ∧ ∃ o, W.heap[r]? = some o ∧ lpy o = true) : Ha w0 hb n f v ks W' := by
  obtain ⟨mo, h1, h2, h3⟩ := h
  refine ⟨mo, h1.block (fun k hk => hg.block k (h1.lt k hk) (fun e => ?_)), h2.trans ⟨hg.os, hg.tape, hg.output, hg.size, fun k hk => hg.block k (Nat.lt_of_lt_of_le hk (by have := h1.lt hb (.inl rfl); omega)) (fun e => ?_)⟩, row_keep h3 (fun g hg' => hg.block g (row_block h3 hg').2.1 (fun e => ?_))⟩
  · obtain ⟨_, o, ho, hl⟩ := hr k e.symm
    exact h1.not_lpy ho hl hk
  · obtain ⟨h4, _⟩ := hr k e.symm
    omega
  · obtain ⟨_, o, ho, hl⟩ := hr g e.symm
    obtain ⟨_, _, o', ho', hc⟩ := row_block h3 hg'
    rw [ho] at ho'
    cases ho'
    cases o <;> simp_all [lpy, Obj.isCells]
theorem Ha.below (h : Ha w0 hb n f v ks W) (hB : Below W.heap.size W W') : Ha w0 hb n f v ks W' := h.turn (grown_of_below hB) (fun r e => by cases e)
theorem Ha.mono (h : Ha w0 hb n f v ks W) {n' : Nat} (hn : n ≤ n') : Ha w0 hb n' f v ks W := by
  obtain ⟨mo, h1, h2⟩ := h
  exact ⟨mo, ⟨h1.c0, h1.fz, h1.map.mono hn, h1.d0⟩, h2⟩
theorem Ha.add (h : Ha w0 hb n f v ks W) (hn : n < maxLen) {s : ByteArray} (hs : s.size ≤ maxLen) (x : Int) :
    Calls Tryd.prog 24 #[.pointer (some ⟨hb, 0, none⟩), .string s, .int .i64 x] W fun e W' => (∃ r, e = .returned r) ∧ Ha w0 hb (n + 1) (upd f s.data.toList (IntKind.i64.wrap (f s.data.toList + x))) v ks W' ∧ KeepsL W W' := by
  obtain ⟨mo, h1, h2, h3⟩ := h
  refine (addI_any s hs x hb 0 n hn mo f W h1.c0 h1.fz h1.map (fun b e => Nat.ne_of_lt (h1.d0 b e))).mono ?_
  rintro e W' ⟨b', ho⟩
  have hlt := h1.lt
  refine ⟨ho.ret, ⟨some b', ⟨ho.cell, (ho.frozen 0).trans h1.fz, ho.map, fun b e => ?_⟩, h2.trans ⟨ho.os, ho.tape, ho.output, ho.size, fun k hk => ho.old k (Nat.lt_trans hk (hlt hb (.inl rfl))) (fun e => ?_) (fun _ e => by omega)⟩, row_keep h3 (fun g hg => ?_)⟩, ho.size, fun k o hk hl => ?_⟩
  · cases e
    rcases ho.what with e | ⟨_, e⟩
    · exact h1.d0 b' e
    · have := hlt hb (.inl rfl); omega
  · have := h1.d0 k e.symm; omega
  · obtain ⟨hg1, hg2, o, ho', hc⟩ := row_block h3 hg
    refine ho.old g hg2 (fun e => ?_) (fun _ e => by omega)
    subst e
    obtain ⟨es, clock, e⟩ := h1.map.obj
    rw [e] at ho'
    cases ho'
    cases hc
  · refine (ho.old k (Array.getElem?_eq_some_iff.1 hk).1 (fun e => h1.not_lpy hk hl (.inr e.symm)) (fun _ e => h1.not_lpy hk hl (.inl e))).trans hk
end
end Go.Proofs.YtgohddimnphbkaaDoor
