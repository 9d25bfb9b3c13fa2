/- rows appended to rows that a call owns. -/
import Derived.Test.YtgohddimnphbkaaDoorFrC
namespace Go.Proofs.YtgohddimnphbkaaDoor
open Go Go.RowKit Go.Shelf Go.ChangeShapes Go.WideShapes Go.ChangeAt Go.Maps Go.Sort
set_option linter.unusedVariables false
theorem news_rows {W : World} {ad : Addr} {R : List Ro} (hu : RowsIn W (some ad) R) : ∀ j u, (flatR R)[j]? = some u → W.cell? (ad.add j) = some u := fun j u hj => by
  have hjl : j < R.length * 9 := by
    have := (List.getElem?_eq_some_iff.1 hj).1
    rwa [flatR_len] at this
  have hk : j / 9 < R.length := by omega
  obtain ⟨b, off, e, hlt, hr⟩ := hu.2 (j / 9) hk
  have e' : ad = ⟨b, off, none⟩ := Option.some.inj e
  subst e'
  have e9 : j = j / 9 * 9 + j % 9 := by omega
  rw [Addr.add_mid]
  have h3 := flatR_get R (j / 9) hk (j % 9) (by omega)
  rw [← e9, hj] at h3
  have h4 := hr (j % 9) u h3.symm
  rw [show off + j = off + j / 9 * 9 + j % 9 from by omega]
  exact h4
set_option maxRecDepth 100000 in
theorem run_append_more {W : World} {B : Nat} {v : Value} {R S : List Ro} {n : Nat} (ty : TypeId) (h : W.ownsRow B 35 9 v n (flatR R)) (hB : B ≤ W.heap.size) (pu : Option Addr) (cu : Nat) (hcu : pu = none → cu = 0) (hu : RowsIn W pu S) (hl : n + S.length ≤ 16777216) :
    ∃ v' w', (Builtin.append_ #[22, 22] ty #[v, .slice pu S.length cu]).run Tryd.prog W = .ok v' w' ∧ w'.ownsRow B 35 9 v' (n + S.length) (flatR (R ++ S)) ∧ Below B W w' ∧ (∀ k, k < W.heap.size → v.ownBlock ≠ some k → w'.heap[k]? = W.heap[k]?) := by
  obtain ⟨i, hi, hz, hsize, hby⟩ := info_parts info35
  cases pu with
  | none =>
    have hR := hu.1 rfl
    subst hR
    rw [hcu rfl]
    have hr := run_append_owned_none (P := Tryd.prog) (w := W) B 22 ty 35 i 9 Tryd.underlying22 hi v n (flatR R) h
    exact ⟨v, W, hr, by rw [List.append_nil]; exact h, Below.refl _ _, fun _ _ _ => rfl⟩
  | some ad =>
    obtain ⟨v', w', hr, ho, hg, hnil, hat⟩ := run_append_own_at (P := Tryd.prog) W B 22 ty 35 i _ 9 104 Tryd.underlying22 hi hz hsize hby rfl (by decide) v n (flatR R) h ad S.length cu (flatR S) (flatR_len S) (news_rows hu) (flatR_one_cell S) (by unfold maxLen; omega) (by omega) hB
    rw [← flatR_append] at ho
    refine ⟨v', w', hr, ho, ⟨hg.os, hg.tape, hg.output, hg.size, fun q hq => hg.block q (Nat.lt_of_lt_of_le hq hB) (fun e => ?_)⟩, fun k hk hne => hg.block k hk (fun e => hne e.symm)⟩
    have := (row_block h e.symm).1
    omega
/-- a part of rows that a call owns, as rows that come in -/
theorem part_in {W : World} {g B c n : Nat} {R : List Ro} (hn : R.length = n) (h : W.ownsRow B 35 9 (.slice (some ⟨g, 0, none⟩) n c) n (flatR R)) (a m : Nat) (ham : a + m ≤ n) : RowsIn W (some ⟨g, a * 9, none⟩) ((R.drop a).take m) := by
  obtain ⟨p, c', e, hR, _⟩ := own_rows hn h
  have hp : p = some ⟨g, 0, none⟩ := by
    injection e with e
    exact e.symm
  subst hp
  refine ⟨(fun h => by cases h), fun k hk => ?_⟩
  have hk' : k < m := by rw [List.length_take] at hk; omega
  have hak : a + k < R.length := by omega
  obtain ⟨g', e', hlt, hr⟩ := hR (a + k) hak
  have e2 : g' = g := by
    injection e' with e'
    injection e' with e'
    exact e'.symm
  subst e2
  refine ⟨g', a * 9, rfl, hlt, ?_⟩
  rw [List.getElem_take, List.getElem_drop, show a * 9 + k * 9 = (a + k) * 9 from by omega]
  exact hr
end Go.Proofs.YtgohddimnphbkaaDoor
