/- A page of the keeper while it is grown (58): what holds; its walk is not yet done. -/
import Derived.Test.YthiiommpeaejaaaGreatDoorApkT
namespace Go.Proofs.YthiiommpeaejaaaGreatDoor
open Go Go.ChangeShapes Go.WideShapes Go.ChangeAt Go.RowKit
set_option linter.unusedVariables false
attribute [local go_sem] setCell_drewN alloc_drewN
/-- while a page's list is grown: the page's second cell, the list's own block, and new blocks are written, nothing else -/
structure GrowAt (w : World) (pg po gb n id B : Nat) (j : Nat) (v : Value) (wr : World) : Prop where
  size : w.heap.size ≤ wr.heap.size
  os : wr.os = w.os
  tape : wr.tape = w.tape
  output : wr.output = w.output
  far : ∀ k, k < w.heap.size → k ≠ pg → k ≠ gb → wr.heap[k]? = w.heap[k]?
  page : ∀ i, i ≠ po + 1 → wr.cell? ⟨pg, i, none⟩ = w.cell? ⟨pg, i, none⟩
  pagef : ∀ i, wr.frozen? ⟨pg, i, none⟩ = w.frozen? ⟨pg, i, none⟩
  g : wr.cell? ⟨pg, po + 1, none⟩ = some v
  own : wr.ownsRow B 9 1 v (n + j) (scells (cat (mkS id) n (mkS (id + 100000))) (n + j))
  at' : v.ownBlock = some gb ∨ ∀ k, v.ownBlock = some k → w.heap.size ≤ k
  lst : ∀ k, k < n → wr.cell? ⟨gb, k, none⟩ = some (.string (mkS id k))
  pobj : ∀ t S, (∃ cur, w.heap[pg]? = some (.cells cur t (0, 0)) ∧ cur.size = S) → ∃ cur, wr.heap[pg]? = some (.cells cur t (0, 0)) ∧ cur.size = S
theorem obj_setT {w : World} {gb k S : Nat} {t : TypeId} {v : Value} (h : ∃ cur, w.heap[gb]? = some (.cells cur t (0, 0)) ∧ cur.size = S) : ∃ cur, (w.setCell ⟨gb, k, none⟩ v).heap[gb]? = some (.cells cur t (0, 0)) ∧ cur.size = S := by
  obtain ⟨cur, h1, h2⟩ := h
  refine ⟨cur.setIfInBounds k v, ?_, by simpa using h2⟩
  simp [World.setCell, Array.getElem?_modify, h1]
theorem GrowAt.ne {w wr : World} {pg po gb n id B j : Nat} {v : Value} (h : GrowAt w pg po gb n id B j v wr) (hne : pg ≠ gb) (hpg : pg < w.heap.size) : ∀ k, v.ownBlock = some k → k ≠ pg := by
  intro k hk e
  rcases h.at' with h' | h'
  · rw [h'] at hk
    injection hk with hk
    omega
  · have := h' k hk
    omega
theorem grow_far {wr w5 : World} {o : Obj} {v : Value} {g pg i : Nat} {u : Value} (h : (v.ownBlock = some g ∧ (wr.alloc o).grownBy w5 (some g)) ∨ (g = (wr.alloc o).heap.size ∧ (wr.alloc o).grownBy w5 none)) (hv : ∀ k, v.ownBlock = some k → k ≠ pg) (hp : pg < wr.heap.size) (hc : wr.cell? ⟨pg, i, none⟩ = some u) : w5.cell? ⟨pg, i, none⟩ = some u := by
  have hp' : pg < (wr.alloc o).heap.size := by rw [World.size_alloc]; omega
  have h0 := (World.cell?_alloc_lt wr o ⟨pg, i, none⟩ hp).trans hc
  rcases h with ⟨h1, h2⟩ | ⟨_, h2⟩
  · exact (h2.cell_far ⟨pg, i, none⟩ hp' (by simpa using Ne.symm (hv g h1))).trans h0
  · exact (h2.cell_far ⟨pg, i, none⟩ hp' (by simp)).trans h0
theorem grow_farF {wr w5 : World} {o : Obj} {v : Value} {g pg i : Nat} {u : Bool} (h : (v.ownBlock = some g ∧ (wr.alloc o).grownBy w5 (some g)) ∨ (g = (wr.alloc o).heap.size ∧ (wr.alloc o).grownBy w5 none)) (hv : ∀ k, v.ownBlock = some k → k ≠ pg) (hp : pg < wr.heap.size) (hc : wr.frozen? ⟨pg, i, none⟩ = u) : w5.frozen? ⟨pg, i, none⟩ = u := by
  have hp' : pg < (wr.alloc o).heap.size := by rw [World.size_alloc]; omega
  have hb : Below wr.heap.size wr (wr.alloc o) := bal (Below.refl _ _) o
  have h0 := (hb.frozen (p := ⟨pg, i, none⟩) hp).trans hc
  rcases h with ⟨h1, h2⟩ | ⟨_, h2⟩
  · exact (h2.frozen_far ⟨pg, i, none⟩ hp' (by simpa using Ne.symm (hv g h1))).trans h0
  · exact (h2.frozen_far ⟨pg, i, none⟩ hp' (by simp)).trans h0
theorem GrowAt.start {w : World} {pg po gb n cap id B : Nat} {u : Value} (hne : pg ≠ gb) (hu : w.cell? ⟨pg, po + 1, none⟩ = some u) (hown : w.ownsRow B 9 1 (.slice (some ⟨gb, 0, none⟩) n cap) n (scells (mkS id) n)) : GrowAt w pg po gb n id B 0 (.slice (some ⟨gb, 0, none⟩) n cap) (w.setCell ⟨pg, po + 1, none⟩ (.slice (some ⟨gb, 0, none⟩) n cap)) := by
  have hgr : w.grownBy (w.setCell ⟨pg, po + 1, none⟩ (.slice (some ⟨gb, 0, none⟩) n cap)) (some pg) := ⟨rfl, rfl, rfl, by simp [World.setCell], fun k hk hne => Below.heap_setCell _ _ _ _ (fun e => hne (by rw [e]))⟩
  have how : (w.setCell ⟨pg, po + 1, none⟩ (.slice (some ⟨gb, 0, none⟩) n cap)).ownsRow B 9 1 (.slice (some ⟨gb, 0, none⟩) n cap) n (scells (mkS id) n) := hown.kept hgr (.inr (by simp [Value.ownBlock]; exact fun e => hne e.symm))
  refine ⟨hgr.size, rfl, rfl, rfl, fun k hk h1 h2 => hgr.block k hk (by simpa using h1), fun i hi => World.cell?_setCell_other _ _ _ _ (by intro h'; injection h' with _ h' _; exact hi h'.symm), fun i => by simp, World.cell?_setCell_same _ _ _ hu, ?_, .inl rfl, fun k hk => ?_, fun t S hS => obj_setT hS⟩
  · rw [show scells (cat (mkS id) n (mkS (id + 100000))) (n + 0) = scells (mkS id) n from scells_ext n (fun i hi => cat_lt hi)]
    exact how
  · rw [how.cellAt k (by omega)]
    exact scells_get _ _ _ hk
end Go.Proofs.YthiiommpeaejaaaGreatDoor
