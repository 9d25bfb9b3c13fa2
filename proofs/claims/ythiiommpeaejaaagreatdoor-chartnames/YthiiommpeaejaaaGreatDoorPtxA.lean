/- A page of the keeper (PageBytes): id (56), fill (57). -/
import Derived.Test.YthiiommpeaejaaaGreatDoorMrkT
namespace Go.Proofs.YthiiommpeaejaaaGreatDoor
open Go Go.ChangeShapes Go.WideShapes Go.ChangeAt Go.RowKit
set_option linter.unusedVariables false
attribute [local go_sem] setCell_drewN alloc_drewN
set_option maxHeartbeats 1000000 in
theorem id_any (bk k : Nat) (hk : k < 1000) (w : World) (h : w.cell? ⟨bk, 0, none⟩ = some (.int .i64 (k : Int))) (hf : w.frozen? ⟨bk, 0, none⟩ = false) : Calls Tryz.prog 27 #[.pointer (some ⟨bk, 0, none⟩)] w fun e w' => e = .returned (.int .i64 ((k : Int) + 1)) ∧ w' = w.setCell ⟨bk, 0, none⟩ (.int .i64 ((k : Int) + 1)) := by
  have h2 : (w.setCell ⟨bk, 0, none⟩ (.int .i64 ((k : Int) + 1))).cell? ⟨bk, 0, none⟩ = some (.int .i64 ((k : Int) + 1)) := World.cell?_setCell_same _ _ _ h
  go_enter Tryz.func27, Tryz.ntmps27
  go_wp2_with fail
  go_ret
  exact ⟨rfl, rfl⟩
/-- the first k bytes are marks -/
def mixN (id : Nat) (f : Nat → ByteArray) (k : Nat) : Nat → ByteArray := fun i => if i < k then mkS id i else f i
/-- a page's list while it is filled: its own block alone is written -/
structure FillAt (w wr : World) (gb n id : Nat) (f : Nat → ByteArray) (k : Nat) : Prop where
  gr : w.grownBy wr (some gb)
  lt : gb < wr.heap.size
  cells : ∀ j, j < n → wr.cell? ⟨gb, j, none⟩ = some (.string (mixN id f k j))
  fz : ∀ j, j < n → wr.frozen? ⟨gb, j, none⟩ = false
  obj : ∀ S, (∃ cur, w.heap[gb]? = some (.cells cur 9 (0, 0)) ∧ cur.size = S) → ∃ cur, wr.heap[gb]? = some (.cells cur 9 (0, 0)) ∧ cur.size = S
theorem obj_set {w : World} {gb k S : Nat} {v : Value} (h : ∃ cur, w.heap[gb]? = some (.cells cur 9 (0, 0)) ∧ cur.size = S) : ∃ cur, (w.setCell ⟨gb, k, none⟩ v).heap[gb]? = some (.cells cur 9 (0, 0)) ∧ cur.size = S := by
  obtain ⟨cur, h1, h2⟩ := h
  refine ⟨cur.setIfInBounds k v, ?_, by simpa using h2⟩
  simp [World.setCell, Array.getElem?_modify, h1]
theorem FillAt.below {w wr w2 : World} {gb n id k : Nat} {f : Nat → ByteArray} (h : FillAt w wr gb n id f k) (hb : Below wr.heap.size wr w2) : FillAt w w2 gb n id f k :=
  ⟨h.gr.trans ⟨hb.os, hb.tape, hb.output, hb.size, fun i hi _ => hb.block i hi⟩, Nat.lt_of_lt_of_le h.lt hb.size, fun j hj => keep1 hb h.lt (h.cells j hj), fun j hj => keepF hb h.lt (h.fz j hj), fun S hS => by rw [hb.block gb h.lt]; exact h.obj S hS⟩
theorem FillAt.step {w wr : World} {gb n id k : Nat} {f : Nat → ByteArray} (h : FillAt w wr gb n id f k) (hk : k < n) : FillAt w (wr.setCell ⟨gb, k, none⟩ (.string (mkS id k))) gb n id f (k + 1) := by
  refine ⟨h.gr.trans ⟨rfl, rfl, rfl, by simp [World.setCell], fun i hi hne => Below.heap_setCell _ _ _ _ (fun e => hne (by rw [e]))⟩, by simpa using h.lt, fun j hj => ?_, fun j hj => by simpa using h.fz j hj, fun S hS => obj_set (h.obj S hS)⟩
  by_cases e : j = k
  · subst e
    rw [World.cell?_setCell_same _ _ _ (h.cells j hj)]
    simp [mixN]
  · rw [World.cell?_setCell_other _ _ _ _ (by intro h'; injection h' with _ h' _; omega), h.cells j hj]
    have : j < k + 1 ↔ j < k := by omega
    simp only [mixN, this]
theorem FillAt.drew {w wr : World} {gb n id k : Nat} {f : Nat → ByteArray} (h : FillAt w wr gb n id f k) : FillAt w wr.drew gb n id f k :=
  ⟨⟨h.gr.os, h.gr.tape, h.gr.output, h.gr.size, h.gr.block⟩, h.lt, h.cells, h.fz, h.obj⟩
set_option maxRecDepth 100000 in
set_option maxHeartbeats 2000000 in
theorem fill_some (pg po gb n cap id : Nat) (f : Nat → ByteArray) (hn : n ≤ 4096) (hid : id < 1000) (w : World) (hne : pg ≠ gb) (hL : w.cell? ⟨pg, po, none⟩ = some (.slice (some ⟨gb, 0, none⟩) n cap)) (hI : w.cell? ⟨pg, po + 3, none⟩ = some (.int .i64 (id : Int))) (hD : ∃ v, w.cell? ⟨pg, po + 4, none⟩ = some v) (hDf : w.frozen? ⟨pg, po + 4, none⟩ = false) (hc : ∀ k, k < n → w.cell? ⟨gb, k, none⟩ = some (.string (f k))) (hfz : ∀ j, j < n → w.frozen? ⟨gb, j, none⟩ = false) (hlt : gb < w.heap.size) (hP : Pw w) (hg3 : gb ≠ 3) :
    Calls Tryz.prog 28 #[.pointer (some ⟨pg, po, none⟩)] w fun e w' => e = .returned (.tuple #[]) ∧ ∃ w1, FillAt w w1 gb n id f n ∧ w' = w1.setCell ⟨pg, po + 4, none⟩ (.bool true) := by
  have HF0 : Hid (FillAt w w gb n id f 0) := ⟨⟨rfl, rfl, rfl, Nat.le_refl _, fun _ _ _ => rfl⟩, hlt, fun j hj => by rw [hc j hj]; simp [mixN], hfz, fun _ h => h⟩
  have hpg : pg < w.heap.size := World.block_lt_of_cell? w ⟨pg, po, none⟩ hL
  have HL := hide hL
  have HI := hide hI
  have HD := hide hD
  have HDF := hide hDf
  have HPW := hide hP
  clear hL hI hD hDf hc hfz hP
  go_enter Tryz.func28, Tryz.ntmps28
  go_wp2_with fail
  go_loopw [2] (fun i wr => ∃ k : Nat, k ≤ n ∧ i = .int .i64 (k : Int) ∧ FillAt w wr gb n id f k) (fun i _ => n - (intOf i).toNat)
  case atStart => exact ⟨0, by omega, rfl, unhide HF0⟩
  case round =>
    obtain ⟨k, hk, rfl, hs⟩ := hrel
    have HS := hide hs
    have l1 : wr.cell? ⟨pg, po, none⟩ = some (.slice (some ⟨gb, 0, none⟩) n cap) := (hs.gr.cell_far ⟨pg, po, none⟩ hpg (by simpa using hne)).trans (unhide HL)
    have l2 : wr.cell? ⟨pg, po + 3, none⟩ = some (.int .i64 (id : Int)) := (hs.gr.cell_far ⟨pg, po + 3, none⟩ hpg (by simpa using hne)).trans (unhide HI)
    clear HF0
    by_cases hlk : k < n
    · have c1 := hs.cells k hlk
      have c2 := hs.fz k hlk
      have hpr : pg < wr.heap.size := Nat.lt_of_lt_of_le hpg hs.gr.size
      have hgr' : gb < wr.heap.size := hs.lt
      have hI1 : (k : Int) < (n : Int) := by omega
      have hI0 : (0 : Int) ≤ (k : Int) := by omega
      have hmk := hide (mark_any id k (by omega) (by omega) wr.drew ((unhide HPW).keep (hs.gr.block 3 (unhide HPW).lt (by simpa using fun e => hg3 e.symm))))
      clear hs
      have hne' : gb ≠ pg := fun e => hne e.symm
      go_wp2_with fail
      go_region_held3 (fun W => W.cell? ⟨pg, po, none⟩ = some (.slice (some ⟨gb, 0, none⟩) n cap) ∧ W.cell? ⟨pg, po + 3, none⟩ = some (.int .i64 (id : Int))) (first | (refine ⟨?_, ?_⟩ <;> with_reducible assumption) | go_keep) ((go_at_call 87; refine (unhide hmk).mono ?_; rintro e w2 ⟨rfl, hg⟩; have hb := hg.below; have q1 := keep1 hb hpr l1; have q2 := keep1 hb hpr l2; have q3 := keep1 hb hgr' c1; have q4 := keepF hb hgr' c2; have B2 := hide hb; clear hg hb))
      all_goals
        go_wp2_with fail
        refine ⟨⟨k + 1, by omega, by go_num, ((unhide HS).drew.below (unhide B2)).step hlk⟩, by simp [intOf]; omega⟩
    · have hkn : k = n := by omega
      subst hkn
      have hI1 : ¬ (k : Int) < (k : Int) := by omega
      obtain ⟨vd, hvd⟩ := unhide HD
      have l3 : wr.cell? ⟨pg, po + 4, none⟩ = some vd := (hs.gr.cell_far ⟨pg, po + 4, none⟩ hpg (by simpa using hne)).trans hvd
      have l4 : wr.frozen? ⟨pg, po + 4, none⟩ = false := (hs.gr.frozen_far ⟨pg, po + 4, none⟩ hpg (by simpa using hne)).trans (unhide HDF)
      clear hs hvd
      go_wp2_with fail
      go_end0
      exact ⟨rfl, wr, unhide HS, rfl⟩
set_option maxHeartbeats 1000000 in
theorem fill_none (pg po : Nat) (w : World) (hL : w.cell? ⟨pg, po, none⟩ = some (.slice none 0 0)) (hD : ∃ v, w.cell? ⟨pg, po + 4, none⟩ = some v) (hDf : w.frozen? ⟨pg, po + 4, none⟩ = false) :
    Calls Tryz.prog 28 #[.pointer (some ⟨pg, po, none⟩)] w fun e w' => e = .returned (.tuple #[]) ∧ w' = w.setCell ⟨pg, po + 4, none⟩ (.bool true) := by
  obtain ⟨vd, hvd⟩ := hD
  go_enter Tryz.func28, Tryz.ntmps28
  go_wp2_with fail
  go_loopw [2] (fun i wr => i = .int .i64 0 ∧ wr = w) (fun i _ => 0)
  case atStart => exact ⟨rfl, rfl⟩
  case round =>
    obtain ⟨rfl, rfl⟩ := hrel
    go_wp2_with fail
    go_end0
    exact ⟨rfl, rfl⟩
/-- a row of one's own that was filled is a row of marks -/
theorem FillAt.own {w w1 : World} {gb n id B cap : Nat} {f : Nat → ByteArray} {xs : List Value} (h : FillAt w w1 gb n id f n) (ho : w.ownsRow B 9 1 (.slice (some ⟨gb, 0, none⟩) n cap) n xs) : w1.ownsRow B 9 1 (.slice (some ⟨gb, 0, none⟩) n cap) n (scells (mkS id) n) := by
  refine ⟨by rw [scells_len]; omega, .inr ?_⟩
  rcases ho.2 with ⟨h1, _⟩ | ⟨g, c, cur, h1, hb, hg, hc1, hc2, hsz, _⟩
  · cases h1
  · injection h1 with h1 _ h2
    injection h1 with h1
    injection h1 with h1 _ _
    subst h1 h2
    obtain ⟨cur', h3, h4⟩ := h.obj _ ⟨cur, hg, hsz⟩
    refine ⟨gb, cap, cur', rfl, hb, h3, hc1, hc2, h4, ?_⟩
    apply List.ext_getElem?
    intro j
    by_cases hj : j < n
    · rw [scells_get _ _ _ hj, List.getElem?_take_of_lt (by omega)]
      have hcell := h.cells j hj
      simp only [mixN, hj, if_true] at hcell
      rw [← hcell]
      simp [World.cell?, h3]
    · rw [List.getElem?_eq_none (by simp; omega), List.getElem?_eq_none (by rw [scells_len]; omega)]
end Go.Proofs.YthiiommpeaejaaaGreatDoor
