/- A page of the keeper: grow (58). -/
import Derived.Test.YthiiommpeaejaaaGreatDoorPtxC
import Derived.Test.YthiiommpeaejaaaGreatDoorPtxB
import Derived.Deep.RegionLaw
namespace Go.Proofs.YthiiommpeaejaaaGreatDoor
open Go Go.ChangeShapes Go.WideShapes Go.ChangeAt Go.RowKit
set_option linter.unusedVariables false
attribute [local go_sem] setCell_drewN alloc_drewN
theorem grow_farW {W w5 : World} {v : Value} {g pg i : Nat} {u : Value} (h : (v.ownBlock = some g ∧ W.grownBy w5 (some g)) ∨ (g = W.heap.size ∧ W.grownBy w5 none)) (hv : ∀ k, v.ownBlock = some k → k ≠ pg) (hp : pg < W.heap.size) (hc : W.cell? ⟨pg, i, none⟩ = some u) : w5.cell? ⟨pg, i, none⟩ = some u := by
  rcases h with ⟨h1, h2⟩ | ⟨_, h2⟩
  · exact (h2.cell_far ⟨pg, i, none⟩ hp (by simpa using Ne.symm (hv g h1))).trans hc
  · exact (h2.cell_far ⟨pg, i, none⟩ hp (by simp)).trans hc
theorem grow_farFW {W w5 : World} {v : Value} {g pg i : Nat} {u : Bool} (h : (v.ownBlock = some g ∧ W.grownBy w5 (some g)) ∨ (g = W.heap.size ∧ W.grownBy w5 none)) (hv : ∀ k, v.ownBlock = some k → k ≠ pg) (hp : pg < W.heap.size) (hc : W.frozen? ⟨pg, i, none⟩ = u) : w5.frozen? ⟨pg, i, none⟩ = u := by
  rcases h with ⟨h1, h2⟩ | ⟨_, h2⟩
  · exact (h2.frozen_far ⟨pg, i, none⟩ hp (by simpa using Ne.symm (hv g h1))).trans hc
  · exact (h2.frozen_far ⟨pg, i, none⟩ hp (by simp)).trans hc
theorem GrowAt.step {w wr W w5 : World} {pg po gb n id B j g c5 : Nat} {v : Value} (h : GrowAt w pg po gb n id B j v wr) (hne : pg ≠ gb) (hpg : pg < w.heap.size) (hgb : 0 < n → gb < w.heap.size) (hb : Below wr.heap.size wr W)
    (h5 : w5.ownsRow B 9 1 (.slice (some ⟨g, 0, none⟩) (n + j + 1) c5) (n + j + 1) (scells (cat (mkS id) n (mkS (id + 100000))) (n + j) ++ [.string (mkS (id + 100000) j)])) (hg : (v.ownBlock = some g ∧ W.grownBy w5 (some g)) ∨ (g = W.heap.size ∧ W.grownBy w5 none)) :
    GrowAt w pg po gb n id B (j + 1) (.slice (some ⟨g, 0, none⟩) (n + j + 1) c5) (w5.setCell ⟨pg, po + 1, none⟩ (.slice (some ⟨g, 0, none⟩) (n + j + 1) c5)) := by
  have hsz := h.size
  have hszW := hb.size
  have hrow : ∃ row : Option Nat, W.grownBy w5 row ∧ (∀ k, k < w.heap.size → k ≠ gb → some k ≠ row) ∧ (g ≠ gb → some gb ≠ row) := by
    rcases hg with ⟨h1, h2⟩ | ⟨h1, h2⟩
    · refine ⟨_, h2, fun k hk hkg e => ?_, fun hgg e => hgg (by injection e with e; exact e.symm)⟩
      injection e with e
      subst e
      rcases h.at' with h' | h'
      · rw [h'] at h1; injection h1 with h1; exact hkg h1.symm
      · have := h' k h1; omega
    · exact ⟨none, h2, fun _ _ _ => by simp, fun _ => by simp⟩
  obtain ⟨row, gr, hr1, hr2⟩ := hrow
  have hgp : g ≠ pg := by
    rcases hg with ⟨h1, _⟩ | ⟨h1, _⟩
    · exact h.ne hne hpg g h1
    · omega
  have hpW : pg < W.heap.size := by omega
  have hcell : ∀ i, w5.cell? ⟨pg, i, none⟩ = wr.cell? ⟨pg, i, none⟩ := fun i => (gr.cell_far ⟨pg, i, none⟩ hpW (hr1 pg hpg hne)).trans (hb.cell (p := ⟨pg, i, none⟩) (by show pg < wr.heap.size; omega))
  have hfro : ∀ i, w5.frozen? ⟨pg, i, none⟩ = wr.frozen? ⟨pg, i, none⟩ := fun i => (gr.frozen_far ⟨pg, i, none⟩ hpW (hr1 pg hpg hne)).trans (hb.frozen (p := ⟨pg, i, none⟩) (by show pg < wr.heap.size; omega))
  have hset : w5.grownBy (w5.setCell ⟨pg, po + 1, none⟩ (.slice (some ⟨g, 0, none⟩) (n + j + 1) c5)) (some pg) := ⟨rfl, rfl, rfl, by simp [World.setCell], fun k hk hne => Below.heap_setCell _ _ _ _ (fun e => hne (by rw [e]))⟩
  have h5' : w5.ownsRow B 9 1 (.slice (some ⟨g, 0, none⟩) (n + j + 1) c5) (n + j + 1) (scells (cat (mkS id) n (mkS (id + 100000))) (n + (j + 1))) := by
    rw [← Nat.add_assoc, scells_succ, cat_ge]
    exact h5
  have hown := h5'.kept hset (.inr (by simp [Value.ownBlock]; exact hgp))
  refine ⟨by have := gr.size; have := hset.size; omega, gr.os.trans (hb.os.trans h.os), gr.tape.trans (hb.tape.trans h.tape), gr.output.trans (hb.output.trans h.output), fun k hk h1 h2 => ?_, fun i hi => ?_, fun i => ?_, World.cell?_setCell_same _ _ _ ((hcell (po + 1)).trans h.g), hown, ?_, fun k hk => ?_, fun t S hS => obj_setT (by rw [gr.block pg hpW (hr1 pg hpg hne), hb.block pg (by omega)]; exact h.pobj t S hS)⟩
  · have hk5 : k < w5.heap.size := by have := gr.size; omega
    rw [hset.block k hk5 (by simpa using h1), gr.block k (by omega) (hr1 k hk h2), hb.block k (by omega)]
    exact h.far k hk h1 h2
  · rw [World.cell?_setCell_other _ _ _ _ (by intro h'; injection h' with _ h' _; exact hi h'.symm), hcell i]
    exact h.page i hi
  · rw [World.frozen?_setCell, hfro i]
    exact h.pagef i
  · rcases hg with ⟨h1, _⟩ | ⟨h1, _⟩
    · rcases h.at' with h' | h'
      · exact .inl (by rw [h'] at h1; injection h1 with h1; simp [Value.ownBlock, h1])
      · exact .inr fun k hk => h' k (by simp [Value.ownBlock] at hk; rw [h1, hk])
    · exact .inr fun k hk => by simp [Value.ownBlock] at hk; omega
  · have hgb' := hgb (by omega)
    by_cases hgg : g = gb
    · subst hgg
      rw [hown.cellAt k (by omega), scells_get _ _ _ (by omega), cat_lt hk]
    · rw [World.cell?_setCell_other _ _ _ _ (by intro h'; injection h' with h' _ _; exact hne h'), gr.cell_far ⟨gb, k, none⟩ (by show gb < W.heap.size; omega) (hr2 hgg), hb.cell (p := ⟨gb, k, none⟩) (by show gb < wr.heap.size; omega)]
      exact h.lst k hk
set_option maxRecDepth 100000 in
set_option maxHeartbeats 8000000 in
theorem grow_some (pg po gb n cap id B : Nat) (hid : id < 1000) (hn : n ≤ 4096) (w : World) (hB : B ≤ w.heap.size) (hne : pg ≠ gb) (hgb : gb < w.heap.size) (hL : w.cell? ⟨pg, po, none⟩ = some (.slice (some ⟨gb, 0, none⟩) n cap)) (hG : ∃ u, w.cell? ⟨pg, po + 1, none⟩ = some u) (hGf : w.frozen? ⟨pg, po + 1, none⟩ = false) (hI : w.cell? ⟨pg, po + 3, none⟩ = some (.int .i64 (id : Int)))
    (hP : Pw w) (h3 : pg ≠ 3 ∧ gb ≠ 3) (hown : w.ownsRow B 9 1 (.slice (some ⟨gb, 0, none⟩) n cap) n (scells (mkS id) n)) :
    Calls Tryz.prog 29 #[.pointer (some ⟨pg, po, none⟩)] w fun e w' => e = .returned (.tuple #[]) ∧ ∃ v, GrowAt w pg po gb n id B 64 v w' := by
  obtain ⟨u, hu⟩ := hG
  obtain ⟨i0, hi, hz0, hz1, hz2⟩ := info_parts info9
  have HI := hide hi; have HZ0 := hide hz0; have HZ1 := hide hz1; have HZ2 := hide hz2
  have hpg : pg < w.heap.size := World.block_lt_of_cell? w ⟨pg, po, none⟩ hL
  have G0 : Hid (GrowAt w pg po gb n id B 0 (.slice (some ⟨gb, 0, none⟩) n cap) (w.setCell ⟨pg, po + 1, none⟩ (.slice (some ⟨gb, 0, none⟩) n cap))) := by
    have hgr : w.grownBy (w.setCell ⟨pg, po + 1, none⟩ (.slice (some ⟨gb, 0, none⟩) n cap)) (some pg) := ⟨rfl, rfl, rfl, by simp [World.setCell], fun k hk hne => Below.heap_setCell _ _ _ _ (fun e => hne (by rw [e]))⟩
    have how : (w.setCell ⟨pg, po + 1, none⟩ (.slice (some ⟨gb, 0, none⟩) n cap)).ownsRow B 9 1 (.slice (some ⟨gb, 0, none⟩) n cap) n (scells (mkS id) n) := hown.kept hgr (.inr (by simp [Value.ownBlock]; exact fun e => hne e.symm))
    refine ⟨hgr.size, rfl, rfl, rfl, fun k hk h1 h2 => hgr.block k hk (by simpa using h1), fun i hi => World.cell?_setCell_other _ _ _ _ (by intro h'; injection h' with _ h' _; exact hi h'.symm), fun i => by simp, World.cell?_setCell_same _ _ _ hu, ?_, .inl rfl, fun k hk => ?_, fun t S hS => obj_setT hS⟩
    · rw [show scells (cat (mkS id) n (mkS (id + 100000))) (n + 0) = scells (mkS id) n from scells_ext n (fun i hi => cat_lt hi)]
      exact how
    · rw [how.cellAt k (by omega)]
      exact scells_get _ _ _ hk
  have HID := hide hI
  have HGF := hide hGf
  have HPW := hide hP
  clear hi hz0 hz1 hz2 hown hP
  go_enter Tryz.func29, Tryz.ntmps29
  go_wp2_with fail
  clear hL hI hu hGf
  go_loopw [2] (fun i wr => ∃ (j : Nat) (v : Value), j ≤ 64 ∧ i = .int .i64 (j : Int) ∧ GrowAt w pg po gb n id B j v wr) (fun i _ => 64 - (intOf i).toNat)
  case atStart => exact ⟨0, _, by omega, rfl, unhide G0⟩
  case round =>
    obtain ⟨j, v, hj, rfl, hs⟩ := hrel
    have HS := hide hs
    clear G0
    by_cases hlt : j < 64
    · have l1 := hs.g
      have l2 : wr.cell? ⟨pg, po + 3, none⟩ = some (.int .i64 (id : Int)) := (hs.page (po + 3) (by omega)).trans (unhide HID)
      have l3 : wr.frozen? ⟨pg, po + 1, none⟩ = false := (hs.pagef (po + 1)).trans (unhide HGF)
      have hI1 : (j : Int) < 64 := by omega
      have hpr : pg < wr.heap.size := Nat.lt_of_lt_of_le hpg hs.size
      have hBr : B ≤ wr.heap.size := Nat.le_trans hB hs.size
      have OWN := hide hs.own
      have hvn := hide (hs.ne hne hpg)
      have hbe := hide (behind_any id hid)
      have hPr := hide ((unhide HPW).keep (hs.far 3 (unhide HPW).lt (fun e => h3.1 e.symm) (fun e => h3.2 e.symm)))
      have hmk := hide (fun (W : World) (hW : W.heap[3]? = wr.heap[3]?) => markB id j hid (by omega) W ((unhide hPr).keep hW))
      clear hs
      go_wp2_with fail
      go_region_law (first
        | (refine step_append_keep _ rfl _ _ rfl B i0 (unhide HI) (unhide HZ0) (unhide HZ1) (unhide HZ2) v (n + j) _ rfl ((unhide OWN2).alloc _) ⟨w2.heap.size, 0, none⟩ 1 1 [.string (mkS (id + 100000) j)] rfl rfl (cell_one_new _ _ _) (one_one _) (by omega) (by omega) (by simp; omega) ?_; intro g c5 w5 hown5 hgr5; have hp5 := unhide hpa (.cells #[.string (mkS (id + 100000) j)] 9); have t5 := grow_farW hgr5 (unhide hvn) hp5 (unhide l1a _); have f5 := grow_farFW hgr5 (unhide hvn) hp5 (unhide l3a _); have O5 := hide hown5; have G5 := hide hgr5; clear hown5 hgr5)
        | (go_simp; go_at_call 88; refine (unhide hbe _).mono ?_; rintro e w2 ⟨rfl, hw⟩; rw [hw]; clear hw w2)
        | (go_simp; go_at_call 87; refine (unhide hmk wr.drew rfl).mono ?_; rintro e w2 ⟨rfl, hg⟩; have hb0 := Grn.below hg; have hb2 : Below wr.heap.size wr w2 := ⟨hb0.os, hb0.tape, hb0.output, hb0.size, hb0.block⟩; have m1 := keep1 hb2 hpr l1; have hp2 : pg < w2.heap.size := Nat.lt_of_lt_of_le hpr hb2.size; have hB2 : B ≤ w2.heap.size := Nat.le_trans hBr hb2.size; have m1a := fun o => (World.cell?_alloc_lt w2 o ⟨pg, po + 1, none⟩ hp2).trans m1; have l1a := hide m1a; have l3a := hide (fun o => show (w2.alloc o).frozen? ⟨pg, po + 1, none⟩ = false from ((bal (Below.refl w2.heap.size w2) o).frozen (p := ⟨pg, po + 1, none⟩) hp2).trans (keepF hb2 hpr l3)); have hpa := hide (fun o => show pg < (w2.alloc o).heap.size from (by rw [World.size_alloc]; omega)); have OWN2 := hide (own_below (unhide OWN) hb2); have B2 := hide hb2; clear hg hb0 hb2))
      all_goals
        go_wp2_with fail
        refine ⟨⟨j + 1, _, by omega, by go_num, (unhide HS).step hne hpg (fun _ => hgb) ((unhide B2).alloc (unhide B2).size _) (unhide O5) (unhide G5)⟩, by simp [intOf]; omega⟩
    · have hj64 : j = 64 := by omega
      subst hj64
      clear hs
      go_wp2_with fail
      go_end0
      exact ⟨rfl, v, unhide HS⟩
set_option maxRecDepth 100000 in
set_option maxHeartbeats 8000000 in
theorem grow_none (pg po id B : Nat) (hid : id < 1000) (w : World) (hB : B ≤ w.heap.size) (hL : w.cell? ⟨pg, po, none⟩ = some (.slice none 0 0)) (hG : ∃ u, w.cell? ⟨pg, po + 1, none⟩ = some u) (hGf : w.frozen? ⟨pg, po + 1, none⟩ = false) (hI : w.cell? ⟨pg, po + 3, none⟩ = some (.int .i64 (id : Int))) (hP : Pw w) (h3 : pg ≠ 3) :
    Calls Tryz.prog 29 #[.pointer (some ⟨pg, po, none⟩)] w fun e w' => e = .returned (.tuple #[]) ∧ ∃ v, GrowAt w pg po w.heap.size 0 id B 64 v w' := by
  obtain ⟨u, hu⟩ := hG
  obtain ⟨i0, hi, hz0, hz1, hz2⟩ := info_parts info9
  have HI := hide hi; have HZ0 := hide hz0; have HZ1 := hide hz1; have HZ2 := hide hz2
  have hpg : pg < w.heap.size := World.block_lt_of_cell? w ⟨pg, po, none⟩ hL
  have hne : pg ≠ w.heap.size := by omega
  have G0 : Hid (GrowAt w pg po w.heap.size 0 id B 0 (.slice none 0 0) (w.setCell ⟨pg, po + 1, none⟩ (.slice none 0 0))) := by
    have hgr : w.grownBy (w.setCell ⟨pg, po + 1, none⟩ (.slice none 0 0)) (some pg) := ⟨rfl, rfl, rfl, by simp [World.setCell], fun k hk hne => Below.heap_setCell _ _ _ _ (fun e => hne (by rw [e]))⟩
    exact ⟨hgr.size, rfl, rfl, rfl, fun k hk h1 h2 => hgr.block k hk (by simpa using h1), fun i hi => World.cell?_setCell_other _ _ _ _ (by intro h'; injection h' with _ h' _; exact hi h'.symm), fun i => by simp, World.cell?_setCell_same _ _ _ hu, World.ownsRow_nil _ _ _ _, .inr fun k hk => by simp [Value.ownBlock] at hk, fun k hk => by omega, fun t S hS => obj_setT hS⟩
  have HID := hide hI
  have HGF := hide hGf
  have HPW := hide hP
  clear hi hz0 hz1 hz2 hP
  go_enter Tryz.func29, Tryz.ntmps29
  go_wp2_with fail
  clear hL hI hu hGf
  go_loopw [2] (fun i wr => ∃ (j : Nat) (v : Value), j ≤ 64 ∧ i = .int .i64 (j : Int) ∧ GrowAt w pg po w.heap.size 0 id B j v wr) (fun i _ => 64 - (intOf i).toNat)
  case atStart => exact ⟨0, _, by omega, rfl, unhide G0⟩
  case round =>
    obtain ⟨j, v, hj, rfl, hs⟩ := hrel
    have HS := hide hs
    clear G0
    by_cases hlt : j < 64
    · have l1 := hs.g
      have l2 : wr.cell? ⟨pg, po + 3, none⟩ = some (.int .i64 (id : Int)) := (hs.page (po + 3) (by omega)).trans (unhide HID)
      have l3 : wr.frozen? ⟨pg, po + 1, none⟩ = false := (hs.pagef (po + 1)).trans (unhide HGF)
      have hI1 : (j : Int) < 64 := by omega
      have hpr : pg < wr.heap.size := Nat.lt_of_lt_of_le hpg hs.size
      have hBr : B ≤ wr.heap.size := Nat.le_trans hB hs.size
      have OWN := hide hs.own
      have hvn := hide (hs.ne hne hpg)
      have hbe := hide (behind_any id hid)
      have hPr := hide ((unhide HPW).keep (hs.far 3 (unhide HPW).lt (fun e => h3 e.symm) (fun e => by have := (unhide HPW).lt; omega)))
      have hmk := hide (fun (W : World) (hW : W.heap[3]? = wr.heap[3]?) => markB id j hid (by omega) W ((unhide hPr).keep hW))
      clear hs
      go_wp2_with fail
      go_region_law (first
        | (refine step_append_keep _ rfl _ _ rfl B i0 (unhide HI) (unhide HZ0) (unhide HZ1) (unhide HZ2) v (0 + j) _ rfl ((unhide OWN2).alloc _) ⟨w2.heap.size, 0, none⟩ 1 1 [.string (mkS (id + 100000) j)] rfl rfl (cell_one_new _ _ _) (one_one _) (by omega) (by omega) (by simp; omega) ?_; intro g c5 w5 hown5 hgr5; have hp5 := unhide hpa (.cells #[.string (mkS (id + 100000) j)] 9); have t5 := grow_farW hgr5 (unhide hvn) hp5 (unhide l1a _); have f5 := grow_farFW hgr5 (unhide hvn) hp5 (unhide l3a _); have O5 := hide hown5; have G5 := hide hgr5; clear hown5 hgr5)
        | (go_simp; go_at_call 88; refine (unhide hbe _).mono ?_; rintro e w2 ⟨rfl, hw⟩; rw [hw]; clear hw w2)
        | (go_simp; go_at_call 87; refine (unhide hmk wr.drew rfl).mono ?_; rintro e w2 ⟨rfl, hg⟩; have hb0 := Grn.below hg; have hb2 : Below wr.heap.size wr w2 := ⟨hb0.os, hb0.tape, hb0.output, hb0.size, hb0.block⟩; have m1 := keep1 hb2 hpr l1; have hp2 : pg < w2.heap.size := Nat.lt_of_lt_of_le hpr hb2.size; have hB2 : B ≤ w2.heap.size := Nat.le_trans hBr hb2.size; have m1a := fun o => (World.cell?_alloc_lt w2 o ⟨pg, po + 1, none⟩ hp2).trans m1; have l1a := hide m1a; have l3a := hide (fun o => show (w2.alloc o).frozen? ⟨pg, po + 1, none⟩ = false from ((bal (Below.refl w2.heap.size w2) o).frozen (p := ⟨pg, po + 1, none⟩) hp2).trans (keepF hb2 hpr l3)); have hpa := hide (fun o => show pg < (w2.alloc o).heap.size from (by rw [World.size_alloc]; omega)); have OWN2 := hide (own_below (unhide OWN) hb2); have B2 := hide hb2; clear hg hb0 hb2))
      all_goals
        go_wp2_with fail
        have hst := (unhide HS).step hne hpg (fun h => absurd h (Nat.lt_irrefl 0)) ((unhide B2).alloc (unhide B2).size _) (unhide O5) (unhide G5)
        simp only [Nat.zero_add] at hst
        refine ⟨⟨j + 1, _, by omega, by go_num, hst⟩, by simp [intOf]; omega⟩
    · have hj64 : j = 64 := by omega
      subst hj64
      clear hs
      go_wp2_with fail
      go_end0
      exact ⟨rfl, v, unhide HS⟩
end Go.Proofs.YthiiommpeaejaaaGreatDoor
