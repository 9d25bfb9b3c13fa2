/- A page of the keeper: grow (58). -/
import Derived.Test.YtpeebhddpmggdaaGreatDoorPagC
import Derived.Deep.RegionLaw
namespace Go.Proofs.YtpeebhddpmggdaaGreatDoor
open Go Go.ChangeShapes Go.WideShapes Go.ChangeAt Go.RowKit
set_option linter.unusedVariables false
attribute [local go_sem] setCell_drewN alloc_drewN
theorem grow_farW {W w5 : World} {v : Value} {g pg i : Nat} {u : Value} (h : (v.ownBlock = some g ∧ W.grownBy w5 (some g)) ∨ (g = W.heap.size ∧ W.grownBy w5 none)) (hv : ∀ k, v.ownBlock = some k → k ≠ pg) (hp : pg < W.heap.size) (hc : W.cell? ⟨pg, i, none⟩ = some u) : w5.cell? ⟨pg, i, none⟩ = some u := by
  rcases h with ⟨h1, h2⟩ | ⟨_, h2⟩
  · exact (h2.cell_far ⟨pg, i, none⟩ hp (by simpa using Ne.symm (hv g h1))).trans hc
  · exact (h2.cell_far ⟨pg, i, none⟩ hp (by simp)).trans hc
theorem grow_farFW {W w5 : World} {v : Value} {g pg i : Nat} {u : Bool} (h : (v.ownBlock = some g ∧ W.grownBy w5 (some g)) ∨ (g = W.heap.size ∧ W.grownBy w5 none)) (hv : ∀ k, v.ownBlock = some k → k ≠ pg) (hp : pg < W.heap.size) (hc : W.frozen? ⟨pg, i, none⟩ = u) : w5.frozen? ⟨pg, i, none⟩ = u := by
  rcases h with ⟨h1, h2⟩ | ⟨_, h2⟩
  · exact (h2.frozen_far ⟨pg, i, none⟩ hp (by simpa using Ne.symm (hv g h1))).trans hc
  · exact (h2.frozen_far ⟨pg, i, none⟩ hp (by simp)).trans hc
theorem GrowAt.step {w wr W w5 : World} {pg po gb n id B j g c5 : Nat} {v : Value} (h : GrowAt w pg po gb n id B j v wr) (hne : pg ≠ gb) (hpg : pg < w.heap.size) (hgb : 0 < n → gb < w.heap.size) (hb : Below wr.heap.size wr W)
    (h5 : w5.ownsRow B 5 1 (.slice (some ⟨g, 0, none⟩) (n + j + 1) c5) (n + j + 1) (bcells (cat (patN id) n (patN (id + 100000))) (n + j) ++ [.int .u8 (patN (id + 100000) j : Int)])) (hg : (v.ownBlock = some g ∧ W.grownBy w5 (some g)) ∨ (g = W.heap.size ∧ W.grownBy w5 none)) :
    GrowAt w pg po gb n id B (j + 1) (.slice (some ⟨g, 0, none⟩) (n + j + 1) c5) (w5.setCell ⟨pg, po + 1, none⟩ (.slice (some ⟨g, 0, none⟩) (n + j + 1) c5)) := by
  have hsz := h.size
  have hszW := hb.size
  have hrow : ∃ row : Option Nat, W.grownBy w5 row ∧ (∀ k, k < w.heap.size → k ≠ gb → some k ≠ row) ∧ (g ≠ gb → some gb ≠ row) := by
    rcases hg with ⟨h1, h2⟩ | ⟨h1, h2⟩
    · refine ⟨_, h2, fun k hk hkg e => ?_, fun hgg e => hgg (by injection e with e; exact e.symm)⟩
      injection e with e
      subst e
      rcases h.at' with h' | h'
      · rw [h'] at h1; injection h1 with h1; exact hkg h1.symm
      · have := h' k h1; omega
    · exact ⟨none, h2, fun _ _ _ => by simp, fun _ => by simp⟩
  obtain ⟨row, gr, hr1, hr2⟩ := hrow
  have hgp : g ≠ pg := by
    rcases hg with ⟨h1, _⟩ | ⟨h1, _⟩
    · exact h.ne hne hpg g h1
    · omega
  have hpW : pg < W.heap.size := by omega
  have hcell : ∀ i, w5.cell? ⟨pg, i, none⟩ = wr.cell? ⟨pg, i, none⟩ := fun i => (gr.cell_far ⟨pg, i, none⟩ hpW (hr1 pg hpg hne)).trans (hb.cell (p := ⟨pg, i, none⟩) (by show pg < wr.heap.size; omega))
  have hfro : ∀ i, w5.frozen? ⟨pg, i, none⟩ = wr.frozen? ⟨pg, i, none⟩ := fun i => (gr.frozen_far ⟨pg, i, none⟩ hpW (hr1 pg hpg hne)).trans (hb.frozen (p := ⟨pg, i, none⟩) (by show pg < wr.heap.size; omega))
  have hset : w5.grownBy (w5.setCell ⟨pg, po + 1, none⟩ (.slice (some ⟨g, 0, none⟩) (n + j + 1) c5)) (some pg) := ⟨rfl, rfl, rfl, by simp [World.setCell], fun k hk hne => Below.heap_setCell _ _ _ _ (fun e => hne (by rw [e]))⟩
  have h5' : w5.ownsRow B 5 1 (.slice (some ⟨g, 0, none⟩) (n + j + 1) c5) (n + j + 1) (bcells (cat (patN id) n (patN (id + 100000))) (n + (j + 1))) := by
    rw [← Nat.add_assoc, bcells_succ, cat_ge]
    exact h5
  have hown := h5'.kept hset (.inr (by simp [Value.ownBlock]; exact hgp))
  refine ⟨by have := gr.size; have := hset.size; omega, gr.os.trans (hb.os.trans h.os), gr.tape.trans (hb.tape.trans h.tape), gr.output.trans (hb.output.trans h.output), fun k hk h1 h2 => ?_, fun i hi => ?_, fun i => ?_, World.cell?_setCell_same _ _ _ ((hcell (po + 1)).trans h.g), hown, ?_, fun k hk => ?_, fun t S hS => obj_setT (by rw [gr.block pg hpW (hr1 pg hpg hne), hb.block pg (by omega)]; exact h.pobj t S hS)⟩
  · have hk5 : k < w5.heap.size := by have := gr.size; omega
    rw [hset.block k hk5 (by simpa using h1), gr.block k (by omega) (hr1 k hk h2), hb.block k (by omega)]
    exact h.far k hk h1 h2
  · rw [World.cell?_setCell_other _ _ _ _ (by intro h'; injection h' with _ h' _; exact hi h'.symm), hcell i]
    exact h.page i hi
  · rw [World.frozen?_setCell, hfro i]
    exact h.pagef i
  · rcases hg with ⟨h1, _⟩ | ⟨h1, _⟩
    · rcases h.at' with h' | h'
      · exact .inl (by rw [h'] at h1; injection h1 with h1; simp [Value.ownBlock, h1])
      · exact .inr fun k hk => h' k (by simp [Value.ownBlock] at hk; rw [h1, hk])
    · exact .inr fun k hk => by simp [Value.ownBlock] at hk; omega
  · have hgb' := hgb (by omega)
    by_cases hgg : g = gb
    · subst hgg
      rw [hown.cellAt k (by omega), bcells_get _ _ _ (by omega), cat_lt hk]
    · rw [World.cell?_setCell_other _ _ _ _ (by intro h'; injection h' with h' _ _; exact hne h'), gr.cell_far ⟨gb, k, none⟩ (by show gb < W.heap.size; omega) (hr2 hgg), hb.cell (p := ⟨gb, k, none⟩) (by show gb < wr.heap.size; omega)]
      exact h.lst k hk
set_option maxRecDepth 100000 in
set_option maxHeartbeats 8000000 in
theorem grow_some (pg po gb n cap id B : Nat) (hid : id < 1000) (hn : n ≤ 4096) (w : World) (hB : B ≤ w.heap.size) (hne : pg ≠ gb) (hgb : gb < w.heap.size) (hL : w.cell? ⟨pg, po, none⟩ = some (.slice (some ⟨gb, 0, none⟩) n cap)) (hG : ∃ u, w.cell? ⟨pg, po + 1, none⟩ = some u) (hGf : w.frozen? ⟨pg, po + 1, none⟩ = false) (hI : w.cell? ⟨pg, po + 3, none⟩ = some (.int .i64 (id : Int)))
    (hown : w.ownsRow B 5 1 (.slice (some ⟨gb, 0, none⟩) n cap) n (bcells (patN id) n)) :
    Calls Tryz.prog 58 #[.pointer (some ⟨pg, po, none⟩)] w fun e w' => e = .returned (.tuple #[]) ∧ ∃ v, GrowAt w pg po gb n id B 64 v w' := by
  obtain ⟨u, hu⟩ := hG
  obtain ⟨i0, hi, hz0, hz1, hz2⟩ := info_parts info5
  have HI := hide hi; have HZ0 := hide hz0; have HZ1 := hide hz1; have HZ2 := hide hz2
  have hpg : pg < w.heap.size := World.block_lt_of_cell? w ⟨pg, po, none⟩ hL
  have G0 : Hid (GrowAt w pg po gb n id B 0 (.slice (some ⟨gb, 0, none⟩) n cap) (w.setCell ⟨pg, po + 1, none⟩ (.slice (some ⟨gb, 0, none⟩) n cap))) := by
    have hgr : w.grownBy (w.setCell ⟨pg, po + 1, none⟩ (.slice (some ⟨gb, 0, none⟩) n cap)) (some pg) := ⟨rfl, rfl, rfl, by simp [World.setCell], fun k hk hne => Below.heap_setCell _ _ _ _ (fun e => hne (by rw [e]))⟩
    have how : (w.setCell ⟨pg, po + 1, none⟩ (.slice (some ⟨gb, 0, none⟩) n cap)).ownsRow B 5 1 (.slice (some ⟨gb, 0, none⟩) n cap) n (bcells (patN id) n) := hown.kept hgr (.inr (by simp [Value.ownBlock]; exact fun e => hne e.symm))
    refine ⟨hgr.size, rfl, rfl, rfl, fun k hk h1 h2 => hgr.block k hk (by simpa using h1), fun i hi => World.cell?_setCell_other _ _ _ _ (by intro h'; injection h' with _ h' _; exact hi h'.symm), fun i => by simp, World.cell?_setCell_same _ _ _ hu, ?_, .inl rfl, fun k hk => ?_, fun t S hS => obj_setT hS⟩
    · rw [show bcells (cat (patN id) n (patN (id + 100000))) (n + 0) = bcells (patN id) n from bcells_ext n (fun i hi => cat_lt hi)]
      exact how
    · rw [how.cellAt k (by omega)]
      exact bcells_get _ _ _ hk
  have HID := hide hI
  have HGF := hide hGf
  clear hi hz0 hz1 hz2 hown
  go_enter Tryz.func58, Tryz.ntmps58
  go_wp2_with fail
  clear hL hI hu hGf
  go_loopw [2] (fun i wr => ∃ (j : Nat) (v : Value), j ≤ 64 ∧ i = .int .i64 (j : Int) ∧ GrowAt w pg po gb n id B j v wr) (fun i _ => 64 - (intOf i).toNat)
  case atStart => exact ⟨0, _, by omega, rfl, unhide G0⟩
  case round =>
    obtain ⟨j, v, hj, rfl, hs⟩ := hrel
    have HS := hide hs
    clear G0
    by_cases hlt : j < 64
    · have l1 := hs.g
      have l2 : wr.cell? ⟨pg, po + 3, none⟩ = some (.int .i64 (id : Int)) := (hs.page (po + 3) (by omega)).trans (unhide HID)
      have l3 : wr.frozen? ⟨pg, po + 1, none⟩ = false := (hs.pagef (po + 1)).trans (unhide HGF)
      have hI1 : (j : Int) < 64 := by omega
      have hpr : pg < wr.heap.size := Nat.lt_of_lt_of_le hpg hs.size
      have hBr : B ≤ wr.heap.size := Nat.le_trans hB hs.size
      have OWN := hide hs.own
      have l1a := fun o => (World.cell?_alloc_lt wr o ⟨pg, po + 1, none⟩ hpr).trans l1
      have hvn := hide (hs.ne hne hpg)
      have hpa := hide (fun o => show pg < (wr.alloc o).heap.size from by rw [World.size_alloc]; omega)
      have l3a := hide (fun o => show (wr.alloc o).frozen? ⟨pg, po + 1, none⟩ = false from ((bal (Below.refl wr.heap.size wr) o).frozen (p := ⟨pg, po + 1, none⟩) hpr).trans l3)
      have hbe := hide (behind_any id hid)
      have hmk := hide (mark_any (id + 100000) j (by omega) (by omega))
      clear hs
      go_wp2_with fail
      go_region_law (first
        | (refine step_append_keep _ rfl _ _ rfl B i0 (unhide HI) (unhide HZ0) (unhide HZ1) (unhide HZ2) v (n + j) _ rfl ((unhide OWN).alloc _) ⟨wr.heap.size, 0, none⟩ 1 1 [.int .u8 (patN (id + 100000) j : Int)] rfl rfl (cell_one_new _ _ _) (one_one _) (by omega) (by omega) (by simp; omega) ?_; intro g c5 w5 hown5 hgr5; have hp5 := unhide hpa (.cells #[.int .u8 (patN (id + 100000) j : Int)] 5); have t5 := grow_farW hgr5 (unhide hvn) hp5 (l1a _); have f5 := grow_farFW hgr5 (unhide hvn) hp5 (unhide l3a _); have O5 := hide hown5; have G5 := hide hgr5; clear hown5 hgr5)
        | (go_simp; go_at_call 128; refine (unhide hbe _).mono ?_; rintro e w2 ⟨rfl, hw⟩; rw [hw]; clear hw)
        | (go_simp; go_at_call 51; refine (unhide hmk _).mono ?_; rintro e w2 ⟨rfl, hw⟩; rw [hw]; clear hw))
      all_goals
        go_wp2_with fail
        refine ⟨⟨j + 1, _, by omega, by go_num, (unhide HS).step hne hpg (fun _ => hgb) (bal (Below.refl _ _) _).drew (unhide O5) (unhide G5)⟩, by simp [intOf]; omega⟩
    · have hj64 : j = 64 := by omega
      subst hj64
      clear hs
      go_wp2_with fail
      go_end0
      exact ⟨rfl, v, unhide HS⟩
set_option maxRecDepth 100000 in
set_option maxHeartbeats 8000000 in
theorem grow_none (pg po id B : Nat) (hid : id < 1000) (w : World) (hB : B ≤ w.heap.size) (hL : w.cell? ⟨pg, po, none⟩ = some (.slice none 0 0)) (hG : ∃ u, w.cell? ⟨pg, po + 1, none⟩ = some u) (hGf : w.frozen? ⟨pg, po + 1, none⟩ = false) (hI : w.cell? ⟨pg, po + 3, none⟩ = some (.int .i64 (id : Int))) :
    Calls Tryz.prog 58 #[.pointer (some ⟨pg, po, none⟩)] w fun e w' => e = .returned (.tuple #[]) ∧ ∃ v, GrowAt w pg po w.heap.size 0 id B 64 v w' := by
  obtain ⟨u, hu⟩ := hG
  obtain ⟨i0, hi, hz0, hz1, hz2⟩ := info_parts info5
  have HI := hide hi; have HZ0 := hide hz0; have HZ1 := hide hz1; have HZ2 := hide hz2
  have hpg : pg < w.heap.size := World.block_lt_of_cell? w ⟨pg, po, none⟩ hL
  have hne : pg ≠ w.heap.size := by omega
  have G0 : Hid (GrowAt w pg po w.heap.size 0 id B 0 (.slice none 0 0) (w.setCell ⟨pg, po + 1, none⟩ (.slice none 0 0))) := by
    have hgr : w.grownBy (w.setCell ⟨pg, po + 1, none⟩ (.slice none 0 0)) (some pg) := ⟨rfl, rfl, rfl, by simp [World.setCell], fun k hk hne => Below.heap_setCell _ _ _ _ (fun e => hne (by rw [e]))⟩
    exact ⟨hgr.size, rfl, rfl, rfl, fun k hk h1 h2 => hgr.block k hk (by simpa using h1), fun i hi => World.cell?_setCell_other _ _ _ _ (by intro h'; injection h' with _ h' _; exact hi h'.symm), fun i => by simp, World.cell?_setCell_same _ _ _ hu, World.ownsRow_nil _ _ _ _, .inr fun k hk => by simp [Value.ownBlock] at hk, fun k hk => by omega, fun t S hS => obj_setT hS⟩
  have HID := hide hI
  have HGF := hide hGf
  clear hi hz0 hz1 hz2
  go_enter Tryz.func58, Tryz.ntmps58
  go_wp2_with fail
  clear hL hI hu hGf
  go_loopw [2] (fun i wr => ∃ (j : Nat) (v : Value), j ≤ 64 ∧ i = .int .i64 (j : Int) ∧ GrowAt w pg po w.heap.size 0 id B j v wr) (fun i _ => 64 - (intOf i).toNat)
  case atStart => exact ⟨0, _, by omega, rfl, unhide G0⟩
  case round =>
    obtain ⟨j, v, hj, rfl, hs⟩ := hrel
    have HS := hide hs
    clear G0
    by_cases hlt : j < 64
    · have l1 := hs.g
      have l2 : wr.cell? ⟨pg, po + 3, none⟩ = some (.int .i64 (id : Int)) := (hs.page (po + 3) (by omega)).trans (unhide HID)
      have l3 : wr.frozen? ⟨pg, po + 1, none⟩ = false := (hs.pagef (po + 1)).trans (unhide HGF)
      have hI1 : (j : Int) < 64 := by omega
      have hpr : pg < wr.heap.size := Nat.lt_of_lt_of_le hpg hs.size
      have hBr : B ≤ wr.heap.size := Nat.le_trans hB hs.size
      have OWN := hide hs.own
      have l1a := fun o => (World.cell?_alloc_lt wr o ⟨pg, po + 1, none⟩ hpr).trans l1
      have hvn := hide (hs.ne hne hpg)
      have hpa := hide (fun o => show pg < (wr.alloc o).heap.size from by rw [World.size_alloc]; omega)
      have l3a := hide (fun o => show (wr.alloc o).frozen? ⟨pg, po + 1, none⟩ = false from ((bal (Below.refl wr.heap.size wr) o).frozen (p := ⟨pg, po + 1, none⟩) hpr).trans l3)
      have hbe := hide (behind_any id hid)
      have hmk := hide (mark_any (id + 100000) j (by omega) (by omega))
      clear hs
      go_wp2_with fail
      go_region_law (first
        | (refine step_append_keep _ rfl _ _ rfl B i0 (unhide HI) (unhide HZ0) (unhide HZ1) (unhide HZ2) v (0 + j) _ rfl ((unhide OWN).alloc _) ⟨wr.heap.size, 0, none⟩ 1 1 [.int .u8 (patN (id + 100000) j : Int)] rfl rfl (cell_one_new _ _ _) (one_one _) (by omega) (by omega) (by simp; omega) ?_; intro g c5 w5 hown5 hgr5; have hp5 := unhide hpa (.cells #[.int .u8 (patN (id + 100000) j : Int)] 5); have t5 := grow_farW hgr5 (unhide hvn) hp5 (l1a _); have f5 := grow_farFW hgr5 (unhide hvn) hp5 (unhide l3a _); have O5 := hide hown5; have G5 := hide hgr5; clear hown5 hgr5)
        | (go_simp; go_at_call 128; refine (unhide hbe _).mono ?_; rintro e w2 ⟨rfl, hw⟩; rw [hw]; clear hw)
        | (go_simp; go_at_call 51; refine (unhide hmk _).mono ?_; rintro e w2 ⟨rfl, hw⟩; rw [hw]; clear hw))
      all_goals
        go_wp2_with fail
        have hst := (unhide HS).step hne hpg (fun h => absurd h (Nat.lt_irrefl 0)) (bal (Below.refl _ _) _).drew (unhide O5) (unhide G5)
        simp only [Nat.zero_add] at hst
        refine ⟨⟨j + 1, _, by omega, by go_num, hst⟩, by simp [intOf]; omega⟩
    · have hj64 : j = 64 := by omega
      subst hj64
      clear hs
      go_wp2_with fail
      go_end0
      exact ⟨rfl, v, unhide HS⟩
end Go.Proofs.YtpeebhddpmggdaaGreatDoor
