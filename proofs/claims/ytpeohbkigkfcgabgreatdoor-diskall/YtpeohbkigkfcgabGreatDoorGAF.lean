import Derived.Test.YtpeohbkigkfcgabGreatDoorGAE
import Derived.Deep.RegionLaw
import Derived.Deep.Onto
set_option linter.unusedVariables false
set_option linter.unusedSimpArgs false
set_option maxRecDepth 100000
set_option maxHeartbeats 16000000
namespace Go.Proofs.YtpeohbkigkfcgabGreatDoor.Kp
open Go Go.ChangeShapes Go.WideShapes Go.ChangeAt Go.RowKit
attribute [local go_sem] setCell_drewN alloc_drewN
theorem grow_farW {W w5 : World} {v : Value} {g pg i : Nat} {u : Value} (h : (v.ownBlock = some g /\ W.grownBy w5 (some g)) \/ (g = W.heap.size /\ W.grownBy w5 none)) (hv : ∀ k, v.ownBlock = some k -> k ≠ pg) (hp : pg < W.heap.size) (hc : W.cell? ⟨pg, i, none⟩ = some u) : w5.cell? ⟨pg, i, none⟩ = some u := by
 rcases h with ⟨h1, h2⟩ | ⟨_, h2⟩
 ·exact (h2.cell_far ⟨pg, i, none⟩ hp (by simpa using Ne.symm (hv g h1))).trans hc
 ·exact (h2.cell_far ⟨pg, i, none⟩ hp (by simp)).trans hc
theorem grow_farFW {W w5 : World} {v : Value} {g pg i : Nat} {u : Bool} (h : (v.ownBlock = some g /\ W.grownBy w5 (some g)) \/ (g = W.heap.size /\ W.grownBy w5 none)) (hv : ∀ k, v.ownBlock = some k -> k ≠ pg) (hp : pg < W.heap.size) (hc : W.frozen? ⟨pg, i, none⟩ = u) : w5.frozen? ⟨pg, i, none⟩ = u := by
 rcases h with ⟨h1, h2⟩ | ⟨_, h2⟩
 ·exact (h2.frozen_far ⟨pg, i, none⟩ hp (by simpa using Ne.symm (hv g h1))).trans hc
 ·exact (h2.frozen_far ⟨pg, i, none⟩ hp (by simp)).trans hc
theorem GrowAt.step {w wr W w5 : World} {pg po gb n id B j g c5 : Nat} {v : Value} (h : GrowAt w pg po gb n id B j v wr) (hne : pg ≠ gb) (hpg : pg < w.heap.size) (hgb : 0 < n -> gb < w.heap.size) (hb : Below wr.heap.size wr W)
  (h5 : w5.ownsRow B 5 1 (.slice (some ⟨g, 0, none⟩) (n + j + 1) c5) (n + j + 1) (bcells (cat (patN id) n (patN (id + 100000))) (n + j) ++ [.int .u8 (patN (id + 100000) j : Int)])) (hg : (v.ownBlock = some g /\ W.grownBy w5 (some g)) \/ (g = W.heap.size /\ W.grownBy w5 none)) :
  GrowAt w pg po gb n id B (j + 1) (.slice (some ⟨g, 0, none⟩) (n + j + 1) c5) (w5.setCell ⟨pg, po + 1, none⟩ (.slice (some ⟨g, 0, none⟩) (n + j + 1) c5)) := by
 have hsz := h.size
 have hszW := hb.size
 have hrow : ∃ row : Option Nat, W.grownBy w5 row /\ (∀ k, k < w.heap.size -> k ≠ gb -> some k ≠ row) /\ (g ≠ gb -> some gb ≠ row) := by
  rcases hg with ⟨h1, h2⟩ | ⟨h1, h2⟩
  ·refine ⟨_, h2, fun k hk hkg e => ?_, fun hgg e => hgg (by injection e with e; exact e.symm)⟩
   injection e with e
   subst e
   rcases h.at' with h' | h'
   ·rw [h'] at h1; injection h1 with h1; exact hkg h1.symm
   ·have := h' k h1; omega
  ·exact ⟨none, h2, fun _ _ _ => by simp, fun _ => by simp⟩
 obtain ⟨row, gr, hr1, hr2⟩ := hrow
 have hgp : g ≠ pg := by
  rcases hg with ⟨h1, _⟩ | ⟨h1, _⟩
  ·exact h.ne hne hpg g h1
  ·omega
 have hpW : pg < W.heap.size := by omega
 have hcell : ∀ i, w5.cell? ⟨pg, i, none⟩ = wr.cell? ⟨pg, i, none⟩ := fun i => (gr.cell_far ⟨pg, i, none⟩ hpW (hr1 pg hpg hne)).trans (hb.cell (p := ⟨pg, i, none⟩) (by show pg < wr.heap.size; omega))
 have hfro : ∀ i, w5.frozen? ⟨pg, i, none⟩ = wr.frozen? ⟨pg, i, none⟩ := fun i => (gr.frozen_far ⟨pg, i, none⟩ hpW (hr1 pg hpg hne)).trans (hb.frozen (p := ⟨pg, i, none⟩) (by show pg < wr.heap.size; omega))
 have hset : w5.grownBy (w5.setCell ⟨pg, po + 1, none⟩ (.slice (some ⟨g, 0, none⟩) (n + j + 1) c5)) (some pg) := ⟨rfl, rfl, rfl, by simp [World.setCell], fun k hk hne => Below.heap_setCell _ _ _ _ (fun e => hne (by rw [e]))⟩
 have h5' : w5.ownsRow B 5 1 (.slice (some ⟨g, 0, none⟩) (n + j + 1) c5) (n + j + 1) (bcells (cat (patN id) n (patN (id + 100000))) (n + (j + 1))) := by
  rw [<- Nat.add_assoc, bcells_succ, cat_ge]
  exact h5
 have hown := h5'.kept hset (.inr (by simp [Value.ownBlock]; exact hgp))
 refine ⟨by have := gr.size; have := hset.size; omega, gr.os.trans (hb.os.trans h.os), gr.tape.trans (hb.tape.trans h.tape), gr.output.trans (hb.output.trans h.output), fun k hk h1 h2 => ?_, fun i hi => ?_, fun i => ?_, World.cell?_setCell_same _ _ _ ((hcell (po + 1)).trans h.g), hown, ?_, fun k hk => ?_, fun t S hS => obj_setT (by rw [gr.block pg hpW (hr1 pg hpg hne), hb.block pg (by omega)]; exact h.pobj t S hS)⟩
 ·have hk5 : k < w5.heap.size := by have := gr.size; omega
  rw [hset.block k hk5 (by simpa using h1), gr.block k (by omega) (hr1 k hk h2), hb.block k (by omega)]
  exact h.far k hk h1 h2
 ·rw [World.cell?_setCell_other _ _ _ _ (by intro h'; injection h' with _ h' _; exact hi h'.symm), hcell i]
  exact h.page i hi
 ·rw [World.frozen?_setCell, hfro i]
  exact h.pagef i
 ·rcases hg with ⟨h1, _⟩ | ⟨h1, _⟩
  ·rcases h.at' with h' | h'
   ·exact .inl (by rw [h'] at h1; injection h1 with h1; simp [Value.ownBlock, h1])
   ·exact .inr fun k hk => h' k (by simp [Value.ownBlock] at hk; rw [h1, hk])
  ·exact .inr fun k hk => by simp [Value.ownBlock] at hk; omega
 ·have hgb' := hgb (by omega)
  by_cases hgg : g = gb
  ·subst hgg
   rw [hown.cellAt k (by omega), bcells_get _ _ _ (by omega), cat_lt hk]
  ·rw [World.cell?_setCell_other _ _ _ _ (by intro h'; injection h' with h' _ _; exact hne h'), gr.cell_far ⟨gb, k, none⟩ (by show gb < W.heap.size; omega) (hr2 hgg), hb.cell (p := ⟨gb, k, none⟩) (by show gb < wr.heap.size; omega)]
   exact h.lst k hk
theorem grow_some (pg po gb n cap id B : Nat) (hid : id < 1000) (hn : n <= 1048576) (w : World) (hB : B <= w.heap.size) (hne : pg ≠ gb) (hgb : gb < w.heap.size) (hL : w.cell? ⟨pg, po, none⟩ = some (.slice (some ⟨gb, 0, none⟩) n cap)) (hG : ∃ u, w.cell? ⟨pg, po + 1, none⟩ = some u) (hGf : w.frozen? ⟨pg, po + 1, none⟩ = false) (hI : w.cell? ⟨pg, po + 3, none⟩ = some (.int .i64 (id : Int)))
  (hown : w.ownsRow B 5 1 (.slice (some ⟨gb, 0, none⟩) n cap) n (bcells (patN id) n)) :
  Calls Tryz.prog 173 #[.pointer (some ⟨pg, po, none⟩)] w fun e w' => e = .returned (.tuple #[]) /\ ∃ v, GrowAt w pg po gb n id B 64 v w' := by
 obtain ⟨u, hu⟩ := hG
 obtain ⟨i0, hi, hz0, hz1, hz2⟩ := info_parts info5
 have HI := hide hi; have HZ0 := hide hz0; have HZ1 := hide hz1; have HZ2 := hide hz2
 have hpg : pg < w.heap.size := World.block_lt_of_cell? w ⟨pg, po, none⟩ hL
 have G0 : Hid (GrowAt w pg po gb n id B 0 (.slice (some ⟨gb, 0, none⟩) n cap) (w.setCell ⟨pg, po + 1, none⟩ (.slice (some ⟨gb, 0, none⟩) n cap))) := by
  have hgr : w.grownBy (w.setCell ⟨pg, po + 1, none⟩ (.slice (some ⟨gb, 0, none⟩) n cap)) (some pg) := ⟨rfl, rfl, rfl, by simp [World.setCell], fun k hk hne => Below.heap_setCell _ _ _ _ (fun e => hne (by rw [e]))⟩
  have how : (w.setCell ⟨pg, po + 1, none⟩ (.slice (some ⟨gb, 0, none⟩) n cap)).ownsRow B 5 1 (.slice (some ⟨gb, 0, none⟩) n cap) n (bcells (patN id) n) := hown.kept hgr (.inr (by simp [Value.ownBlock]; exact fun e => hne e.symm))
  refine ⟨hgr.size, rfl, rfl, rfl, fun k hk h1 h2 => hgr.block k hk (by simpa using h1), fun i hi => World.cell?_setCell_other _ _ _ _ (by intro h'; injection h' with _ h' _; exact hi h'.symm), fun i => by simp, World.cell?_setCell_same _ _ _ hu, ?_, .inl rfl, fun k hk => ?_, fun t S hS => obj_setT hS⟩
  ·rw [show bcells (cat (patN id) n (patN (id + 100000))) (n + 0) = bcells (patN id) n from bcells_ext n (fun i hi => cat_lt hi)]
   exact how
  ·rw [how.cellAt k (by omega)]
   exact bcells_get _ _ _ hk
 have HID := hide hI
 have HGF := hide hGf
 clear hi hz0 hz1 hz2 hown
 go_enter Tryz.func173, Tryz.ntmps173
 go_wp2_with fail
 clear hL hI hu hGf
 go_loopw [2] (fun i wr => ∃ (j : Nat) (v : Value), j <= 64 /\ i = .int .i64 (j : Int) /\ GrowAt w pg po gb n id B j v wr) (fun i _ => 64 - (intOf i).toNat)
 case atStart => exact ⟨0, _, by omega, rfl, uh G0⟩
 case round =>
  obtain ⟨j, v, hj, rfl, hs⟩ := hrel
  have HS := hide hs
  clear G0
  by_cases hlt : j < 64
  ·have l1 := hs.g
   have l2 : wr.cell? ⟨pg, po + 3, none⟩ = some (.int .i64 (id : Int)) := (hs.page (po + 3) (by omega)).trans (uh HID)
   have l3 : wr.frozen? ⟨pg, po + 1, none⟩ = false := (hs.pagef (po + 1)).trans (uh HGF)
   have hI1 : (j : Int) < 64 := by omega
   have hpr : pg < wr.heap.size := Nat.lt_of_lt_of_le hpg hs.size
   have hBr : B <= wr.heap.size := Nat.le_trans hB hs.size
   have OWN := hide hs.own
   have l1a := fun o => (World.cell?_alloc_lt wr o ⟨pg, po + 1, none⟩ hpr).trans l1
   have hvn := hide (hs.ne hne hpg)
   have hpa := hide (fun o => show pg < (wr.alloc o).heap.size from by rw [World.size_alloc]; omega)
   have l3a := hide (fun o => show (wr.alloc o).frozen? ⟨pg, po + 1, none⟩ = false from ((bal (Below.refl wr.heap.size wr) o).frozen (p := ⟨pg, po + 1, none⟩) hpr).trans l3)
   have hbe := hide (behind_any id hid)
   have hmk := hide (mark_any (id + 100000) j (by omega) (by omega))
   clear hs
   go_wp2_with fail
   go_region_law (first
    | (refine step_append_keep _ rfl _ _ rfl B i0 (uh HI) (uh HZ0) (uh HZ1) (uh HZ2) v (n + j) _ rfl ((uh OWN).alloc _) ⟨wr.heap.size, 0, none⟩ 1 1 [.int .u8 (patN (id + 100000) j : Int)] rfl rfl (cell_one_new _ _ _) (one_one _) (by omega) (by omega) (by simp; omega) ?_; intro g c5 w5 hown5 hgr5; have hp5 := uh hpa (.cells #[.int .u8 (patN (id + 100000) j : Int)] 5); have t5 := grow_farW hgr5 (uh hvn) hp5 (l1a _); have f5 := grow_farFW hgr5 (uh hvn) hp5 (uh l3a _); have O5 := hide hown5; have G5 := hide hgr5; clear hown5 hgr5)
    | (go_simp; go_at_call 217; refine (uh hbe _).mono ?_; rintro e w2 ⟨rfl, hw⟩; rw [hw]; clear hw)
    | (go_simp; go_at_call 197; refine (uh hmk _).mono ?_; rintro e w2 ⟨rfl, hw⟩; rw [hw]; clear hw))
   all_goals
    go_wp2_with fail
    refine ⟨⟨j + 1, _, by omega, by go_num, (uh HS).step hne hpg (fun _ => hgb) (bal (Below.refl _ _) _).drew (uh O5) (uh G5)⟩, by simp [intOf]; omega⟩
  ·have hj64 : j = 64 := by omega
   subst hj64
   clear hs
   go_wp2_with fail
   go_end0
   exact ⟨rfl, v, uh HS⟩
theorem grow_none (pg po id B : Nat) (hid : id < 1000) (w : World) (hB : B <= w.heap.size) (hL : w.cell? ⟨pg, po, none⟩ = some (.slice none 0 0)) (hG : ∃ u, w.cell? ⟨pg, po + 1, none⟩ = some u) (hGf : w.frozen? ⟨pg, po + 1, none⟩ = false) (hI : w.cell? ⟨pg, po + 3, none⟩ = some (.int .i64 (id : Int))) :
  Calls Tryz.prog 173 #[.pointer (some ⟨pg, po, none⟩)] w fun e w' => e = .returned (.tuple #[]) /\ ∃ v, GrowAt w pg po w.heap.size 0 id B 64 v w' := by
 obtain ⟨u, hu⟩ := hG
 obtain ⟨i0, hi, hz0, hz1, hz2⟩ := info_parts info5
 have HI := hide hi; have HZ0 := hide hz0; have HZ1 := hide hz1; have HZ2 := hide hz2
 have hpg : pg < w.heap.size := World.block_lt_of_cell? w ⟨pg, po, none⟩ hL
 have hne : pg ≠ w.heap.size := by omega
 have G0 : Hid (GrowAt w pg po w.heap.size 0 id B 0 (.slice none 0 0) (w.setCell ⟨pg, po + 1, none⟩ (.slice none 0 0))) := by
  have hgr : w.grownBy (w.setCell ⟨pg, po + 1, none⟩ (.slice none 0 0)) (some pg) := ⟨rfl, rfl, rfl, by simp [World.setCell], fun k hk hne => Below.heap_setCell _ _ _ _ (fun e => hne (by rw [e]))⟩
  exact ⟨hgr.size, rfl, rfl, rfl, fun k hk h1 h2 => hgr.block k hk (by simpa using h1), fun i hi => World.cell?_setCell_other _ _ _ _ (by intro h'; injection h' with _ h' _; exact hi h'.symm), fun i => by simp, World.cell?_setCell_same _ _ _ hu, World.ownsRow_nil _ _ _ _, .inr fun k hk => by simp [Value.ownBlock] at hk, fun k hk => by omega, fun t S hS => obj_setT hS⟩
 have HID := hide hI
 have HGF := hide hGf
 clear hi hz0 hz1 hz2
 go_enter Tryz.func173, Tryz.ntmps173
 go_wp2_with fail
 clear hL hI hu hGf
 go_loopw [2] (fun i wr => ∃ (j : Nat) (v : Value), j <= 64 /\ i = .int .i64 (j : Int) /\ GrowAt w pg po w.heap.size 0 id B j v wr) (fun i _ => 64 - (intOf i).toNat)
 case atStart => exact ⟨0, _, by omega, rfl, uh G0⟩
 case round =>
  obtain ⟨j, v, hj, rfl, hs⟩ := hrel
  have HS := hide hs
  clear G0
  by_cases hlt : j < 64
  ·have l1 := hs.g
   have l2 : wr.cell? ⟨pg, po + 3, none⟩ = some (.int .i64 (id : Int)) := (hs.page (po + 3) (by omega)).trans (uh HID)
   have l3 : wr.frozen? ⟨pg, po + 1, none⟩ = false := (hs.pagef (po + 1)).trans (uh HGF)
   have hI1 : (j : Int) < 64 := by omega
   have hpr : pg < wr.heap.size := Nat.lt_of_lt_of_le hpg hs.size
   have hBr : B <= wr.heap.size := Nat.le_trans hB hs.size
   have OWN := hide hs.own
   have l1a := fun o => (World.cell?_alloc_lt wr o ⟨pg, po + 1, none⟩ hpr).trans l1
   have hvn := hide (hs.ne hne hpg)
   have hpa := hide (fun o => show pg < (wr.alloc o).heap.size from by rw [World.size_alloc]; omega)
   have l3a := hide (fun o => show (wr.alloc o).frozen? ⟨pg, po + 1, none⟩ = false from ((bal (Below.refl wr.heap.size wr) o).frozen (p := ⟨pg, po + 1, none⟩) hpr).trans l3)
   have hbe := hide (behind_any id hid)
   have hmk := hide (mark_any (id + 100000) j (by omega) (by omega))
   clear hs
   go_wp2_with fail
   go_region_law (first
    | (refine step_append_keep _ rfl _ _ rfl B i0 (uh HI) (uh HZ0) (uh HZ1) (uh HZ2) v (0 + j) _ rfl ((uh OWN).alloc _) ⟨wr.heap.size, 0, none⟩ 1 1 [.int .u8 (patN (id + 100000) j : Int)] rfl rfl (cell_one_new _ _ _) (one_one _) (by omega) (by omega) (by simp; omega) ?_; intro g c5 w5 hown5 hgr5; have hp5 := uh hpa (.cells #[.int .u8 (patN (id + 100000) j : Int)] 5); have t5 := grow_farW hgr5 (uh hvn) hp5 (l1a _); have f5 := grow_farFW hgr5 (uh hvn) hp5 (uh l3a _); have O5 := hide hown5; have G5 := hide hgr5; clear hown5 hgr5)
    | (go_simp; go_at_call 217; refine (uh hbe _).mono ?_; rintro e w2 ⟨rfl, hw⟩; rw [hw]; clear hw)
    | (go_simp; go_at_call 197; refine (uh hmk _).mono ?_; rintro e w2 ⟨rfl, hw⟩; rw [hw]; clear hw))
   all_goals
    go_wp2_with fail
    have hst := (uh HS).step hne hpg (fun h => absurd h (Nat.lt_irrefl 0)) (bal (Below.refl _ _) _).drew (uh O5) (uh G5)
    simp only [Nat.zero_add] at hst
    refine ⟨⟨j + 1, _, by omega, by go_num, hst⟩, by simp [intOf]; omega⟩
  ·have hj64 : j = 64 := by omega
   subst hj64
   clear hs
   go_wp2_with fail
   go_end0
   exact ⟨rfl, v, uh HS⟩
end Go.Proofs.YtpeohbkigkfcgabGreatDoor.Kp
namespace Go.Proofs.YtpeohbkigkfcgabGreatDoor.Kp
open Go Go.ChangeShapes Go.WideShapes Go.ChangeAt Go.RowKit
theorem info125 : (Tryz.prog.info? 115).map (fun i => (i.zero.map (fun z => z.cells.size), i.size, i.bytes)) = some (some 5, 5, 88) := by kernel_rfl
theorem info125_parts : ∃ i z, Tryz.prog.info? 115 = some i /\ i.zero = some z /\ z.cells.size = 5 /\ i.size = 5 /\ i.bytes = 88 := by
 obtain ⟨i, hi, hzz⟩ := Option.map_eq_some_iff.1 info125
 simp only [Prod.mk.injEq] at hzz
 obtain ⟨z, hz, hs⟩ := Option.map_eq_some_iff.1 hzz.1
 exact ⟨i, z, hi, hz, hs, hzz.2.1, hzz.2.2⟩
theorem step_append_page {ops : Array Oper} {o : Oper} {a : Act} {K : Act -> World -> Prop} {Q : Exit -> Act -> World -> Prop} {E : Prop} (w : World) (hgd : o.guard = none) (s x : Operand)
  (ho : o.op = .call { callee := .builtin .append, args := #[s, x], argTypes := #[30, 30] })
  (base : Nat) (v : Value) (n : Nat) (xs : List Value) (hs : a.eval s = v) (hown : w.ownsRow base 115 5 v n xs)
  (ad : Addr) (c : Nat) (news : List Value) (hx : a.eval x = .slice (some ad) 1 c) (hl : news.length = 5) (hnews : ∀ j u, news[j]? = some u -> w.cell? (ad.add j) = some u) (h1 : ∀ u ∈ news, u.oneCell' = true)
  (hn : n <= 96) (hbase : base <= w.heap.size)
  (h : ∀ g cap w', w'.ownsRow base 115 5 (.slice (some ⟨g, 0, none⟩) (n + 1) cap) (n + 1) (xs ++ news) -> w.grownBy w' v.ownBlock -> (some g = v.ownBlock \/ g = w.heap.size) -> K (a.put o.dst (.slice (some ⟨g, 0, none⟩) (n + 1) cap)) w') :
  if Region.wanted o (yielded ops a.tmps) = true then Oper.wp Tryz.prog o a w K Q else E := by
 have hw : Region.wanted o (yielded ops a.tmps) = true := by simp [Region.wanted, hgd]
 rw [if_pos hw]
 obtain ⟨i, z, hi, hz, hzs, hsize, hby⟩ := info125_parts
 obtain ⟨v', w', hr, h2, h3, _, h4⟩ := run_append_own_at (P := Tryz.prog) w base 30 o.type 115 i z 5 88 Tryz.underlying30 hi hz hsize hby hzs (by decide) v n xs hown ad 1 c news (by omega) hnews h1 (by unfold maxLen; omega) (by omega) hbase
 have h5 : ∃ g cap, v' = .slice (some ⟨g, 0, none⟩) (n + 1) cap := by
  rcases h2.2 with ⟨_, h0⟩ | ⟨g, cap, cur, rfl, _⟩
  ·omega
  ·exact ⟨g, cap, rfl⟩
 obtain ⟨g, cap, rfl⟩ := h5
 unfold Oper.wp execOp
 simp only [ho, resolve, invoke, builtin, Sem.run_bind, Sem.run_pure, Result.andThen_ok, List.map_toArray, List.map_cons, List.map_nil, hs, hx, hr]
 exact h g cap w' h2 h3 (h4.imp id (fun e => by simpa [Value.ownBlock] using e))
theorem row_far {w w' : World} {B e s : Nat} {v : Value} {n : Nat} {xs : List Value} (h : w.ownsRow B e s v n xs) (hq : ∀ q, v.ownBlock = some q -> w'.heap[q]? = w.heap[q]?) : w'.ownsRow B e s v n xs := by
 refine ⟨h.1, ?_⟩
 rcases h.2 with h1 | ⟨g, cap, cur, rfl, hb, hg, rest⟩
 ·exact .inl h1
 ·exact .inr ⟨g, cap, cur, rfl, hb, (hq g rfl).trans hg, rest⟩
theorem five_new {W : World} {g : Nat} (hg : g = W.heap.size) (a b c d e : Value) (t : TypeId) : ∀ j u, ([a, b, c, d, e] : List Value)[j]? = some u -> (W.alloc (.cells #[a, b, c, d, e] t)).cell? ((⟨g, 0, none⟩ : Addr).add j) = some u := by
 intro j u hj
 subst hg
 rw [Addr.add_mid, Nat.zero_add, World.cell?_alloc_mark]
 simpa using hj
theorem below_keep {w W w5 : World} {v : Value} {g : Nat} (hb : Below w.heap.size w W) (hw : w.heap.size <= W.heap.size) (hv : ∀ k, v.ownBlock = some k -> w.heap.size <= k) (h : (v.ownBlock = some g /\ W.grownBy w5 (some g)) \/ (g = W.heap.size /\ W.grownBy w5 none)) : Below w.heap.size w w5 /\ w.heap.size <= g := by
 rcases h with ⟨h1, h2⟩ | ⟨h1, h2⟩
 ·exact ⟨hb.grown h2 hw (fun k hk => by injection hk with hk; subst hk; exact hv _ h1), hv _ h1⟩
 ·exact ⟨hb.grown h2 hw (fun k hk => by simp at hk), by omega⟩
theorem keep_one {w w5 : World} {o : Obj} {g : Nat} (h : ((Value.slice (some ⟨w.heap.size, 0, none⟩) 0 0).ownBlock = some g /\ (w.alloc o).drew.grownBy w5 (some g)) \/ (g = (w.alloc o).drew.heap.size /\ (w.alloc o).drew.grownBy w5 none)) : Below w.heap.size w w5 /\ w.heap.size <= g :=
 below_keep (v := .slice (some ⟨w.heap.size, 0, none⟩) 0 0) (bal (Below.refl _ _) o).drew (by simp) (by intro q hq; simp [Value.ownBlock] at hq; omega) h
theorem page_far {w5 w6 : World} {bk i : Nat} {o : Obj} {x u : Value} {r : Option Nat} (h : ((w5.setCell ⟨bk, 6, none⟩ x).alloc o).grownBy w6 r) (hr : ∀ q, r = some q -> q ≠ bk) (hb : bk < w5.heap.size) (hi : i ≠ 6) (hc : w5.cell? ⟨bk, i, none⟩ = some u) : w6.cell? ⟨bk, i, none⟩ = some u := by
 have h1 : ((w5.setCell ⟨bk, 6, none⟩ x).alloc o).cell? ⟨bk, i, none⟩ = some u := (World.cell?_alloc_lt _ _ _ (by simpa using hb)).trans ((World.cell?_setCell_other _ _ _ _ (by intro h'; injection h' with _ h' _; omega)).trans hc)
 exact (h.cell_far ⟨bk, i, none⟩ (by simp; omega) (by first | (intro e; exact hr bk e rfl) | (intro e; exact hr bk e.symm rfl))).trans h1
theorem page_farF {w5 w6 : World} {bk i : Nat} {o : Obj} {x : Value} {u : Bool} {r : Option Nat} (h : ((w5.setCell ⟨bk, 6, none⟩ x).alloc o).grownBy w6 r) (hr : ∀ q, r = some q -> q ≠ bk) (hb : bk < w5.heap.size) (hc : w5.frozen? ⟨bk, i, none⟩ = u) : w6.frozen? ⟨bk, i, none⟩ = u := by
 have h1 : ((w5.setCell ⟨bk, 6, none⟩ x).alloc o).frozen? ⟨bk, i, none⟩ = u := ((bal (Below.refl (w5.setCell ⟨bk, 6, none⟩ x).heap.size (w5.setCell ⟨bk, 6, none⟩ x)) o).frozen (p := ⟨bk, i, none⟩) (by simpa using hb)).trans (by simpa using hc)
 exact (h.frozen_far ⟨bk, i, none⟩ (by simp; omega) (by first | (intro e; exact hr bk e rfl) | (intro e; exact hr bk e.symm rfl))).trans h1
theorem load_far {w5 : World} {bk : Nat} {x u : Value} {o : Obj} (hb : bk < w5.heap.size) (hc : w5.cell? ⟨bk, 7, none⟩ = some u) : ((w5.setCell ⟨bk, 6, none⟩ x).alloc o).cell? ⟨bk, 7, none⟩ = some u :=
 (World.cell?_alloc_lt _ _ _ (by simpa using hb)).trans ((World.cell?_setCell_other _ _ _ _ (by intro h'; injection h' with _ h' _; omega)).trans hc)
def KeepOut (w : World) (bk k m B : Nat) (L : Value) (n : Nat) (f : Nat -> Nat) (old : Value) (xs : List Value) (w' : World) : Prop :=
 ∃ g6 c6 gw cw, w'.cell? ⟨bk, 6, none⟩ = some (.int .i64 ((k : Int) + 1)) /\ w'.cell? ⟨bk, 7, none⟩ = some (.slice (some ⟨g6, 0, none⟩) (m + 1) c6) /\
  w'.ownsRow B 115 5 (.slice (some ⟨g6, 0, none⟩) (m + 1) c6) (m + 1) (xs ++ [L, .slice none 0 0, .slice (some ⟨gw, 0, none⟩) n cw, .int .i64 ((k : Int) + 1), .bool false]) /\
  w'.ownsRow w.heap.size 5 1 (.slice (some ⟨gw, 0, none⟩) n cw) n (bcells f n) /\ g6 ≠ bk /\ g6 ≠ gw /\ (some g6 = old.ownBlock \/ w.heap.size <= g6) /\
  (∀ i, i ≠ 6 -> i ≠ 7 -> w'.cell? ⟨bk, i, none⟩ = w.cell? ⟨bk, i, none⟩) /\ (∀ i, w'.frozen? ⟨bk, i, none⟩ = w.frozen? ⟨bk, i, none⟩) /\
  w.heap.size <= w'.heap.size /\ w'.os = w.os /\ w'.tape = w.tape /\ w'.output = w.output /\ ∀ q, q < w.heap.size -> q ≠ bk -> old.ownBlock ≠ some q -> w'.heap[q]? = w.heap[q]?
theorem keep_out {w w5 w6 : World} {bk k m B n g c5 g6 c6 : Nat} {L old u u0 : Value} {f : Nat -> Nat} {xs : List Value} {o : Obj} (hbk : bk < w.heap.size) (hold : ∀ q, old.ownBlock = some q -> q ≠ bk /\ q < w.heap.size)
  (G5 : Below w.heap.size w w5 /\ w.heap.size <= g) (O5 : w5.ownsRow w.heap.size 5 1 (.slice (some ⟨g, 0, none⟩) n c5) n (bcells f n)) (t0 : w5.cell? ⟨bk, 6, none⟩ = some u0)
  (h5 : ∀ i, w5.frozen? ⟨bk, i, none⟩ = w.frozen? ⟨bk, i, none⟩) (t6 : w6.cell? ⟨bk, 7, none⟩ = some u) (G6 : ((w5.setCell ⟨bk, 6, none⟩ (.int .i64 ((k : Int) + 1))).alloc o).grownBy w6 old.ownBlock)
  (O6 : w6.ownsRow B 115 5 (.slice (some ⟨g6, 0, none⟩) (m + 1) c6) (m + 1) (xs ++ [L, .slice none 0 0, .slice (some ⟨g, 0, none⟩) n c5, .int .i64 ((k : Int) + 1), .bool false]))
  (A6 : some g6 = old.ownBlock \/ g6 = ((w5.setCell ⟨bk, 6, none⟩ (.int .i64 ((k : Int) + 1))).alloc o).heap.size) :
  KeepOut w bk k m B L n f old xs (w6.setCell ⟨bk, 7, none⟩ (.slice (some ⟨g6, 0, none⟩) (m + 1) c6)) := by
 obtain ⟨hb5, hg⟩ := G5
 have hs5 := hb5.size
 have hgl := (O5.lt g rfl).2
 have hsz : ((w5.setCell ⟨bk, 6, none⟩ (.int .i64 ((k : Int) + 1))).alloc o).heap.size = w5.heap.size + 1 := by simp
 rw [hsz] at A6
 have hs6 := G6.size
 rw [hsz] at hs6
 have hne6 : g6 ≠ bk := by
  rcases A6 with h | h
  ·exact (hold g6 h.symm).1
  ·omega
 have hneg : g6 ≠ g := by
  rcases A6 with h | h
  ·have := (hold g6 h.symm).2
   omega
  ·omega
 have hblk : ∀ q, q < w5.heap.size -> q ≠ bk -> some q ≠ old.ownBlock -> (w6.setCell ⟨bk, 7, none⟩ (.slice (some ⟨g6, 0, none⟩) (m + 1) c6)).heap[q]? = w5.heap[q]? := by
  intro q hq h1 h2
  rw [Below.heap_setCell _ _ _ _ h1, G6.block q (by rw [hsz]; omega) h2, Below.heap_alloc _ _ _ (by simpa using hq), Below.heap_setCell _ _ _ _ h1]
 have hcell : ∀ i, i ≠ 7 -> i ≠ 6 -> (w6.setCell ⟨bk, 7, none⟩ (.slice (some ⟨g6, 0, none⟩) (m + 1) c6)).cell? ⟨bk, i, none⟩ = w.cell? ⟨bk, i, none⟩ := by
  intro i h1 h0
  rw [World.cell?_setCell_other _ _ _ _ (by intro h'; injection h' with _ h' _; omega), G6.cell_far ⟨bk, i, none⟩ (by rw [hsz]; show bk < _; omega) (fun e => (hold bk e.symm).1 rfl), World.cell?_alloc_lt _ _ _ (by simp; omega), World.cell?_setCell_other _ _ _ _ (by intro h'; injection h' with _ h' _; omega)]
  exact World.cell?_of_block (hb5.block bk hbk)
 refine ⟨g6, c6, g, c5, ?_, World.cell?_setCell_same _ _ _ t6, row_far O6 ?_, row_far O5 ?_, hne6, hneg, A6.imp id (fun h => by omega), fun i hi hi' => hcell i (by omega) (by omega), fun i => ?_, by simp; omega, ?_, ?_, ?_, fun q hq h1 h2 => ?_⟩
 ·rw [World.cell?_setCell_other _ _ _ _ (by intro h'; injection h' with _ h' _; omega), G6.cell_far ⟨bk, 6, none⟩ (by rw [hsz]; show bk < _; omega) (fun e => (hold bk e.symm).1 rfl), World.cell?_alloc_lt _ _ _ (by simp; omega)]
  exact World.cell?_setCell_same _ _ _ t0
 ·intro q hq
  injection hq with hq
  have hq : g6 = q := hq
  subst hq
  exact Below.heap_setCell _ _ _ _ hne6
 ·intro q hq
  injection hq with hq
  have hq : g = q := hq
  subst hq
  exact hblk g hgl (by omega) (fun e => by have := (hold g e.symm).2; omega)
 ·rw [<- h5 i]
  have h := page_farF (i := i) G6 (fun q hq => (hold q hq).1) (by omega) rfl
  simpa using h
 ·exact (G6.os.trans hb5.os)
 ·exact (G6.tape.trans hb5.tape)
 ·exact (G6.output.trans hb5.output)
 ·rw [hblk q (by omega) h1 (fun e => h2 e.symm)]
  exact hb5.block q hq
structure Pg where
 L : Value
 n : Nat
 G : Value
 W : Value
 id : Nat
 s : Nat
 f : Nat -> Nat
def Pg.cells (p : Pg) : List Value := [p.L, p.G, p.W, .int .i64 (p.id : Int), .bool (decide (0 < p.s))]
def Pg.has (p : Pg) (q : Nat) : Prop := p.L.ownBlock = some q \/ p.G.ownBlock = some q \/ p.W.ownBlock = some q
def LShows (w : World) (L : Value) (n : Nat) (f : Nat -> Nat) : Prop := (n = 0 /\ L = .slice none 0 0) \/ ∃ gb cap, L = .slice (some ⟨gb, 0, none⟩) n cap /\ gb < w.heap.size /\ ∀ k, k < n -> w.cell? ⟨gb, k, none⟩ = some (.int .u8 (f k : Int))
theorem LShows.of_own {w : World} {B n : Nat} {L : Value} {f : Nat -> Nat} (h : w.ownsRow B 5 1 L n (bcells f n)) : LShows w L n f := by
 rcases h.2 with ⟨h1, h2⟩ | ⟨g, cap, cur, rfl, hb, _⟩
 ·exact .inl ⟨h2, h1⟩
 ·refine .inr ⟨g, cap, rfl, (h.lt g rfl).2, fun k hk => ?_⟩
  rw [h.cellAt k (by omega)]
  exact bcells_get f n k hk
theorem LShows.far {w w' : World} {L : Value} {n : Nat} {f : Nat -> Nat} (h : LShows w L n f) (hz : w.heap.size <= w'.heap.size) (hq : ∀ q, L.ownBlock = some q -> w'.heap[q]? = w.heap[q]?) : LShows w' L n f := by
 rcases h with h | ⟨gb, cap, rfl, h1, h2⟩
 ·exact .inl h
 ·exact .inr ⟨gb, cap, rfl, by omega, fun k hk => (World.cell?_of_block (hq gb rfl)).trans (h2 k hk)⟩
structure Pg.OK (p : Pg) (w : World) : Prop where
 le : p.n <= 1048576
 idl : p.id < 1000
 s0 : p.s = 0 -> w.ownsRow 0 5 1 p.L p.n (bcells p.f p.n) /\ p.G = .slice none 0 0 /\ w.ownsRow 0 5 1 p.W p.n (bcells p.f p.n) /\ (∀ q, p.L.ownBlock = some q -> p.W.ownBlock ≠ some q) /\ ∃ gw cw, p.W = .slice (some ⟨gw, 0, none⟩) p.n cw
 s1 : p.s = 1 -> w.ownsRow 0 5 1 p.L p.n (bcells (patN p.id) p.n) /\ p.G = .slice none 0 0
 s2 : p.s = 2 -> LShows w p.L p.n (patN p.id) /\ w.ownsRow 0 5 1 p.G (p.n + 64) (bcells (cat (patN p.id) p.n (patN (p.id + 100000))) (p.n + 64))
 s3 : p.s <= 2
theorem Pg.OK.far {p : Pg} {w w' : World} (h : p.OK w) (hz : w.heap.size <= w'.heap.size) (hq : ∀ q, p.has q -> w'.heap[q]? = w.heap[q]?) : p.OK w' :=
 ⟨h.le, h.idl, fun e => ⟨row_far (h.s0 e).1 (fun q hq' => hq q (.inl hq')), (h.s0 e).2.1, row_far (h.s0 e).2.2.1 (fun q hq' => hq q (.inr (.inr hq'))), (h.s0 e).2.2.2⟩,
  fun e => ⟨row_far (h.s1 e).1 (fun q hq' => hq q (.inl hq')), (h.s1 e).2⟩,
  fun e => ⟨(h.s2 e).1.far hz (fun q hq' => hq q (.inl hq')), row_far (h.s2 e).2 (fun q hq' => hq q (.inr (.inl hq')))⟩, h.s3⟩
def pages (p : Nat -> Pg) : Nat -> List Value
 | 0 => []
 | m + 1 => pages p m ++ (p m).cells
theorem pages_len (p : Nat -> Pg) : ∀ m, (pages p m).length = m * 5
 | 0 => rfl
 | m + 1 => by simp [pages, pages_len p m, Pg.cells]; omega
theorem pages_get (p : Nat -> Pg) (c : Nat) (hc : c < 5) : ∀ m i, i < m -> (pages p m)[i * 5 + c]? = (p i).cells[c]?
 | 0, i, h => by omega
 | m + 1, i, h => by
  by_cases e : i = m
  ·subst e
   rw [pages, List.getElem?_append_right (by rw [pages_len]; omega), pages_len]
   congr 1
   omega
  ·rw [pages, List.getElem?_append_left (by rw [pages_len]; omega)]
   exact pages_get p c hc m i (by omega)
theorem pages_ext {p p' : Nat -> Pg} : ∀ m, (∀ i, i < m -> (p i).cells = (p' i).cells) -> pages p m = pages p' m
 | 0, _ => rfl
 | m + 1, h => by rw [pages, pages, pages_ext m (fun i hi => h i (by omega)), h m (by omega)]
def upd (p : Nat -> Pg) (i : Nat) (P : Pg) : Nat -> Pg := fun j => if j = i then P else p j
theorem upd_same (p : Nat -> Pg) (i : Nat) (P : Pg) : upd p i P i = P := by simp [upd]
theorem upd_other (p : Nat -> Pg) (i j : Nat) (P : Pg) (h : j ≠ i) : upd p i P j = p j := by simp [upd, h]
theorem pages_set (p : Nat -> Pg) (i : Nat) (P : Pg) (c : Nat) (v : Value) (hc : c < 5) (hP : P.cells = (p i).cells.set c v) : ∀ m, i < m -> (pages p m).set (i * 5 + c) v = pages (upd p i P) m
 | 0, h => by omega
 | m + 1, h => by
  by_cases e : i = m
  ·subst e
   rw [pages, pages, upd_same, hP, List.set_append_right _ _ (by rw [pages_len]; omega), pages_len, pages_ext i (p' := upd p i P) (fun j hj => by rw [upd_other _ _ _ _ (by omega)])]
   congr 2
   omega
  ·rw [pages, pages, upd_other _ _ _ _ (by omega), List.set_append_left _ _ (by rw [pages_len]; omega), pages_set p i P c v hc hP m (by omega)]
structure KindAt (w : World) (bk m : Nat) (R : Value) (p : Nat -> Pg) : Prop where
 c1 : w.cell? ⟨bk, 7, none⟩ = some R
 fz : ∀ i, w.frozen? ⟨bk, i, none⟩ = false
 row : w.ownsRow 0 115 5 R m (pages p m)
 rb : R.ownBlock ≠ some bk
 ok : ∀ i, i < m -> (p i).OK w
 far : ∀ i, i < m -> ∀ q, (p i).has q -> q ≠ bk /\ R.ownBlock ≠ some q /\ q < w.heap.size
 apart : ∀ i j, i < m -> j < m -> i ≠ j -> ∀ q, (p i).has q -> ¬ (p j).has q
theorem KindAt.lt {w : World} {bk m : Nat} {R : Value} {p : Nat -> Pg} (h : KindAt w bk m R p) : bk < w.heap.size := World.block_lt_of_cell? w ⟨bk, 7, none⟩ h.c1
theorem KindAt.stay {w w' : World} {bk m : Nat} {R : Value} {p : Nat -> Pg} (h : KindAt w bk m R p) (hz : w.heap.size <= w'.heap.size) (hb : w'.heap[bk]? = w.heap[bk]?) (hr : ∀ q, R.ownBlock = some q -> w'.heap[q]? = w.heap[q]?) (hp : ∀ i, i < m -> ∀ q, (p i).has q -> w'.heap[q]? = w.heap[q]?) : KindAt w' bk m R p :=
 ⟨(World.cell?_of_block hb).trans h.c1, fun i => (World.frozen?_of_block hb).trans (h.fz i), row_far h.row hr, h.rb,
  fun i hi => (h.ok i hi).far hz (hp i hi), fun i hi q hq => ⟨(h.far i hi q hq).1, (h.far i hi q hq).2.1, by have := (h.far i hi q hq).2.2; omega⟩, h.apart⟩
theorem KindAt.below {w w' : World} {bk m : Nat} {R : Value} {p : Nat -> Pg} (h : KindAt w bk m R p) (hb : Below w.heap.size w w') : KindAt w' bk m R p :=
 h.stay hb.size (hb.block _ h.lt) (fun q hq => hb.block q (h.row.lt q hq).2) (fun i hi q hq => hb.block q (h.far i hi q hq).2.2)
theorem KindAt.put {w w' : World} {bk m i : Nat} {R : Value} {p : Nat -> Pg} {P : Pg} (h : KindAt w bk m R p) (hi : i < m) (hrow : w'.ownsRow 0 115 5 R m (pages (upd p i P) m)) (hok : P.OK w') (hz : w.heap.size <= w'.heap.size)
  (hfar : ∀ q, q < w.heap.size -> R.ownBlock ≠ some q -> ¬ (p i).has q -> w'.heap[q]? = w.heap[q]?) (hhas : ∀ q, P.has q -> (p i).has q \/ w.heap.size <= q) (hlt : ∀ q, P.has q -> q < w'.heap.size) : KindAt w' bk m R (upd p i P) := by
 have hbk := h.lt
 have hb : w'.heap[bk]? = w.heap[bk]? := hfar bk hbk h.rb (fun hq => (h.far i hi bk hq).1 rfl)
 have hRlt : ∀ q, R.ownBlock = some q -> q < w.heap.size := fun q hq => (h.row.lt q hq).2
 refine ⟨(World.cell?_of_block hb).trans h.c1, fun i => (World.frozen?_of_block hb).trans (h.fz i), hrow, h.rb, fun j hj => ?_, fun j hj q hq => ?_, fun a b ha hb' hab q hq hq' => ?_⟩
 ·by_cases e : j = i
  ·subst e; rw [upd_same]; exact hok
  ·rw [upd_other _ _ _ _ e]
   exact (h.ok j hj).far hz (fun q hq => hfar q (h.far j hj q hq).2.2 (h.far j hj q hq).2.1 (h.apart j i hj hi e q hq))
 ·by_cases e : j = i
  ·subst e
   rw [upd_same] at hq
   rcases hhas q hq with h' | h'
   ·exact ⟨(h.far j hj q h').1, (h.far j hj q h').2.1, hlt q hq⟩
   ·exact ⟨by omega, fun e => by have := hRlt q e; omega, hlt q hq⟩
  ·rw [upd_other _ _ _ _ e] at hq
   exact ⟨(h.far j hj q hq).1, (h.far j hj q hq).2.1, by have := (h.far j hj q hq).2.2; omega⟩
 ·by_cases e : a = i
  ·subst e
   rw [upd_same] at hq
   rw [upd_other _ _ _ _ (fun e => hab e.symm)] at hq'
   rcases hhas q hq with h' | h'
   ·exact h.apart a b ha hb' hab q h' hq'
   ·have := (h.far b hb' q hq').2.2; omega
  ·rw [upd_other _ _ _ _ e] at hq
   by_cases e' : b = i
   ·subst e'
    rw [upd_same] at hq'
    rcases hhas q hq' with h' | h'
    ·exact h.apart a b ha hb' hab q hq h'
    ·have := (h.far a ha q hq).2.2; omega
   ·rw [upd_other _ _ _ _ e'] at hq'
    exact h.apart a b ha hb' hab q hq hq'
theorem KindAt.push {w w' : World} {bk m : Nat} {R R' : Value} {p : Nat -> Pg} {P : Pg} (h : KindAt w bk m R p) (c1 : w'.cell? ⟨bk, 7, none⟩ = some R') (cf : ∀ i, w'.frozen? ⟨bk, i, none⟩ = w.frozen? ⟨bk, i, none⟩)
  (hrow : w'.ownsRow 0 115 5 R' (m + 1) (pages p m ++ P.cells)) (hR : ∀ q, R'.ownBlock = some q -> q ≠ bk /\ ¬ P.has q /\ (R.ownBlock = some q \/ w.heap.size <= q)) (hok : P.OK w') (hz : w.heap.size <= w'.heap.size)
  (hfar : ∀ i, i < m -> ∀ q, (p i).has q -> w'.heap[q]? = w.heap[q]?) (hP : ∀ q, P.has q -> q ≠ bk /\ q < w'.heap.size /\ ∀ i, i < m -> ¬ (p i).has q) : KindAt w' bk (m + 1) R' (upd p m P) := by
 have hin : ∀ j, j < m + 1 -> j ≠ m -> j < m := fun j h1 h2 => by omega
 refine ⟨c1, fun i => (cf i).trans (h.fz i), ?_, fun e => (hR bk e).1 rfl, fun j hj => ?_, fun j hj q hq => ?_, fun a b ha hb' hab q hq hq' => ?_⟩
 ·rw [pages, upd_same, pages_ext m (p' := p) (fun j hj => by rw [upd_other _ _ _ _ (by omega)])]
  exact hrow
 ·by_cases e : j = m
  ·subst e; rw [upd_same]; exact hok
  ·rw [upd_other _ _ _ _ e]
   exact (h.ok j (hin j hj e)).far hz (fun q hq => hfar j (hin j hj e) q hq)
 ·by_cases e : j = m
  ·subst e
   rw [upd_same] at hq
   exact ⟨(hP q hq).1, fun e => (hR q e).2.1 hq, (hP q hq).2.1⟩
  ·rw [upd_other _ _ _ _ e] at hq
   have hf := h.far j (hin j hj e) q hq
   exact ⟨hf.1, fun e => by rcases (hR q e).2.2 with h' | h'; exact hf.2.1 h'; omega, by omega⟩
 ·by_cases e : a = m
  ·subst e
   rw [upd_same] at hq
   rw [upd_other _ _ _ _ (fun e => hab e.symm)] at hq'
   exact (hP q hq).2.2 b (hin b hb' (fun e => hab e.symm)) hq'
  ·rw [upd_other _ _ _ _ e] at hq
   by_cases e' : b = m
   ·subst e'
    rw [upd_same] at hq'
    exact (hP q hq').2.2 a (hin a ha e) hq
   ·rw [upd_other _ _ _ _ e'] at hq'
    exact h.apart a b (hin a ha e) (hin b hb' e') hab q hq hq'
structure Rest (w w' : World) (R : Value) (p : Nat -> Pg) (m : Nat) : Prop where
 size : w.heap.size <= w'.heap.size
 os : w'.os = w.os
 tape : w'.tape = w.tape
 output : w'.output = w.output
 block : ∀ q, q < w.heap.size -> R.ownBlock ≠ some q -> (∀ i, i < m -> ¬ (p i).has q) -> w'.heap[q]? = w.heap[q]?
theorem Rest.refl (w : World) (R : Value) (p : Nat -> Pg) (m : Nat) : Rest w w R p m := ⟨Nat.le_refl _, rfl, rfl, rfl, fun _ _ _ _ => rfl⟩
theorem Rest.trans {w w1 w' : World} {R : Value} {p p' : Nat -> Pg} {m : Nat} (h : Rest w w1 R p m) (h' : Rest w1 w' R p' m) (hhas : ∀ i, i < m -> ∀ q, (p' i).has q -> (p i).has q \/ w.heap.size <= q) : Rest w w' R p m :=
 ⟨Nat.le_trans h.size h'.size, h'.os.trans h.os, h'.tape.trans h.tape, h'.output.trans h.output, fun q h1 h2 h3 => (h'.block q (Nat.lt_of_lt_of_le h1 h.size) h2 (fun i hi hq => by rcases hhas i hi q hq with h4 | h4; exact h3 i hi h4; omega)).trans (h.block q h1 h2 h3)⟩
end Go.Proofs.YtpeohbkigkfcgabGreatDoor.Kp
namespace Go.Proofs.YtpeohbkigkfcgabGreatDoor.Kp
open Go Go.ChangeShapes Go.WideShapes Go.ChangeAt Go.RowKit
attribute [local go_sem] setCell_drewN alloc_drewN
theorem shows_page (p : Pg) (w : World) (h : p.OK w) (hs : p.s ≠ 1) : Calls Tryz.prog 122 #[.agg #[p.L, p.G, p.W, .int .i64 (p.id : Int), .bool (decide (0 < p.s))]] w fun e w' => e = .returned (.bool true) /\ Below w.heap.size w w' := by
 obtain ⟨L, n, G, W, id, s, f⟩ := p
 have hle := h.le
 have hid := h.idl
 have h3 := h.s3
 simp only at hs hle hid h3
 have hcase : s = 0 \/ s = 2 := by omega
 rcases hcase with rfl | rfl
 ·obtain ⟨h1, h2, h4, _, gw, cw, h5⟩ := h.s0 rfl
  simp only at h1 h2 h4 h5
  subst h2 h5
  rcases LShows.of_own h1 with ⟨rfl, rfl⟩ | ⟨gb, cap, rfl, hlt, hc⟩
  ·exact shows_bare _ _ _
  ·refine shows_kept f gb gw n cap cw id hle w (fun _ => hlt) (fun _ => (h4.lt gw rfl).2) (hide hc) (hide fun k hk => ?_)
   rw [h4.cellAt k (by omega)]
   exact bcells_get f n k hk
 ·obtain ⟨h1, h2⟩ := h.s2 rfl
  simp only at h1 h2
  obtain ⟨g, c, hv⟩ := own_open h2 (by omega)
  subst hv
  rcases h1 with ⟨rfl, rfl⟩ | ⟨gb, cap, rfl, hlt, hc⟩
  ·have hd : ∀ k, k < 64 -> w.cell? ⟨g, k, none⟩ = some (.int .u8 (patN (id + 100000) k : Int)) := fun k hk => by
    rw [h2.cellAt k (by omega), bcells_get _ _ _ (by omega)]
    have e := cat_ge (f := patN id) (g := patN (id + 100000)) (n := 0) k
    rw [Nat.zero_add] at e
    rw [e]
   have := shows_done0 g c id W hid w (h2.lt g rfl).2 (hide hd)
   rw [Nat.zero_add]
   exact this
  ·refine shows_done gb g n cap c id W hle hid w (fun _ => hlt) (h2.lt g rfl).2 (hide hc) (hide fun k hk => ?_)
   rw [h2.cellAt k (by omega)]
   exact bcells_get _ _ k hk
theorem KindAt.cell {w : World} {bk m g6 c6 : Nat} {p : Nat -> Pg} (h : KindAt w bk m (.slice (some ⟨g6, 0, none⟩) m c6) p) (i : Nat) (hi : i < m) (c : Nat) (hc : c < 5) : w.cell? ⟨g6, i * 5 + c, none⟩ = (p i).cells[c]? := by
 rw [h.row.cellAt (i * 5 + c) (by omega)]
 exact pages_get p c hc m i hi
theorem intact_book {w : World} {bk m : Nat} {R : Value} {p : Nat -> Pg} (h : KindAt w bk m R p) (hm : m <= 96) (hs : ∀ i, i < m -> (p i).s ≠ 1) : Calls Tryz.prog 17 #[.pointer (some ⟨bk, 6, none⟩)] w fun e w' => e = .returned (.bool true) /\ Below w.heap.size w w' := by
 have HB := hide h
 have HS := hide hs
 have hR : ∃ pa pc, R = .slice pa m pc /\ (0 < m -> ∃ g6, pa = some ⟨g6, 0, none⟩) := by
  rcases h.row.2 with ⟨h1, h2⟩ | ⟨g, c, cur, h1, _⟩
  ·exact ⟨none, 0, by rw [h1, h2], fun h => by omega⟩
  ·exact ⟨_, c, h1, fun _ => ⟨g, rfl⟩⟩
 obtain ⟨pa, pc, rfl, hpa⟩ := hR
 have HPA := hide hpa
 have hc1 := h.c1
 clear h hs hpa
 go_enter Tryz.func17, Tryz.ntmps17
 go_wp2_with fail
 go_loopw [3] (fun i wr => ∃ (j : Nat), j <= m /\ i = .int .i64 (j : Int) /\ Below w.heap.size w wr) (fun i _ => m - (intOf i).toNat)
 case atStart => exact ⟨0, by omega, rfl, Below.refl _ _⟩
 case round =>
  obtain ⟨j, hj, rfl, hb⟩ := hrel
  have hbr := (uh HB).below hb
  have l1 := hbr.c1
  have HBE := hide hb
  clear hc1
  by_cases hlt : j < m
  ·obtain ⟨g6, rfl⟩ := uh HPA (by omega)
   have a0 := hbr.cell j hlt 0 (by omega)
   have a1 := hbr.cell j hlt 1 (by omega)
   have a2 := hbr.cell j hlt 2 (by omega)
   have a3 := hbr.cell j hlt 3 (by omega)
   have a4 := hbr.cell j hlt 4 (by omega)
   simp only [Pg.cells, List.getElem?_cons_zero, List.getElem?_cons_succ, Nat.add_zero] at a0 a1 a2 a3 a4
   have hsh := hide (shows_page (p j) wr (hbr.ok j hlt) (uh HS j hlt))
   have hI : (j : Int) < (m : Int) := by omega
   have hI0 : (0 : Int) <= (j : Int) := by omega
   clear hbr hb
   go_wp2_with fail
   refine (uh hsh).mono ?_
   rintro e w2 ⟨rfl, hb2⟩
   have HB2 := hide hb2
   clear hb2
   go_wp2_with fail
   refine ⟨⟨j + 1, by omega, by go_num, ?_⟩, by simp [intOf]; omega⟩
   exact (uh HBE).trans ((uh HB2).mono (uh HBE).size)
  ·have hjm : j = m := by omega
   subst hjm
   have hI : ¬ (j : Int) < (j : Int) := by omega
   clear hbr hb
   go_wp2_with fail
   go_ret
   exact ⟨rfl, uh HBE⟩
def Went (w w' : World) (bk m : Nat) (R : Value) (p p' : Nat -> Pg) : Prop :=
 KindAt w' bk m R p' /\ Rest w w' R p m /\ ∀ i, i < m -> ∀ q, (p' i).has q -> (p i).has q \/ w.heap.size <= q
theorem Went.refl {w : World} {bk m : Nat} {R : Value} {p : Nat -> Pg} (h : KindAt w bk m R p) : Went w w bk m R p p := ⟨h, Rest.refl _ _ _ _, fun _ _ _ hq => .inl hq⟩
theorem Went.trans {w w1 w' : World} {bk m : Nat} {R : Value} {p p1 p' : Nat -> Pg} (h : Went w w1 bk m R p p1) (h' : Went w1 w' bk m R p1 p') : Went w w' bk m R p p' :=
 ⟨h'.1, h.2.1.trans h'.2.1 h.2.2, fun i hi q hq => by
  rcases h'.2.2 i hi q hq with h1 | h1
  ·exact h.2.2 i hi q h1
  ·exact .inr (Nat.le_trans h.2.1.size h1)⟩
theorem went_of {w w' : World} {bk m i : Nat} {R : Value} {p : Nat -> Pg} {P : Pg} (h : KindAt w bk m R p) (hi : i < m) (hrow : w'.ownsRow 0 115 5 R m (pages (upd p i P) m)) (hok : P.OK w') (hz : w.heap.size <= w'.heap.size) (os : w'.os = w.os) (tp : w'.tape = w.tape) (ou : w'.output = w.output)
  (hfar : ∀ q, q < w.heap.size -> R.ownBlock ≠ some q -> ¬ (p i).has q -> w'.heap[q]? = w.heap[q]?) (hhas : ∀ q, P.has q -> (p i).has q \/ w.heap.size <= q) (hlt : ∀ q, P.has q -> q < w'.heap.size) : Went w w' bk m R p (upd p i P) := by
 refine ⟨h.put hi hrow hok hz hfar hhas hlt, ⟨hz, os, tp, ou, fun q h1 h2 h3 => hfar q h1 h2 (h3 i hi)⟩, fun j hj q hq => ?_⟩
 by_cases e : j = i
 ·subst e; rw [upd_same] at hq; exact hhas q hq
 ·rw [upd_other _ _ _ _ e] at hq; exact .inl hq
theorem fill_page {w : World} {bk m g6 c6 : Nat} {p : Nat -> Pg} (h : KindAt w bk m (.slice (some ⟨g6, 0, none⟩) m c6) p) (i : Nat) (hi : i < m) (hs : (p i).s = 0) :
  Calls Tryz.prog 153 #[.pointer (some ⟨g6, i * 5, none⟩)] w fun e w' => e = .returned (.tuple #[]) /\ ∃ P, P.s = 1 /\ Went w w' bk m (.slice (some ⟨g6, 0, none⟩) m c6) p (upd p i P) := by
 obtain ⟨h1, h2, h4, h5, gw, cw, h6⟩ := (h.ok i hi).s0 hs
 have a0 := h.cell i hi 0 (by omega)
 have a3 := h.cell i hi 3 (by omega)
 have a4 := h.cell i hi 4 (by omega)
 have f4 := h.row.frozenAt (i * 5 + 4)
 simp only [Pg.cells, List.getElem?_cons_zero, List.getElem?_cons_succ, Nat.add_zero] at a0 a3 a4
 have hset : ({ p i with s := 1 } : Pg).cells = (p i).cells.set 4 (.bool true) := by simp [Pg.cells]
 have hhas : ∀ q, ({ p i with s := 1 } : Pg).has q -> (p i).has q \/ w.heap.size <= q := fun q hq => .inl hq
 have hlt : ∀ q, ({ p i with s := 1 } : Pg).has q -> q < w.heap.size := fun q hq => (h.far i hi q hq).2.2
 rcases LShows.of_own h1 with ⟨hn0, hL⟩ | ⟨gb, cap, hL, hgl, hc⟩
 ·rw [hL] at a0
  refine (fill_none g6 (i * 5) w a0 ⟨_, a4⟩ f4).mono ?_
  rintro e w' ⟨rfl, rfl⟩
  have hst := h.row.stored (i * 5 + 4) (.bool true)
  refine ⟨rfl, { p i with s := 1 }, rfl, went_of h hi ?_ ?_ hst.2.size rfl rfl rfl (fun q hq h7 _ => hst.2.block q hq (fun e => h7 (by rw [e]; rfl))) hhas (fun q hq => by have := hlt q hq; have := hst.2.size; omega)⟩
  ·rw [<- pages_set p i { p i with s := 1 } 4 (.bool true) (by omega) hset m hi]
   exact hst.1
  ·refine ⟨(h.ok i hi).le, (h.ok i hi).idl, fun e => by simp at e, fun _ => ⟨?_, h2⟩, fun e => by simp at e, by simp⟩
   show World.ownsRow _ 0 5 1 (p i).L (p i).n (bcells (patN (p i).id) (p i).n)
   rw [hL, hn0]
   exact World.ownsRow_nil _ _ _ _
 ·have hne : g6 ≠ gb := fun e => (h.far i hi gb (.inl (by rw [hL]; rfl))).2.1 (by rw [e]; rfl)
  rw [hL] at a0 h1
  refine (fill_some g6 (i * 5) gb (p i).n cap (p i).id (p i).f (h.ok i hi).le (h.ok i hi).idl w hne a0 a3 ⟨_, a4⟩ f4 hc (fun j _ => h1.frozenAt j) hgl).mono ?_
  rintro e w' ⟨rfl, w1, hF, rfl⟩
  have hrow1 : w1.ownsRow 0 115 5 (.slice (some ⟨g6, 0, none⟩) m c6) m (pages p m) := row_far h.row (fun q hq => by injection hq with hq; have hq : g6 = q := hq; subst hq; exact hF.gr.block g6 (h.row.lt g6 rfl).2 (by simpa using hne))
  have hst := hrow1.stored (i * 5 + 4) (.bool true)
  have hz := Nat.le_trans hF.gr.size hst.2.size
  refine ⟨rfl, { p i with s := 1 }, rfl, went_of h hi ?_ ?_ hz (hst.2.os.trans hF.gr.os) (hst.2.tape.trans hF.gr.tape) (hst.2.output.trans hF.gr.output) (fun q hq h7 h8 => ?_) hhas (fun q hq => by have := hlt q hq; omega)⟩
  ·rw [<- pages_set p i { p i with s := 1 } 4 (.bool true) (by omega) hset m hi]
   exact hst.1
  ·refine ⟨(h.ok i hi).le, (h.ok i hi).idl, fun e => by simp at e, fun _ => ⟨?_, h2⟩, fun e => by simp at e, by simp⟩
   show World.ownsRow _ 0 5 1 (p i).L (p i).n (bcells (patN (p i).id) (p i).n)
   rw [hL]
   exact row_far (hF.own h1) (fun q hq => by injection hq with hq; have hq : gb = q := hq; subst hq; exact Below.heap_setCell _ _ _ _ hne.symm)
  ·rw [hst.2.block q (Nat.lt_of_lt_of_le hq hF.gr.size) (fun e => h7 (by rw [e]; rfl))]
   exact hF.gr.block q hq (fun e => h8 (.inl (by rw [hL, e]; rfl)))
theorem grow_page {w : World} {bk m g6 c6 : Nat} {p : Nat -> Pg} (h : KindAt w bk m (.slice (some ⟨g6, 0, none⟩) m c6) p) (i : Nat) (hi : i < m) (hs : (p i).s = 1) :
  Calls Tryz.prog 173 #[.pointer (some ⟨g6, i * 5, none⟩)] w fun e w' => e = .returned (.tuple #[]) /\ ∃ P, P.s = 2 /\ Went w w' bk m (.slice (some ⟨g6, 0, none⟩) m c6) p (upd p i P) := by
 obtain ⟨h1, h2⟩ := (h.ok i hi).s1 hs
 have a0 := h.cell i hi 0 (by omega)
 have a1 := h.cell i hi 1 (by omega)
 have a3 := h.cell i hi 3 (by omega)
 have f1 := h.row.frozenAt (i * 5 + 1)
 simp only [Pg.cells, List.getElem?_cons_zero, List.getElem?_cons_succ, Nat.add_zero] at a0 a1 a3
 have hgl6 := (h.row.lt g6 rfl).2
 have hset : ∀ v, ({ p i with s := 2, G := v } : Pg).cells = (p i).cells.set 1 v := fun v => by simp [Pg.cells, hs]
 have key : ∀ gb w' v, GrowAt w g6 (i * 5) gb (p i).n (p i).id 0 64 v w' -> g6 ≠ gb -> ((p i).L.ownBlock = some gb \/ w.heap.size <= gb) -> LShows w' (p i).L (p i).n (patN (p i).id) -> Went w w' bk m (.slice (some ⟨g6, 0, none⟩) m c6) p (upd p i { p i with s := 2, G := v }) := by
  intro gb w' v hG hne hgb hls
  have hhas : ∀ q, ({ p i with s := 2, G := v } : Pg).has q -> (p i).has q \/ w.heap.size <= q := by
   intro q hq
   rcases hq with hq | hq | hq
   ·exact .inl (.inl hq)
   ·have hq : v.ownBlock = some q := hq
    rcases hG.at' with h' | h'
    ·rw [h'] at hq
     injection hq with hq
     subst hq
     exact hgb.imp .inl id
    ·exact .inr (h' q hq)
   ·exact .inl (.inr (.inr hq))
  refine went_of h hi ?_ ?_ hG.size hG.os hG.tape hG.output (fun q hq h7 h8 => hG.far q hq (fun e => h7 (by rw [e]; rfl)) (fun e => ?_)) hhas (fun q hq => ?_)
  ·rw [<- pages_set p i _ 1 v (by omega) (hset v) m hi]
   refine ⟨by rw [List.length_set]; exact h.row.1, .inr ?_⟩
   rcases h.row.2 with ⟨h', _⟩ | ⟨g, c, cur, h', hb, hg, hc1, hc2, hsz, htk⟩
   ·cases h'
   ·injection h' with h' _ h2'
    injection h' with h'
    injection h' with h' _ _
    subst h' h2'
    obtain ⟨cur', h3, h4⟩ := hG.pobj 115 _ ⟨cur, hg, hsz⟩
    refine ⟨g6, c6, cur', rfl, hb, h3, hc1, hc2, h4, ?_⟩
    apply List.ext_getElem?
    intro j
    by_cases hj : j < m * 5
    ·rw [List.getElem?_take_of_lt hj]
     have e1 : cur'.toList[j]? = w'.cell? ⟨g6, j, none⟩ := by simp [World.cell?, h3]
     rw [e1]
     by_cases hj1 : j = i * 5 + 1
     ·subst hj1
      rw [hG.g, List.getElem?_set_self (by rw [pages_len]; omega)]
     ·rw [hG.page j hj1, List.getElem?_set_ne (fun e => hj1 e.symm), h.row.cellAt j hj]
    ·rw [List.getElem?_eq_none (by simp; omega), List.getElem?_eq_none (by rw [List.length_set, pages_len]; omega)]
  ·refine ⟨(h.ok i hi).le, (h.ok i hi).idl, fun e => by simp at e, fun e => by simp at e, fun _ => ⟨hls, hG.own⟩, by simp⟩
  ·subst e
   rcases hgb with h9 | h9
   ·exact h8 (.inl h9)
   ·omega
  ·rcases hq with hq | hq | hq
   ·have := (h.far i hi q (.inl hq)).2.2; have := hG.size; omega
   ·exact (hG.own.lt q hq).2
   ·have := (h.far i hi q (.inr (.inr hq))).2.2; have := hG.size; omega
 rcases LShows.of_own h1 with ⟨hn0, hL⟩ | ⟨gb, cap, hL, hgl, hc⟩
 ·rw [hL] at a0
  refine (grow_none g6 (i * 5) (p i).id 0 (h.ok i hi).idl w (Nat.zero_le _) a0 ⟨_, a1⟩ f1 a3).mono ?_
  rintro e w' ⟨rfl, v, hG⟩
  have hG' : GrowAt w g6 (i * 5) w.heap.size (p i).n (p i).id 0 64 v w' := by rw [hn0]; exact hG
  exact ⟨rfl, _, rfl, key w.heap.size w' v hG' (by omega) (.inr (Nat.le_refl _)) (.inl ⟨hn0, hL⟩)⟩
 ·have hne : g6 ≠ gb := fun e => (h.far i hi gb (.inl (by rw [hL]; rfl))).2.1 (by rw [e]; rfl)
  rw [hL] at a0 h1
  refine (grow_some g6 (i * 5) gb (p i).n cap (p i).id 0 (h.ok i hi).idl (h.ok i hi).le w (Nat.zero_le _) hne hgl a0 ⟨_, a1⟩ f1 a3 h1).mono ?_
  rintro e w' ⟨rfl, v, hG⟩
  exact ⟨rfl, _, rfl, key gb w' v hG hne (.inl (by rw [hL]; rfl)) (.inr ⟨gb, cap, hL, by have := hG.size; omega, hG.lst⟩)⟩
theorem book_row {w : World} {bk m : Nat} {R : Value} {p : Nat -> Pg} (h : KindAt w bk m R p) : ∃ pa pc, R = .slice pa m pc /\ (0 < m -> ∃ g6, pa = some ⟨g6, 0, none⟩) := by
 rcases h.row.2 with ⟨h1, h2⟩ | ⟨g, c, cur, h1, _⟩
 ·exact ⟨none, 0, by rw [h1, h2], fun h => by omega⟩
 ·exact ⟨_, c, h1, fun _ => ⟨g, rfl⟩⟩
theorem fill_book {w : World} {bk m : Nat} {R : Value} {p : Nat -> Pg} (h : KindAt w bk m R p) (hm : m <= 96) : Calls Tryz.prog 50 #[.pointer (some ⟨bk, 6, none⟩)] w fun e w' => e = .returned (.tuple #[]) /\ ∃ p', Went w w' bk m R p p' /\ ∀ i, i < m -> (p' i).s ≠ 0 := by
 have HB := hide h
 obtain ⟨pa, pc, rfl, hpa⟩ := book_row h
 have HPA := hide hpa
 have hc1 := h.c1
 clear h hpa
 go_enter Tryz.func50, Tryz.ntmps50
 go_wp2_with fail
 go_loopw [2] (fun i wr => ∃ (j : Nat) (pr : Nat -> Pg), j <= m /\ i = .int .i64 (j : Int) /\ Went w wr bk m (.slice pa m pc) p pr /\ ∀ i, i < j -> (pr i).s ≠ 0) (fun i _ => m - (intOf i).toNat)
 case atStart => exact ⟨0, p, by omega, rfl, Went.refl (uh HB), fun i hi => by omega⟩
 case round =>
  obtain ⟨j, pr, hj, rfl, hw, hd⟩ := hrel
  have hbr := hw.1
  have l1 := hbr.c1
  have HW := hide hw
  have HD := hide hd
  clear hc1 hw hd
  by_cases hlt : j < m
  ·obtain ⟨g6, rfl⟩ := uh HPA (by omega)
   have a4 := hbr.cell j hlt 4 (by omega)
   simp only [Pg.cells, List.getElem?_cons_zero, List.getElem?_cons_succ] at a4
   have hI : (j : Int) < (m : Int) := by omega
   have hI0 : (0 : Int) <= (j : Int) := by omega
   by_cases hs : (pr j).s = 0
   ·have hfp := hide (fill_page hbr j hlt hs)
    have hd0 : decide (0 < (pr j).s) = false := by rw [hs]; rfl
    rw [hd0] at a4
    clear hbr hd0
    go_wp2_with fail
    refine (uh hfp).mono ?_
    rintro e w2 ⟨rfl, P, hP, hw2⟩
    have HW2 := hide hw2
    clear hw2
    go_wp2_with fail
    refine ⟨⟨j + 1, upd pr j P, by omega, by go_num, (uh HW).trans (uh HW2), fun i hi => ?_⟩, by simp [intOf]; omega⟩
    by_cases e : i = j
    ·subst e; rw [upd_same, hP]; omega
    ·rw [upd_other _ _ _ _ e]; exact uh HD i (by omega)
   ·have hd0 : decide (0 < (pr j).s) = true := by simp; omega
    rw [hd0] at a4
    clear hbr hd0
    go_wp2_with fail
    refine ⟨⟨j + 1, pr, by omega, by go_num, uh HW, fun i hi => ?_⟩, by simp [intOf]; omega⟩
    by_cases e : i = j
    ·subst e; exact hs
    ·exact uh HD i (by omega)
  ·have hjm : j = m := by omega
   subst hjm
   have hI : ¬ (j : Int) < (j : Int) := by omega
   clear hbr
   go_wp2_with fail
   go_end0
   exact ⟨rfl, pr, uh HW, uh HD⟩
theorem grow_book {w : World} {bk m : Nat} {R : Value} {p : Nat -> Pg} (h : KindAt w bk m R p) (hm : m <= 96) (h0 : ∀ i, i < m -> (p i).s ≠ 0) : Calls Tryz.prog 70 #[.pointer (some ⟨bk, 6, none⟩)] w fun e w' => e = .returned (.tuple #[]) /\ ∃ p', Went w w' bk m R p p' /\ ∀ i, i < m -> (p' i).s = 2 := by
 have HB := hide h
 have H0 := hide h0
 obtain ⟨pa, pc, rfl, hpa⟩ := book_row h
 have HPA := hide hpa
 have hc1 := h.c1
 clear h hpa h0
 go_enter Tryz.func70, Tryz.ntmps70
 go_wp2_with fail
 go_loopw [2] (fun i wr => ∃ (j : Nat) (pr : Nat -> Pg), j <= m /\ i = .int .i64 (j : Int) /\ Went w wr bk m (.slice pa m pc) p pr /\ (∀ i, i < j -> (pr i).s = 2) /\ ∀ i, i < m -> (pr i).s ≠ 0) (fun i _ => m - (intOf i).toNat)
 case atStart => exact ⟨0, p, by omega, rfl, Went.refl (uh HB), fun i hi => by omega, uh H0⟩
 case round =>
  obtain ⟨j, pr, hj, rfl, hw, hd, hn0⟩ := hrel
  have hbr := hw.1
  have l1 := hbr.c1
  have HW := hide hw
  have HD := hide hd
  have HN := hide hn0
  clear hc1 hw hd hn0
  by_cases hlt : j < m
  ·obtain ⟨g6, rfl⟩ := uh HPA (by omega)
   have a1 := hbr.cell j hlt 1 (by omega)
   simp only [Pg.cells, List.getElem?_cons_zero, List.getElem?_cons_succ] at a1
   have hI : (j : Int) < (m : Int) := by omega
   have hI0 : (0 : Int) <= (j : Int) := by omega
   by_cases hs : (pr j).s = 1
   ·have hfp := hide (grow_page hbr j hlt hs)
    rw [((hbr.ok j hlt).s1 hs).2] at a1
    clear hbr
    go_wp2_with fail
    refine (uh hfp).mono ?_
    rintro e w2 ⟨rfl, P, hP, hw2⟩
    have HW2 := hide hw2
    clear hw2
    go_wp2_with fail
    refine ⟨⟨j + 1, upd pr j P, by omega, by go_num, (uh HW).trans (uh HW2), fun i hi => ?_, fun i hi => ?_⟩, by simp [intOf]; omega⟩
    ·by_cases e : i = j
     ·subst e; rw [upd_same, hP]
     ·rw [upd_other _ _ _ _ e]; exact uh HD i (by omega)
    ·by_cases e : i = j
     ·subst e; rw [upd_same, hP]; omega
     ·rw [upd_other _ _ _ _ e]; exact uh HN i hi
   ·have hs2 : (pr j).s = 2 := by have := uh HN j hlt; have := (hbr.ok j hlt).s3; omega
    obtain ⟨g7, c7, hv7⟩ := own_open ((hbr.ok j hlt).s2 hs2).2 (by omega)
    rw [hv7] at a1
    obtain ⟨N, hN⟩ : ∃ N, N = (pr j).n + 64 := ⟨_, rfl⟩
    have hN0 : ¬ (N : Int) = 0 := by omega
    have hN1 : ¬ N = 0 := by omega
    rw [<- hN] at a1
    clear hbr hN
    go_wp2_with fail
    refine ⟨⟨j + 1, pr, by omega, by go_num, uh HW, fun i hi => ?_, uh HN⟩, by simp [intOf]; omega⟩
    by_cases e : i = j
    ·subst e; exact hs2
    ·exact uh HD i (by omega)
  ·have hjm : j = m := by omega
   subst hjm
   have hI : ¬ (j : Int) < (j : Int) := by omega
   clear hbr
   go_wp2_with fail
   go_end0
   exact ⟨rfl, pr, uh HW, uh HD⟩
theorem keep_bytes (bk k n cap gb B : Nat) (f : Nat -> Nat) (hk : k < 900) (hn : n <= 1048576) (hn0 : 0 < n) (w : World) (m pc : Nat) (pa : Option Addr) (xs : List Value) (hB : B <= w.heap.size) (hm : m < 96) (hk0 : w.cell? ⟨bk, 6, none⟩ = some (.int .i64 (k : Int))) (hk1 : w.cell? ⟨bk, 7, none⟩ = some (.slice pa m pc)) (hf0 : w.frozen? ⟨bk, 6, none⟩ = false) (hf1 : w.frozen? ⟨bk, 7, none⟩ = false)
  (hgb : gb < w.heap.size) (hc : ∀ j, j < n -> w.cell? ⟨gb, j, none⟩ = some (.int .u8 (f j : Int))) (hp : w.ownsRow B 115 5 (.slice pa m pc) m xs) (hpb : ∀ q, (Value.slice pa m pc).ownBlock = some q -> q ≠ bk) :
  Calls Tryz.prog 111 #[.pointer (some ⟨bk, 6, none⟩), .slice (some ⟨gb, 0, none⟩) n cap] w fun e w' => e = .returned (.tuple #[]) /\ KeepOut w bk k m B (.slice (some ⟨gb, 0, none⟩) n cap) n f (.slice pa m pc) xs w' := by
 have hI1 : (m : Int) < 96 := by omega
 have hbk : bk < w.heap.size := World.block_lt_of_cell? w ⟨bk, 7, none⟩ hk1
 obtain ⟨i0, hi, hz0, hz1, hz2⟩ := info_parts info5
 have HI := hide hi; have HZ0 := hide hz0; have HZ1 := hide hz1; have HZ2 := hide hz2
 have hnl := hide (World.ownsRow_lit (base := w.heap.size) (e := 5) (size := 1) w #[] 0 (Nat.le_refl _) (by unfold maxLen; omega) rfl)
 have hc1 := hide (fun o j (hj : j < n) => (World.cell?_alloc_lt w o ⟨gb, j, none⟩ hgb).trans (hc j hj))
 have HP := hide hp
 have HC := hide hc
 have k1a := fun o => (World.cell?_alloc_lt w o ⟨bk, 7, none⟩ hbk).trans hk1
 have k0a := hide (fun o => (World.cell?_alloc_lt w o ⟨bk, 6, none⟩ hbk).trans hk0)
 have f0a := hide (fun o => show (w.alloc o).frozen? ⟨bk, 6, none⟩ = false from ((bal (Below.refl w.heap.size w) o).frozen (p := ⟨bk, 6, none⟩) hbk).trans hf0)
 have f1a := hide (fun o => show (w.alloc o).frozen? ⟨bk, 7, none⟩ = false from ((bal (Below.refl w.heap.size w) o).frozen (p := ⟨bk, 7, none⟩) hbk).trans hf1)
 have hpa := hide (fun o => show bk < (w.alloc o).heap.size from by rw [World.size_alloc]; omega)
 have hvn : Hid (∀ q, (Value.slice (some ⟨w.heap.size, 0, none⟩) 0 0).ownBlock = some q -> q ≠ bk) := by
  intro q hq
  simp [Value.ownBlock] at hq
  omega
 have hvh : Hid (∀ q, (Value.slice (some ⟨w.heap.size, 0, none⟩) 0 0).ownBlock = some q -> w.heap.size <= q) := by
  intro q hq
  simp [Value.ownBlock] at hq
  omega
 have HPB := hide hpb
 clear hpb
 have hid := hide (id_any bk k (by omega))
 clear hi hz0 hz1 hz2 hp hc hk0 hf0
 go_enter Tryz.func111, Tryz.ntmps111
 go_wp2_with fail
 go_region_law (first
  | (go_simp; go_at_call 214; refine (uh hid _ (uh t0) (uh u0)).mono ?_; rintro e w2 ⟨rfl, hw⟩; rw [hw]; clear hw)
  | (refine step_append_page _ rfl _ _ rfl B (.slice pa m pc) m xs rfl (row_far (uh HP) (fun q hq => by have hq1 := ((uh HP).lt q hq).2; rw [Below.heap_alloc _ _ _ (by simpa using Nat.lt_of_lt_of_le hq1 (uh G5).1.size), Below.heap_setCell _ _ _ _ (uh HPB q hq)]; exact (uh G5).1.block q hq1)) ⟨w5.heap.size, 0, none⟩ 1 [.slice (some ⟨gb, 0, none⟩) n cap, .slice none 0 0, .slice (some ⟨g, 0, none⟩) n c5, .int .i64 ((k : Int) + 1), .bool false] rfl rfl (five_new (by simp) _ _ _ _ _ _) (by intro u hu; simp at hu; rcases hu with rfl | rfl | rfl | rfl | rfl <;> rfl) (by omega) (by simp; have := (uh G5).1.size; omega) ?_; intro g6 c6 w6 hown6 hgr6 hat6; have O6 := hide hown6; have G6 := hide hgr6; have A6 := hide hat6; have t6 := page_far hgr6 (uh HPB) hb5 (by omega) t1; have f6 := page_farF hgr6 (uh HPB) hb5 (uh u1); clear hown6 hgr6 hat6)
  | (refine step_append_keep _ rfl _ _ rfl w.heap.size i0 (uh HI) (uh HZ0) (uh HZ1) (uh HZ2) (.slice (some ⟨w.heap.size, 0, none⟩) 0 0) 0 [] rfl (uh hnl) ⟨gb, 0, none⟩ n cap (bcells f n) rfl (bcells_len _ _) (fun j u hj => by obtain ⟨h1, h2⟩ := bcells_get' hj; rw [h2, Addr.add_mid, Nat.zero_add]; exact uh hc1 _ j h1) (bcells_one _ _) (by omega) (by omega) (by simp) ?_; intro g c5 w5 hown5 hgr5; have t0 := hide (grow_farW hgr5 (uh hvn) (uh hpa _) (uh k0a _)); have t1 := grow_farW hgr5 (uh hvn) (uh hpa _) (k1a _); have u0 := hide (grow_farFW hgr5 (uh hvn) (uh hpa _) (uh f0a _)); have u1 := hide (grow_farFW hgr5 (uh hvn) (uh hpa _) (uh f1a _)); have O5 := hide hown5; have G5 := hide (keep_one (w := w) hgr5); have hb5 : bk < w5.heap.size := Nat.lt_of_lt_of_le hbk (uh G5).1.size; have t1b := fun x o => load_far (x := x) (o := o) hb5 t1; clear hown5 hgr5))
 all_goals
  go_wp2_with fail
  go_end0
  have ho5 := uh O5
  simp only [Nat.zero_add, List.nil_append] at ho5
  exact ⟨rfl, keep_out hbk (fun q hq => ⟨uh HPB q hq, ((uh HP).lt q hq).2⟩) (uh G5) ho5 (uh t0) (fun i => World.frozen?_of_block ((uh G5).1.block bk hbk)) t6 (uh G6) (uh O6) (uh A6)⟩
end Go.Proofs.YtpeohbkigkfcgabGreatDoor.Kp
