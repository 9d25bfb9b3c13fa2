import Derived.Test.YtpeohbkigkfcgabGreatDoorGAK
import Derived.Test.YtpeohbkigkfcgabGreatDoorGAN
import Derived.Deep.RegionHeldLaw
import Derived.Deep.RegionLaw
import Derived.Deep.Onto
set_option linter.unusedVariables false
set_option linter.unusedSimpArgs false
set_option maxRecDepth 100000
set_option maxHeartbeats 16000000
namespace Go.Proofs.YtpeohbkigkfcgabGreatDoor.Kf
open Go Go.ChangeShapes Go.WideShapes Go.ChangeAt Go.RowKit
open Go.Proofs.YtpeohbkigkfcgabGreatDoor.Kt (Pw mkS text_any Grn)
attribute [local go_sem] setCell_drewN alloc_drewN
theorem run_append_keep (w : World) (base : Nat) (ty : TypeId) (i : TypeInfo) (hi : Tryz.prog.info? 82 = some i) (hz : i.zero = some (.agg #[.string ⟨#[]⟩, .slice none 0 0, .int .i64 0])) (hsize : i.size = 3) (hby : i.bytes = 48)
  (v : Value) (n : Nat) (xs : List Value) (hown : w.ownsRow base 82 3 v n xs)
  (a : Addr) (m c : Nat) (news : List Value) (hl : news.length = m * 3) (hnews : ∀ j u, news[j]? = some u -> w.cell? (a.add j) = some u) (h1 : ∀ u ∈ news, u.oneCell' = true) (hm : 0 < m)
  (hb : n + m <= 2000000) (hbase : base <= w.heap.size) :
  ∃ g cap w', (Builtin.append_ #[57, 57] ty #[v, .slice (some a) m c]).run Tryz.prog w = .ok (.slice (some ⟨g, 0, none⟩) (n + m) cap) w' /\ w'.ownsRow base 82 3 (.slice (some ⟨g, 0, none⟩) (n + m) cap) (n + m) (xs ++ news) /\ ((v.ownBlock = some g /\ w.grownBy w' (some g)) \/ (g = w.heap.size /\ w.grownBy w' none)) := by
 obtain ⟨v', w', hr, ho, hg, hnil, hat⟩ := run_append_own_at (P := Tryz.prog) w base 57 ty 82 i (.agg #[.string ⟨#[]⟩, .slice none 0 0, .int .i64 0]) 3 48 Tryz.underlying57 hi hz hsize hby rfl (by decide) v n xs hown a m c news (by omega) hnews h1 (by unfold maxLen; omega) (by omega) hbase
 obtain ⟨g, cap, rfl⟩ := own_open ho (by omega)
 refine ⟨g, cap, w', hr, ho, ?_⟩
 rcases hown.2 with ⟨rfl, h0⟩ | ⟨g0, cap0, cur, rfl, hb0, hcur, hnc, hcm, hcs, htake⟩
 ·rcases hat with h | h
  ·simp [Value.ownBlock] at h
  ·simp [Value.ownBlock] at h
   exact .inr ⟨h, hg⟩
 ·by_cases hf : n + m <= cap0
  ·obtain ⟨w2, hr3, _, hg3⟩ := run_append_fits (P := Tryz.prog) w base 57 ty 82 i 3 Tryz.underlying57 hi hsize g0 n cap0 xs hown a m c news (by omega) hnews h1 hf
   rw [hr] at hr3
   injection hr3 with e1 e2
   injection e1 with e1 _ _
   injection e1 with e1
   injection e1 with e1 _ _
   subst e1 e2
   exact .inl ⟨rfl, hg3⟩
  ·have hr2 := run_append_grow (P := Tryz.prog) w 57 ty 82 i (.agg #[.string ⟨#[]⟩, .slice none 0 0, .int .i64 0]) Tryz.underlying57 hi hz ⟨g0, 0, none⟩ n cap0 xs (by rw [hsize]; have := hown.1; omega) (hown.cells (g := g0) rfl) a m c news (by rw [hsize]; omega) hnews (by omega) (by omega) (by rw [hby]; exact growslice_fits (by omega) (by omega))
   rw [hr] at hr2
   injection hr2 with e1 e2
   injection e1 with e1 _ _
   injection e1 with e1
   injection e1 with e1 _ _
   refine .inr ⟨e1, ?_⟩
   rw [e2]
   exact ⟨rfl, rfl, rfl, by simp, fun k hk _ => Below.heap_alloc _ _ _ hk⟩
theorem step_append_keep {ops : Array Oper} {o : Oper} {a : Act} {K : Act -> World -> Prop} {Q : Exit -> Act -> World -> Prop} {E : Prop} (w : World) (hgd : o.guard = none) (s x : Operand)
  (ho : o.op = .call { callee := .builtin .append, args := #[s, x], argTypes := #[57, 57] })
  (base : Nat) (i : TypeInfo) (hi : Tryz.prog.info? 82 = some i) (hz : i.zero = some (.agg #[.string ⟨#[]⟩, .slice none 0 0, .int .i64 0])) (hsize : i.size = 3) (hby : i.bytes = 48)
  (v : Value) (n : Nat) (xs : List Value) (hs : a.eval s = v) (hown : w.ownsRow base 82 3 v n xs)
  (ad : Addr) (m c : Nat) (news : List Value) (hx : a.eval x = .slice (some ad) m c) (hl : news.length = m * 3) (hnews : ∀ j u, news[j]? = some u -> w.cell? (ad.add j) = some u) (h1 : ∀ u ∈ news, u.oneCell' = true) (hm : 0 < m)
  (hb : n + m <= 2000000) (hbase : base <= w.heap.size)
  (h : ∀ g cap w', w'.ownsRow base 82 3 (.slice (some ⟨g, 0, none⟩) (n + m) cap) (n + m) (xs ++ news) -> ((v.ownBlock = some g /\ w.grownBy w' (some g)) \/ (g = w.heap.size /\ w.grownBy w' none)) -> K (a.put o.dst (.slice (some ⟨g, 0, none⟩) (n + m) cap)) w') :
  if Region.wanted o (yielded ops a.tmps) = true then Oper.wp Tryz.prog o a w K Q else E := by
 have hw : Region.wanted o (yielded ops a.tmps) = true := by simp [Region.wanted, hgd]
 rw [if_pos hw]
 obtain ⟨g, cap, w', hr, h2, h3⟩ := run_append_keep w base o.type i hi hz hsize hby v n xs hown ad m c news hl hnews h1 hm hb hbase
 unfold Oper.wp execOp
 simp only [ho, resolve, invoke, builtin, Sem.run_bind, Sem.run_pure, Result.andThen_ok, List.map_toArray, List.map_cons, List.map_nil, hs, hx, hr]
 exact h g cap w' h2 h3
theorem obj_setT {w : World} {gb k S : Nat} {t : TypeId} {v : Value} (h : ∃ cur, w.heap[gb]? = some (.cells cur t (0, 0)) /\ cur.size = S) : ∃ cur, (w.setCell ⟨gb, k, none⟩ v).heap[gb]? = some (.cells cur t (0, 0)) /\ cur.size = S := obj_set h
structure GrowAt (w : World) (pg po gb n id B : Nat) (j : Nat) (v : Value) (wr : World) : Prop where
 size : w.heap.size <= wr.heap.size
 os : wr.os = w.os
 tape : wr.tape = w.tape
 output : wr.output = w.output
 far : ∀ k, k < w.heap.size -> k ≠ pg -> k ≠ gb -> wr.heap[k]? = w.heap[k]?
 page : ∀ i, i ≠ po + 1 -> wr.cell? ⟨pg, i, none⟩ = w.cell? ⟨pg, i, none⟩
 pagef : ∀ i, wr.frozen? ⟨pg, i, none⟩ = w.frozen? ⟨pg, i, none⟩
 g : wr.cell? ⟨pg, po + 1, none⟩ = some v
 own : wr.ownsRow B 82 3 v (n + j) (fcells (fcat (mkF id) n (mkF (id + 100000))) (n + j))
 at' : v.ownBlock = some gb \/ ∀ k, v.ownBlock = some k -> w.heap.size <= k
 lst : ∀ k, k < n -> ∀ c, c < 3 -> wr.cell? ⟨gb, k * 3 + c, none⟩ = (mkF id k).cells[c]?
 pobj : ∀ t S, (∃ cur, w.heap[pg]? = some (.cells cur t (0, 0)) /\ cur.size = S) -> ∃ cur, wr.heap[pg]? = some (.cells cur t (0, 0)) /\ cur.size = S
theorem GrowAt.ne {w wr : World} {pg po gb n id B j : Nat} {v : Value} (h : GrowAt w pg po gb n id B j v wr) (hne : pg ≠ gb) (hpg : pg < w.heap.size) : ∀ k, v.ownBlock = some k -> k ≠ pg := by
 intro k hk e
 rcases h.at' with h' | h'
 ·rw [h'] at hk
  injection hk with hk
  omega
 ·have := h' k hk
  omega
theorem grow_farW {W w5 : World} {v : Value} {g pg i : Nat} {u : Value} (h : (v.ownBlock = some g /\ W.grownBy w5 (some g)) \/ (g = W.heap.size /\ W.grownBy w5 none)) (hv : ∀ k, v.ownBlock = some k -> k ≠ pg) (hp : pg < W.heap.size) (hc : W.cell? ⟨pg, i, none⟩ = some u) : w5.cell? ⟨pg, i, none⟩ = some u := by
 rcases h with ⟨h1, h2⟩ | ⟨_, h2⟩
 ·exact (h2.cell_far ⟨pg, i, none⟩ hp (by simpa using Ne.symm (hv g h1))).trans hc
 ·exact (h2.cell_far ⟨pg, i, none⟩ hp (by simp)).trans hc
theorem grow_farFW {W w5 : World} {v : Value} {g pg i : Nat} {u : Bool} (h : (v.ownBlock = some g /\ W.grownBy w5 (some g)) \/ (g = W.heap.size /\ W.grownBy w5 none)) (hv : ∀ k, v.ownBlock = some k -> k ≠ pg) (hp : pg < W.heap.size) (hc : W.frozen? ⟨pg, i, none⟩ = u) : w5.frozen? ⟨pg, i, none⟩ = u := by
 rcases h with ⟨h1, h2⟩ | ⟨_, h2⟩
 ·exact (h2.frozen_far ⟨pg, i, none⟩ hp (by simpa using Ne.symm (hv g h1))).trans hc
 ·exact (h2.frozen_far ⟨pg, i, none⟩ hp (by simp)).trans hc
theorem GrowAt.step {w wr W w5 : World} {pg po gb n id B j g c5 : Nat} {v : Value} (h : GrowAt w pg po gb n id B j v wr) (hne : pg ≠ gb) (hpg : pg < w.heap.size) (hgb : 0 < n -> gb < w.heap.size) (hb : Below wr.heap.size wr W)
  (h5 : w5.ownsRow B 82 3 (.slice (some ⟨g, 0, none⟩) (n + j + 1) c5) (n + j + 1) (fcells (fcat (mkF id) n (mkF (id + 100000))) (n + j) ++ (mkF (id + 100000) j).cells)) (hg : (v.ownBlock = some g /\ W.grownBy w5 (some g)) \/ (g = W.heap.size /\ W.grownBy w5 none)) :
  GrowAt w pg po gb n id B (j + 1) (.slice (some ⟨g, 0, none⟩) (n + j + 1) c5) (w5.setCell ⟨pg, po + 1, none⟩ (.slice (some ⟨g, 0, none⟩) (n + j + 1) c5)) := by
 have hsz := h.size
 have hszW := hb.size
 have hrow : ∃ row : Option Nat, W.grownBy w5 row /\ (∀ k, k < w.heap.size -> k ≠ gb -> some k ≠ row) /\ (g ≠ gb -> some gb ≠ row) := by
  rcases hg with ⟨h1, h2⟩ | ⟨h1, h2⟩
  ·refine ⟨_, h2, fun k hk hkg e => ?_, fun hgg e => hgg (by injection e with e; exact e.symm)⟩
   injection e with e
   subst e
   rcases h.at' with h' | h'
   ·rw [h'] at h1; injection h1 with h1; exact hkg h1.symm
   ·have := h' k h1; omega
  ·exact ⟨none, h2, fun _ _ _ => by simp, fun _ => by simp⟩
 obtain ⟨row, gr, hr1, hr2⟩ := hrow
 have hgp : g ≠ pg := by
  rcases hg with ⟨h1, _⟩ | ⟨h1, _⟩
  ·exact h.ne hne hpg g h1
  ·omega
 have hpW : pg < W.heap.size := by omega
 have hcell : ∀ i, w5.cell? ⟨pg, i, none⟩ = wr.cell? ⟨pg, i, none⟩ := fun i => (gr.cell_far ⟨pg, i, none⟩ hpW (hr1 pg hpg hne)).trans (hb.cell (p := ⟨pg, i, none⟩) (by show pg < wr.heap.size; omega))
 have hfro : ∀ i, w5.frozen? ⟨pg, i, none⟩ = wr.frozen? ⟨pg, i, none⟩ := fun i => (gr.frozen_far ⟨pg, i, none⟩ hpW (hr1 pg hpg hne)).trans (hb.frozen (p := ⟨pg, i, none⟩) (by show pg < wr.heap.size; omega))
 have hset : w5.grownBy (w5.setCell ⟨pg, po + 1, none⟩ (.slice (some ⟨g, 0, none⟩) (n + j + 1) c5)) (some pg) := ⟨rfl, rfl, rfl, by simp [World.setCell], fun k hk hne => Below.heap_setCell _ _ _ _ (fun e => hne (by rw [e]))⟩
 have h5' : w5.ownsRow B 82 3 (.slice (some ⟨g, 0, none⟩) (n + j + 1) c5) (n + j + 1) (fcells (fcat (mkF id) n (mkF (id + 100000))) (n + (j + 1))) := by
  rw [<- Nat.add_assoc]
  show w5.ownsRow B 82 3 _ _ (fcells _ (n + j) ++ (fcat (mkF id) n (mkF (id + 100000)) (n + j)).cells)
  rw [fcat_ge]
  exact h5
 have hown := h5'.kept hset (.inr (by simp [Value.ownBlock]; exact hgp))
 refine ⟨by have := gr.size; have := hset.size; omega, gr.os.trans (hb.os.trans h.os), gr.tape.trans (hb.tape.trans h.tape), gr.output.trans (hb.output.trans h.output), fun k hk h1 h2 => ?_, fun i hi => ?_, fun i => ?_, World.cell?_setCell_same _ _ _ ((hcell (po + 1)).trans h.g), hown, ?_, fun k hk c hc => ?_, fun t S hS => obj_setT (by rw [gr.block pg hpW (hr1 pg hpg hne), hb.block pg (by omega)]; exact h.pobj t S hS)⟩
 ·have hk5 : k < w5.heap.size := by have := gr.size; omega
  rw [hset.block k hk5 (by simpa using h1), gr.block k (by omega) (hr1 k hk h2), hb.block k (by omega)]
  exact h.far k hk h1 h2
 ·rw [World.cell?_setCell_other _ _ _ _ (by intro h'; injection h' with _ h' _; exact hi h'.symm), hcell i]
  exact h.page i hi
 ·rw [World.frozen?_setCell, hfro i]
  exact h.pagef i
 ·rcases hg with ⟨h1, _⟩ | ⟨h1, _⟩
  ·rcases h.at' with h' | h'
   ·exact .inl (by rw [h'] at h1; injection h1 with h1; simp [Value.ownBlock, h1])
   ·exact .inr fun k hk => h' k (by simp [Value.ownBlock] at hk; rw [h1, hk])
  ·exact .inr fun k hk => by simp [Value.ownBlock] at hk; omega
 ·have hgb' := hgb (by omega)
  by_cases hgg : g = gb
  ·subst hgg
   have h1 := hown.cellAt (k * 3 + c) (by omega)
   rw [h1, fcells_get _ _ hc _ _ (by omega), fcat_lt hk]
  ·rw [World.cell?_setCell_other _ _ _ _ (by intro h'; injection h' with h' _ _; exact hne h'), gr.cell_far ⟨gb, k * 3 + c, none⟩ (by show gb < W.heap.size; omega) (hr2 hgg), hb.cell (p := ⟨gb, k * 3 + c, none⟩) (by show gb < wr.heap.size; omega)]
   exact h.lst k hk c hc
theorem GrowAt.begin {w : World} {pg po gb n cap id B : Nat} {u : Value} (hne : pg ≠ gb) (hu : w.cell? ⟨pg, po + 1, none⟩ = some u) (hown : w.ownsRow B 82 3 (.slice (some ⟨gb, 0, none⟩) n cap) n (fcells (mkF id) n)) : GrowAt w pg po gb n id B 0 (.slice (some ⟨gb, 0, none⟩) n cap) (w.setCell ⟨pg, po + 1, none⟩ (.slice (some ⟨gb, 0, none⟩) n cap)) := by
 have hgr : w.grownBy (w.setCell ⟨pg, po + 1, none⟩ (.slice (some ⟨gb, 0, none⟩) n cap)) (some pg) := grown_set _ _ _ _
 have how : (w.setCell ⟨pg, po + 1, none⟩ (.slice (some ⟨gb, 0, none⟩) n cap)).ownsRow B 82 3 (.slice (some ⟨gb, 0, none⟩) n cap) n (fcells (mkF id) n) := hown.kept hgr (.inr (by simp [Value.ownBlock]; exact fun e => hne e.symm))
 refine ⟨hgr.size, rfl, rfl, rfl, fun k hk h1 h2 => hgr.block k hk (by simpa using h1), fun i hi => World.cell?_setCell_other _ _ _ _ (by intro h'; injection h' with _ h' _; exact hi h'.symm), fun i => by simp, World.cell?_setCell_same _ _ _ hu, ?_, .inl rfl, fun k hk c hc => ?_, fun t S hS => obj_setT hS⟩
 ·rw [show fcells (fcat (mkF id) n (mkF (id + 100000))) (n + 0) = fcells (mkF id) n from fcells_ext n (fun i hi => fcat_lt hi)]
  exact how
 ·rw [how.cellAt (k * 3 + c) (by omega)]
  exact fcells_get _ _ hc _ _ hk
theorem grow_core (pg po gb n id B : Nat) (hid : id < 1000) (hn : n <= 64) (w : World) (p0 : Option Addr) (m0 c0 : Nat) (hB : B <= w.heap.size) (hne : pg ≠ gb) (hgb : 0 < n -> gb < w.heap.size) (hL : w.cell? ⟨pg, po, none⟩ = some (.slice p0 m0 c0)) (hG : ∃ u, w.cell? ⟨pg, po + 1, none⟩ = some u) (hGf : w.frozen? ⟨pg, po + 1, none⟩ = false) (hI : w.cell? ⟨pg, po + 3, none⟩ = some (.int .i64 (id : Int))) (hP : Pw w) (h3 : pg ≠ 0 /\ gb ≠ 0)
  (hG0 : GrowAt w pg po gb n id B 0 (.slice p0 m0 c0) (w.setCell ⟨pg, po + 1, none⟩ (.slice p0 m0 c0))) :
  Calls Tryz.prog 190 #[.pointer (some ⟨pg, po, none⟩)] w fun e w' => e = .returned (.tuple #[]) /\ ∃ v, GrowAt w pg po gb n id B 64 v w' := by
 obtain ⟨u, hu⟩ := hG
 obtain ⟨i0, hi, hz0, hz1, hz2⟩ := info_parts info82
 have HI := hide hi; have HZ0 := hide hz0; have HZ1 := hide hz1; have HZ2 := hide hz2
 have hpg : pg < w.heap.size := World.block_lt_of_cell? w ⟨pg, po, none⟩ hL
 have G0 := hide hG0
 have HID := hide hI
 have HGF := hide hGf
 have HPW := hide hP
 clear hi hz0 hz1 hz2 hG0 hP
 go_enter Tryz.func190, Tryz.ntmps190
 go_wp2_with fail
 clear hL hI hu hGf
 go_loopw [2] (fun i wr => ∃ (j : Nat) (v : Value), j <= 64 /\ i = .int .i64 (j : Int) /\ GrowAt w pg po gb n id B j v wr) (fun i _ => 64 - (intOf i).toNat)
 case atStart => exact ⟨0, _, by omega, rfl, uh G0⟩
 case round =>
  obtain ⟨j, v, hj, rfl, hs⟩ := hrel
  have HS := hide hs
  clear G0
  by_cases hlt : j < 64
  ·have l1 := hs.g
   have l2 : wr.cell? ⟨pg, po + 3, none⟩ = some (.int .i64 (id : Int)) := (hs.page (po + 3) (by omega)).trans (uh HID)
   have l3 : wr.frozen? ⟨pg, po + 1, none⟩ = false := (hs.pagef (po + 1)).trans (uh HGF)
   have hI1 : (j : Int) < 64 := by omega
   have hpr : pg < wr.heap.size := Nat.lt_of_lt_of_le hpg hs.size
   have hBr : B <= wr.heap.size := Nat.le_trans hB hs.size
   have OWN2 : Hid (∀ w2 o, Below wr.heap.size wr w2 -> (w2.alloc o).ownsRow B 82 3 v (n + j) (fcells (fcat (mkF id) n (mkF (id + 100000))) (n + j))) := fun w2 o hb => own_below hs.own (bal hb o)
   have hvn := hide (hs.ne hne hpg)
   have hbe := hide (Kt.behind_any id hid)
   have hmk := hide (mark_any (id + 100000) j (by omega) (by omega) wr.drew ((uh HPW).keep (hs.far 0 (uh HPW).lt (fun e => h3.1 e.symm) (fun e => h3.2 e.symm))))
   have hcast : ((id + 100000 : Nat) : Int) = (id : Int) + 100000 := by omega
   rw [hcast] at hmk
   have HSTEP : Hid (∀ w2 o g c5 w5, Below wr.heap.size wr w2 -> w5.ownsRow B 82 3 (.slice (some ⟨g, 0, none⟩) (n + j + 1) c5) (n + j + 1) (fcells (fcat (mkF id) n (mkF (id + 100000))) (n + j) ++ [.string (mkS (id + 100000) j), .slice none 0 0, .int .i64 (-(j : Int) - 1)]) -> ((v.ownBlock = some g /\ (w2.alloc o).grownBy w5 (some g)) \/ (g = (w2.alloc o).heap.size /\ (w2.alloc o).grownBy w5 none)) -> GrowAt w pg po gb n id B (j + 1) (.slice (some ⟨g, 0, none⟩) (n + j + 1) c5) (w5.setCell ⟨pg, po + 1, none⟩ (.slice (some ⟨g, 0, none⟩) (n + j + 1) c5))) := fun w2 o g c5 w5 hb h5 hg => hs.step hne hpg hgb (bal hb o) h5 hg
   clear hs hcast
   simp only [FE.val, mkF] at hmk
   go_wp2_with fail
   refine wp_region_last (n := 16) (S := fun W => W.cell? ⟨pg, po + 1, none⟩ = some v /\ W.cell? ⟨pg, po + 3, none⟩ = some (.int .i64 (id : Int))) (by kernel_rfl) (by first | (exact ⟨l1, l2⟩)) (fun hHeld => ?_)
   refine tkW 0 ?_; refine tkW 1 ?_; refine tkW 2 ?_; refine tkW 3 ?_; refine tkS 4 ?_; refine tkW 5 ?_; refine tkW 6 ?_; refine tkW 7 ?_; refine tkS 8 ?_; refine tkW 10 ?_
   refine wpAnyL_one (i := 9) (by kernel_rfl) rfl (fun KK hK => ?_)
   go_simp
   go_wp2_with (first | (go_at_call 217; refine (uh hbe _).mono ?_; rintro e w2 ⟨rfl, hw⟩; rw [hw]; clear hw w2))
   refine hK.out _ _ (by first | (exact ⟨l1, l2⟩)) (fun hHeld => ?_)
   clear hK KK
   refine wpAnyL_one (i := 11) (by kernel_rfl) rfl (fun KK hK => ?_)
   go_simp
   go_wp2_with (first | (go_at_call 199; refine (uh hmk).mono ?_; rintro e w2 ⟨rfl, hb⟩; have B2 : Hid (Below wr.heap.size wr w2) := ⟨hb.os, hb.tape, hb.output, hb.size, hb.block⟩; have m1 := keep1 (uh B2) hpr l1; have m2 := keep1 (uh B2) hpr l2; have m3 := keepF (uh B2) hpr l3; have hz2 : wr.heap.size <= w2.heap.size := (uh B2).size; clear hb))
   refine hK.out _ _ (by first | (exact ⟨m1, m2⟩)) (fun hHeld => ?_)
   clear hK KK
   refine wpAnyL_one (i := 12) (by kernel_rfl) rfl (fun KK hK => ?_)
   go_simp
   refine hK.out _ _ (by first | (exact ⟨keep1 (bal (Below.refl w2.heap.size w2) _) (by omega) m1, keep1 (bal (Below.refl w2.heap.size w2) _) (by omega) m2⟩)) (fun hHeld => ?_)
   clear hK KK
   refine wpAnyL_one (i := 13) (by kernel_rfl) rfl (fun KK hK => ?_)
   refine step_append_keep _ (by rfl) _ _ (by rfl) B i0 (uh HI) (uh HZ0) (uh HZ1) (uh HZ2) v (n + j) _ (by rfl) (uh OWN2 w2 _ (uh B2)) ⟨w2.heap.size, 0, none⟩ 1 1 [.string (mkS (id + 100000) j), .slice none 0 0, .int .i64 (-(j : Int) - 1)] (by rfl) (by rfl) (World.news_of_block (heap_alloc_new w2 _)) (one3 _ _ _ _ _) (by omega) (by omega) (by rw [World.size_alloc]; omega) ?_
   intro g c5 w5 hown5 hgr5
   have t1 := grow_farW hgr5 (uh hvn) (by rw [World.size_alloc]; omega) (keep1 (bal (Below.refl w2.heap.size w2) _) (by omega) m1)
   have t2 := grow_farW hgr5 (uh hvn) (by rw [World.size_alloc]; omega) (keep1 (bal (Below.refl w2.heap.size w2) _) (by omega) m2)
   have t3 := grow_farFW hgr5 (uh hvn) (by rw [World.size_alloc]; omega) (keepF (bal (Below.refl w2.heap.size w2) _) (by omega) m3)
   have O5 := hide hown5
   have G5 := hide hgr5
   clear hown5 hgr5
   refine hK.out _ _ (by first | (exact ⟨t1, t2⟩)) (fun hHeld => ?_)
   clear hK KK
   refine tkW 14 ?_; refine tkW 15 ?_
   refine wpAnyL_end (i := 16) (by kernel_rfl) rfl (by kernel_rfl) (by kernel_rfl) (fun KK hK => ?_)
   go_simp
   refine hK.out _ _ ?_
   clear hK KK
   go_wp2_with fail
   refine ⟨⟨j + 1, _, by omega, by go_num, uh HSTEP w2 _ g c5 w5 (uh B2) (uh O5) (uh G5)⟩, by simp [intOf]; omega⟩
  ·have hj64 : j = 64 := by omega
   subst hj64
   have hI1 : ¬ ((64 : Nat) : Int) < 64 := by omega
   clear hs
   go_wp2_with fail
   go_end0
   exact ⟨rfl, v, uh HS⟩
theorem grow_some (pg po gb n cap id B : Nat) (hid : id < 1000) (hn : n <= 64) (w : World) (hB : B <= w.heap.size) (hne : pg ≠ gb) (hgb : gb < w.heap.size) (hL : w.cell? ⟨pg, po, none⟩ = some (.slice (some ⟨gb, 0, none⟩) n cap)) (hG : ∃ u, w.cell? ⟨pg, po + 1, none⟩ = some u) (hGf : w.frozen? ⟨pg, po + 1, none⟩ = false) (hI : w.cell? ⟨pg, po + 3, none⟩ = some (.int .i64 (id : Int))) (hP : Pw w) (h3 : pg ≠ 0 /\ gb ≠ 0)
  (hown : w.ownsRow B 82 3 (.slice (some ⟨gb, 0, none⟩) n cap) n (fcells (mkF id) n)) :
  Calls Tryz.prog 190 #[.pointer (some ⟨pg, po, none⟩)] w fun e w' => e = .returned (.tuple #[]) /\ ∃ v, GrowAt w pg po gb n id B 64 v w' := by
 have hG' := hG
 obtain ⟨u, hu⟩ := hG'
 exact grow_core pg po gb n id B hid hn w _ _ _ hB hne (fun _ => hgb) hL hG hGf hI hP h3 (GrowAt.begin hne hu hown)
theorem grow_none (pg po id B : Nat) (hid : id < 1000) (w : World) (hB : B <= w.heap.size) (hL : w.cell? ⟨pg, po, none⟩ = some (.slice none 0 0)) (hG : ∃ u, w.cell? ⟨pg, po + 1, none⟩ = some u) (hGf : w.frozen? ⟨pg, po + 1, none⟩ = false) (hI : w.cell? ⟨pg, po + 3, none⟩ = some (.int .i64 (id : Int))) (hP : Pw w) (h3 : pg ≠ 0) :
  Calls Tryz.prog 190 #[.pointer (some ⟨pg, po, none⟩)] w fun e w' => e = .returned (.tuple #[]) /\ ∃ v, GrowAt w pg po w.heap.size 0 id B 64 v w' := by
 have hpg : pg < w.heap.size := World.block_lt_of_cell? w ⟨pg, po, none⟩ hL
 have hG' := hG
 obtain ⟨u, hu⟩ := hG'
 have hgr : w.grownBy (w.setCell ⟨pg, po + 1, none⟩ (.slice none 0 0)) (some pg) := grown_set _ _ _ _
 refine grow_core pg po w.heap.size 0 id B hid (by omega) w none 0 0 hB (by omega) (fun h => by omega) hL hG hGf hI hP ⟨h3, by have := hP.lt; omega⟩ ?_
 exact ⟨hgr.size, rfl, rfl, rfl, fun k hk h1 h2 => hgr.block k hk (by simpa using h1), fun i hi => World.cell?_setCell_other _ _ _ _ (by intro h'; injection h' with _ h' _; exact hi h'.symm), fun i => by simp, World.cell?_setCell_same _ _ _ hu, World.ownsRow_nil _ _ _ _, .inr (fun k hk => by cases hk), fun k hk => by omega, fun t S hS => obj_setT hS⟩
end Go.Proofs.YtpeohbkigkfcgabGreatDoor.Kf
namespace Go.Proofs.YtpeohbkigkfcgabGreatDoor.Kf
open Go Go.ChangeShapes Go.WideShapes Go.ChangeAt Go.RowKit
open Go.Proofs.YtpeohbkigkfcgabGreatDoor.Kt (Pw mkS text_any Grn id_any)
attribute [local go_sem] setCell_drewN alloc_drewN
theorem info68 : (Tryz.prog.info? 163).map (fun i => (i.zero.map (fun z => z.cells.size), i.size, i.bytes)) = some (some 5, 5, 88) := by kernel_rfl
theorem info68_parts : ∃ i z, Tryz.prog.info? 163 = some i /\ i.zero = some z /\ z.cells.size = 5 /\ i.size = 5 /\ i.bytes = 88 := by
 obtain ⟨i, hi, hzz⟩ := Option.map_eq_some_iff.1 info68
 simp only [Prod.mk.injEq] at hzz
 obtain ⟨z, hz, hs⟩ := Option.map_eq_some_iff.1 hzz.1
 exact ⟨i, z, hi, hz, hs, hzz.2.1, hzz.2.2⟩
theorem step_append_page {ops : Array Oper} {o : Oper} {a : Act} {K : Act -> World -> Prop} {Q : Exit -> Act -> World -> Prop} {E : Prop} (w : World) (hgd : o.guard = none) (s x : Operand)
  (ho : o.op = .call { callee := .builtin .append, args := #[s, x], argTypes := #[47, 47] })
  (base : Nat) (v : Value) (n : Nat) (xs : List Value) (hs : a.eval s = v) (hown : w.ownsRow base 163 5 v n xs)
  (ad : Addr) (c : Nat) (news : List Value) (hx : a.eval x = .slice (some ad) 1 c) (hl : news.length = 5) (hnews : ∀ j u, news[j]? = some u -> w.cell? (ad.add j) = some u) (h1 : ∀ u ∈ news, u.oneCell' = true)
  (hn : n <= 96) (hbase : base <= w.heap.size)
  (h : ∀ g cap w', w'.ownsRow base 163 5 (.slice (some ⟨g, 0, none⟩) (n + 1) cap) (n + 1) (xs ++ news) -> w.grownBy w' v.ownBlock -> (some g = v.ownBlock \/ g = w.heap.size) -> K (a.put o.dst (.slice (some ⟨g, 0, none⟩) (n + 1) cap)) w') :
  if Region.wanted o (yielded ops a.tmps) = true then Oper.wp Tryz.prog o a w K Q else E := by
 have hw : Region.wanted o (yielded ops a.tmps) = true := by simp [Region.wanted, hgd]
 rw [if_pos hw]
 obtain ⟨i, z, hi, hz, hzs, hsize, hby⟩ := info68_parts
 obtain ⟨v', w', hr, h2, h3, _, h4⟩ := run_append_own_at (P := Tryz.prog) w base 47 o.type 163 i z 5 88 Tryz.underlying47 hi hz hsize hby hzs (by decide) v n xs hown ad 1 c news (by omega) hnews h1 (by unfold maxLen; omega) (by omega) hbase
 have h5 : ∃ g cap, v' = .slice (some ⟨g, 0, none⟩) (n + 1) cap := by
  rcases h2.2 with ⟨_, h0⟩ | ⟨g, cap, cur, rfl, _⟩
  ·omega
  ·exact ⟨g, cap, rfl⟩
 obtain ⟨g, cap, rfl⟩ := h5
 unfold Oper.wp execOp
 simp only [ho, resolve, invoke, builtin, Sem.run_bind, Sem.run_pure, Result.andThen_ok, List.map_toArray, List.map_cons, List.map_nil, hs, hx, hr]
 exact h g cap w' h2 h3 (h4.imp id (fun e => by simpa [Value.ownBlock] using e))
theorem five_new {W : World} {g : Nat} (hg : g = W.heap.size) (a b c d e : Value) (t : TypeId) : ∀ j u, ([a, b, c, d, e] : List Value)[j]? = some u -> (W.alloc (.cells #[a, b, c, d, e] t)).cell? ((⟨g, 0, none⟩ : Addr).add j) = some u := by
 intro j u hj
 subst hg
 rw [Addr.add_mid, Nat.zero_add, World.cell?_alloc_mark]
 simpa using hj
theorem below_keep {w W w5 : World} {v : Value} {g : Nat} (hb : Below w.heap.size w W) (hw : w.heap.size <= W.heap.size) (hv : ∀ k, v.ownBlock = some k -> w.heap.size <= k) (h : (v.ownBlock = some g /\ W.grownBy w5 (some g)) \/ (g = W.heap.size /\ W.grownBy w5 none)) : Below w.heap.size w w5 /\ w.heap.size <= g := by
 rcases h with ⟨h1, h2⟩ | ⟨h1, h2⟩
 ·exact ⟨hb.grown h2 hw (fun k hk => by injection hk with hk; subst hk; exact hv _ h1), hv _ h1⟩
 ·exact ⟨hb.grown h2 hw (fun k hk => by simp at hk), by omega⟩
theorem keep_one {w w5 : World} {o : Obj} {g : Nat} (h : ((Value.slice (some ⟨w.heap.size, 0, none⟩) 0 0).ownBlock = some g /\ (w.alloc o).drew.grownBy w5 (some g)) \/ (g = (w.alloc o).drew.heap.size /\ (w.alloc o).drew.grownBy w5 none)) : Below w.heap.size w w5 /\ w.heap.size <= g :=
 below_keep (v := .slice (some ⟨w.heap.size, 0, none⟩) 0 0) (bal (Below.refl _ _) o).drew (by simp) (by intro q hq; simp [Value.ownBlock] at hq; omega) h
theorem page_far {w5 w6 : World} {bk i : Nat} {o : Obj} {x u : Value} {r : Option Nat} (h : ((w5.setCell ⟨bk, 6, none⟩ x).alloc o).grownBy w6 r) (hr : ∀ q, r = some q -> q ≠ bk) (hb : bk < w5.heap.size) (hi : i ≠ 6) (hc : w5.cell? ⟨bk, i, none⟩ = some u) : w6.cell? ⟨bk, i, none⟩ = some u := by
 have h1 : ((w5.setCell ⟨bk, 6, none⟩ x).alloc o).cell? ⟨bk, i, none⟩ = some u := (World.cell?_alloc_lt _ _ _ (by simpa using hb)).trans ((World.cell?_setCell_other _ _ _ _ (by intro h'; injection h' with _ h' _; omega)).trans hc)
 exact (h.cell_far ⟨bk, i, none⟩ (by simp; omega) (by first | (intro e; exact hr bk e rfl) | (intro e; exact hr bk e.symm rfl))).trans h1
theorem page_farF {w5 w6 : World} {bk i : Nat} {o : Obj} {x : Value} {u : Bool} {r : Option Nat} (h : ((w5.setCell ⟨bk, 6, none⟩ x).alloc o).grownBy w6 r) (hr : ∀ q, r = some q -> q ≠ bk) (hb : bk < w5.heap.size) (hc : w5.frozen? ⟨bk, i, none⟩ = u) : w6.frozen? ⟨bk, i, none⟩ = u := by
 have h1 : ((w5.setCell ⟨bk, 6, none⟩ x).alloc o).frozen? ⟨bk, i, none⟩ = u := ((bal (Below.refl (w5.setCell ⟨bk, 6, none⟩ x).heap.size (w5.setCell ⟨bk, 6, none⟩ x)) o).frozen (p := ⟨bk, i, none⟩) (by simpa using hb)).trans (by simpa using hc)
 exact (h.frozen_far ⟨bk, i, none⟩ (by simp; omega) (by first | (intro e; exact hr bk e rfl) | (intro e; exact hr bk e.symm rfl))).trans h1
theorem load_far {w5 : World} {bk : Nat} {x u : Value} {o : Obj} (hb : bk < w5.heap.size) (hc : w5.cell? ⟨bk, 24, none⟩ = some u) : ((w5.setCell ⟨bk, 6, none⟩ x).alloc o).cell? ⟨bk, 24, none⟩ = some u :=
 (World.cell?_alloc_lt _ _ _ (by simpa using hb)).trans ((World.cell?_setCell_other _ _ _ _ (by intro h'; injection h' with _ h' _; omega)).trans hc)
def KeepOut (w : World) (bk k m B : Nat) (L : Value) (n : Nat) (F : Nat -> FE) (old : Value) (xs : List Value) (w' : World) : Prop :=
 ∃ g6 c6 gw cw, w'.cell? ⟨bk, 6, none⟩ = some (.int .i64 ((k : Int) + 1)) /\ w'.cell? ⟨bk, 24, none⟩ = some (.slice (some ⟨g6, 0, none⟩) (m + 1) c6) /\
  w'.ownsRow B 163 5 (.slice (some ⟨g6, 0, none⟩) (m + 1) c6) (m + 1) (xs ++ [L, .slice none 0 0, .slice (some ⟨gw, 0, none⟩) n cw, .int .i64 ((k : Int) + 1), .bool false]) /\
  w'.ownsRow w.heap.size 82 3 (.slice (some ⟨gw, 0, none⟩) n cw) n (fcells F n) /\ g6 ≠ bk /\ g6 ≠ gw /\ (some g6 = old.ownBlock \/ w.heap.size <= g6) /\
  (∀ i, i ≠ 6 -> i ≠ 24 -> w'.cell? ⟨bk, i, none⟩ = w.cell? ⟨bk, i, none⟩) /\ (∀ i, w'.frozen? ⟨bk, i, none⟩ = w.frozen? ⟨bk, i, none⟩) /\
  w.heap.size <= w'.heap.size /\ w'.os = w.os /\ w'.tape = w.tape /\ w'.output = w.output /\ ∀ q, q < w.heap.size -> q ≠ bk -> old.ownBlock ≠ some q -> w'.heap[q]? = w.heap[q]?
theorem keep_out {w w5 w6 : World} {bk k m B n g c5 g6 c6 : Nat} {L old u u0 : Value} {F : Nat -> FE} {xs : List Value} {o : Obj} (hbk : bk < w.heap.size) (hold : ∀ q, old.ownBlock = some q -> q ≠ bk /\ q < w.heap.size)
  (G5 : Below w.heap.size w w5 /\ w.heap.size <= g) (O5 : w5.ownsRow w.heap.size 82 3 (.slice (some ⟨g, 0, none⟩) n c5) n (fcells F n)) (t0 : w5.cell? ⟨bk, 6, none⟩ = some u0)
  (h5 : ∀ i, w5.frozen? ⟨bk, i, none⟩ = w.frozen? ⟨bk, i, none⟩) (t6 : w6.cell? ⟨bk, 24, none⟩ = some u) (G6 : ((w5.setCell ⟨bk, 6, none⟩ (.int .i64 ((k : Int) + 1))).alloc o).grownBy w6 old.ownBlock)
  (O6 : w6.ownsRow B 163 5 (.slice (some ⟨g6, 0, none⟩) (m + 1) c6) (m + 1) (xs ++ [L, .slice none 0 0, .slice (some ⟨g, 0, none⟩) n c5, .int .i64 ((k : Int) + 1), .bool false]))
  (A6 : some g6 = old.ownBlock \/ g6 = ((w5.setCell ⟨bk, 6, none⟩ (.int .i64 ((k : Int) + 1))).alloc o).heap.size) :
  KeepOut w bk k m B L n F old xs (w6.setCell ⟨bk, 24, none⟩ (.slice (some ⟨g6, 0, none⟩) (m + 1) c6)) := by
 obtain ⟨hb5, hg⟩ := G5
 have hs5 := hb5.size
 have hgl := (O5.lt g rfl).2
 have hsz : ((w5.setCell ⟨bk, 6, none⟩ (.int .i64 ((k : Int) + 1))).alloc o).heap.size = w5.heap.size + 1 := by simp
 rw [hsz] at A6
 have hs6 := G6.size
 rw [hsz] at hs6
 have hne6 : g6 ≠ bk := by
  rcases A6 with h | h
  ·exact (hold g6 h.symm).1
  ·omega
 have hneg : g6 ≠ g := by
  rcases A6 with h | h
  ·have := (hold g6 h.symm).2
   omega
  ·omega
 have hblk : ∀ q, q < w5.heap.size -> q ≠ bk -> some q ≠ old.ownBlock -> (w6.setCell ⟨bk, 24, none⟩ (.slice (some ⟨g6, 0, none⟩) (m + 1) c6)).heap[q]? = w5.heap[q]? := by
  intro q hq h1 h2
  rw [Below.heap_setCell _ _ _ _ h1, G6.block q (by rw [hsz]; omega) h2, Below.heap_alloc _ _ _ (by simpa using hq), Below.heap_setCell _ _ _ _ h1]
 have hcell : ∀ i, i ≠ 24 -> i ≠ 6 -> (w6.setCell ⟨bk, 24, none⟩ (.slice (some ⟨g6, 0, none⟩) (m + 1) c6)).cell? ⟨bk, i, none⟩ = w.cell? ⟨bk, i, none⟩ := by
  intro i h1 h0
  rw [World.cell?_setCell_other _ _ _ _ (by intro h'; injection h' with _ h' _; omega), G6.cell_far ⟨bk, i, none⟩ (by rw [hsz]; show bk < _; omega) (fun e => (hold bk e.symm).1 rfl), World.cell?_alloc_lt _ _ _ (by simp; omega), World.cell?_setCell_other _ _ _ _ (by intro h'; injection h' with _ h' _; omega)]
  exact World.cell?_of_block (hb5.block bk hbk)
 refine ⟨g6, c6, g, c5, ?_, World.cell?_setCell_same _ _ _ t6, row_far O6 ?_, row_far O5 ?_, hne6, hneg, A6.imp id (fun h => by omega), fun i hi hi18 => hcell i hi18 hi, fun i => ?_, by simp; omega, ?_, ?_, ?_, fun q hq h1 h2 => ?_⟩
 ·rw [World.cell?_setCell_other _ _ _ _ (by intro h'; injection h' with _ h' _; omega), G6.cell_far ⟨bk, 6, none⟩ (by rw [hsz]; show bk < _; omega) (fun e => (hold bk e.symm).1 rfl), World.cell?_alloc_lt _ _ _ (by simp; omega)]
  exact World.cell?_setCell_same _ _ _ t0
 ·intro q hq
  injection hq with hq
  have hq : g6 = q := hq
  subst hq
  exact Below.heap_setCell _ _ _ _ hne6
 ·intro q hq
  injection hq with hq
  have hq : g = q := hq
  subst hq
  exact hblk g hgl (by omega) (fun e => by have := (hold g e.symm).2; omega)
 ·rw [<- h5 i]
  have h := page_farF (i := i) G6 (fun q hq => (hold q hq).1) (by omega) rfl
  simpa using h
 ·exact (G6.os.trans hb5.os)
 ·exact (G6.tape.trans hb5.tape)
 ·exact (G6.output.trans hb5.output)
 ·rw [hblk q (by omega) h1 (fun e => h2 e.symm)]
  exact hb5.block q hq
theorem fcells_news {W : World} {F : Nat -> FE} {gb n : Nat} (h : ∀ j, j < n -> ∀ c, c < 3 -> W.cell? ⟨gb, j * 3 + c, none⟩ = (F j).cells[c]?) : ∀ j u, (fcells F n)[j]? = some u -> W.cell? ((⟨gb, 0, none⟩ : Addr).add j) = some u := by
 intro j u hj
 have hl := (List.getElem?_eq_some_iff.1 hj).1
 rw [fcells_len] at hl
 have e : j = j / 3 * 3 + j % 3 := by omega
 have h1 := h (j / 3) (by omega) (j % 3) (by omega)
 have h2 := fcells_get F (j % 3) (by omega) n (j / 3) (by omega)
 rw [<- e] at h1 h2
 rw [Addr.add_mid, Nat.zero_add, h1, <- h2]
 exact hj
theorem keep_files (bk k n cap gb B : Nat) (F : Nat -> FE) (hk : k < 900) (hn : n <= 64) (hn0 : 0 < n) (w : World) (m pc : Nat) (pa : Option Addr) (xs : List Value) (hB : B <= w.heap.size) (hm : m < 96) (hk0 : w.cell? ⟨bk, 6, none⟩ = some (.int .i64 (k : Int))) (hk1 : w.cell? ⟨bk, 24, none⟩ = some (.slice pa m pc)) (hf0 : w.frozen? ⟨bk, 6, none⟩ = false) (hf1 : w.frozen? ⟨bk, 24, none⟩ = false)
  (hgb : gb < w.heap.size) (hc : ∀ j, j < n -> ∀ c, c < 3 -> w.cell? ⟨gb, j * 3 + c, none⟩ = (F j).cells[c]?) (hp : w.ownsRow B 163 5 (.slice pa m pc) m xs) (hpb : ∀ q, (Value.slice pa m pc).ownBlock = some q -> q ≠ bk) :
  Calls Tryz.prog 216 #[.pointer (some ⟨bk, 6, none⟩), .slice (some ⟨gb, 0, none⟩) n cap] w fun e w' => e = .returned (.tuple #[]) /\ KeepOut w bk k m B (.slice (some ⟨gb, 0, none⟩) n cap) n F (.slice pa m pc) xs w' := by
 have hI1 : (m : Int) < 96 := by omega
 have hbk : bk < w.heap.size := World.block_lt_of_cell? w ⟨bk, 24, none⟩ hk1
 obtain ⟨i0, hi, hz0, hz1, hz2⟩ := info_parts info82
 have HI := hide hi; have HZ0 := hide hz0; have HZ1 := hide hz1; have HZ2 := hide hz2
 have hnl := hide (World.ownsRow_lit (base := w.heap.size) (e := 82) (size := 3) w #[] 0 (Nat.le_refl _) (by unfold maxLen; omega) rfl)
 have HNW : Hid (∀ o, ∀ j u, (fcells F n)[j]? = some u -> (w.alloc o).cell? ((⟨gb, 0, none⟩ : Addr).add j) = some u) := fun o => fcells_news (fun j hj c hc' => (World.cell?_alloc_lt w o ⟨gb, j * 3 + c, none⟩ hgb).trans (hc j hj c hc'))
 have HP := hide hp
 have k1a := fun o => (World.cell?_alloc_lt w o ⟨bk, 24, none⟩ hbk).trans hk1
 have k0a := hide (fun o => (World.cell?_alloc_lt w o ⟨bk, 6, none⟩ hbk).trans hk0)
 have f0a := hide (fun o => show (w.alloc o).frozen? ⟨bk, 6, none⟩ = false from ((bal (Below.refl w.heap.size w) o).frozen (p := ⟨bk, 6, none⟩) hbk).trans hf0)
 have f1a := hide (fun o => show (w.alloc o).frozen? ⟨bk, 24, none⟩ = false from ((bal (Below.refl w.heap.size w) o).frozen (p := ⟨bk, 24, none⟩) hbk).trans hf1)
 have hpa := hide (fun o => show bk < (w.alloc o).heap.size from by rw [World.size_alloc]; omega)
 have hvn : Hid (∀ q, (Value.slice (some ⟨w.heap.size, 0, none⟩) 0 0).ownBlock = some q -> q ≠ bk) := by
  intro q hq
  simp [Value.ownBlock] at hq
  omega
 have HPB := hide hpb
 clear hpb
 have hid := hide (id_any bk k (by omega))
 clear hi hz0 hz1 hz2 hp hc hk0 hf0
 go_enter Tryz.func216, Tryz.ntmps216
 go_wp2_with fail
 refine wp_region_last (n := 16) (S := fun W => W.cell? ⟨bk, 24, none⟩ = some (.slice pa m pc)) (by kernel_rfl) (by first | (exact hk1)) (fun hHeld => ?_)
 refine tkW 0 ?_; refine tkW 1 ?_; refine tkW 2 ?_; refine tkW 3 ?_; refine tkS 4 ?_; refine tkW 5 ?_; refine tkW 7 ?_; refine tkW 9 ?_
 refine wpAnyL_one (i := 6) (by kernel_rfl) rfl (fun KK hK => ?_)
 go_simp
 refine hK.out _ _ (by first | (exact k1a _)) (fun hHeld => ?_)
 clear hK KK
 refine wpAnyL_one (i := 8) (by kernel_rfl) rfl (fun KK hK => ?_)
 refine step_append_keep _ (by rfl) _ _ (by rfl) w.heap.size i0 (uh HI) (uh HZ0) (uh HZ1) (uh HZ2) (.slice (some ⟨w.heap.size, 0, none⟩) 0 0) 0 [] (by rfl) (uh hnl) ⟨gb, 0, none⟩ n cap (fcells F n) (by rfl) (fcells_len _ _) (uh HNW _) (fcells_one _ _) (by omega) (by omega) (by simp) ?_
 intro g c5 w5 hown5 hgr5
 have t0 := hide (grow_farW hgr5 (uh hvn) (uh hpa _) (uh k0a _))
 have t1 := grow_farW hgr5 (uh hvn) (uh hpa _) (k1a _)
 have u0 := hide (grow_farFW hgr5 (uh hvn) (uh hpa _) (uh f0a _))
 have u1 := hide (grow_farFW hgr5 (uh hvn) (uh hpa _) (uh f1a _))
 have O5 := hide hown5
 have G5 := hide (keep_one (w := w) hgr5)
 have hb5 : bk < w5.heap.size := Nat.lt_of_lt_of_le hbk (uh G5).1.size
 have t1b := fun x o => load_far (x := x) (o := o) hb5 t1
 have t1c : ∀ x, (w5.setCell ⟨bk, 6, none⟩ x).cell? ⟨bk, 24, none⟩ = some (.slice pa m pc) := fun x => (World.cell?_setCell_other _ _ _ _ (by intro h'; injection h' with _ h' _; omega)).trans t1
 clear hown5 hgr5
 refine hK.out _ _ (by first | (exact t1)) (fun hHeld => ?_)
 clear hK KK
 refine wpAnyL_one (i := 10) (by kernel_rfl) rfl (fun KK hK => ?_)
 go_simp
 go_wp2_with (first | (go_at_call 214; refine (uh hid _ (uh t0) (uh u0)).mono ?_; rintro e w2 ⟨rfl, hw⟩; rw [hw]; clear hw w2))
 refine hK.out _ _ (by first | (exact t1c _)) (fun hHeld => ?_)
 clear hK KK
 refine tkW 11 ?_
 refine wpAnyL_one (i := 12) (by kernel_rfl) rfl (fun KK hK => ?_)
 go_simp
 refine hK.out _ _ (by first | (exact t1b _ _)) (fun hHeld => ?_)
 clear hK KK
 refine wpAnyL_one (i := 13) (by kernel_rfl) rfl (fun KK hK => ?_)
 refine step_append_page _ (by rfl) _ _ (by rfl) B (.slice pa m pc) m xs (by rfl) (row_far (uh HP) (fun q hq => by have hq1 := ((uh HP).lt q hq).2; rw [Below.heap_alloc _ _ _ (by simpa using Nat.lt_of_lt_of_le hq1 (uh G5).1.size), Below.heap_setCell _ _ _ _ (uh HPB q hq)]; exact (uh G5).1.block q hq1)) ⟨w5.heap.size, 0, none⟩ 1 [.slice (some ⟨gb, 0, none⟩) n cap, .slice none 0 0, .slice (some ⟨g, 0, none⟩) n c5, .int .i64 ((k : Int) + 1), .bool false] (by rfl) (by rfl) (five_new (by simp) _ _ _ _ _ _) (by intro u hu; simp at hu; rcases hu with rfl | rfl | rfl | rfl | rfl <;> rfl) (by omega) (by simp; have := (uh G5).1.size; omega) ?_
 intro g6 c6 w6 hown6 hgr6 hat6
 have O6 := hide hown6
 have G6 := hide hgr6
 have A6 := hide hat6
 have t6 := page_far hgr6 (uh HPB) hb5 (by omega) t1
 have f6 := page_farF hgr6 (uh HPB) hb5 (uh u1)
 clear hown6 hgr6 hat6
 refine hK.out _ _ (by first | (exact t6)) (fun hHeld => ?_)
 clear hK KK
 refine tkW 14 ?_; refine tkW 15 ?_
 refine wpAnyL_end (i := 16) (by kernel_rfl) rfl (by kernel_rfl) (by kernel_rfl) (fun KK hK => ?_)
 go_simp
 refine hK.out _ _ ?_
 clear hK KK
 go_wp2_with fail
 go_end0
 have ho5 := uh O5
 simp only [Nat.zero_add, List.nil_append] at ho5
 exact ⟨rfl, keep_out hbk (fun q hq => ⟨uh HPB q hq, ((uh HP).lt q hq).2⟩) (uh G5) ho5 (uh t0) (fun i => World.frozen?_of_block ((uh G5).1.block bk hbk)) t6 (uh G6) (uh O6) (uh A6)⟩
end Go.Proofs.YtpeohbkigkfcgabGreatDoor.Kf
namespace Go.Proofs.YtpeohbkigkfcgabGreatDoor.Kf
open Go Go.ChangeShapes Go.WideShapes Go.ChangeAt Go.RowKit
open Go.Proofs.YtpeohbkigkfcgabGreatDoor.Kt (Pw mkS text_any Grn id_any)
structure Pg where
 L : Value
 n : Nat
 G : Value
 W : Value
 id : Nat
 s : Nat
 f : Nat -> FE
def Pg.cells (p : Pg) : List Value := [p.L, p.G, p.W, .int .i64 (p.id : Int), .bool (decide (0 < p.s))]
def Pg.has (p : Pg) (q : Nat) : Prop := p.L.ownBlock = some q \/ p.G.ownBlock = some q \/ p.W.ownBlock = some q
def LShows (w : World) (L : Value) (n : Nat) (f : Nat -> FE) : Prop := (n = 0 /\ L = .slice none 0 0) \/ ∃ gb cap, L = .slice (some ⟨gb, 0, none⟩) n cap /\ gb < w.heap.size /\ ∀ k, k < n -> ∀ c, c < 3 -> w.cell? ⟨gb, k * 3 + c, none⟩ = (f k).cells[c]?
theorem LShows.of_own {w : World} {B n : Nat} {L : Value} {f : Nat -> FE} (h : w.ownsRow B 82 3 L n (fcells f n)) : LShows w L n f := by
 rcases h.2 with ⟨h1, h2⟩ | ⟨g, cap, cur, rfl, hb, _⟩
 ·exact .inl ⟨h2, h1⟩
 ·refine .inr ⟨g, cap, rfl, (h.lt g rfl).2, fun k hk c hc => ?_⟩
  rw [h.cellAt (k * 3 + c) (by omega)]
  exact fcells_get f c hc n k hk
theorem LShows.far {w w' : World} {L : Value} {n : Nat} {f : Nat -> FE} (h : LShows w L n f) (hz : w.heap.size <= w'.heap.size) (hq : ∀ q, L.ownBlock = some q -> w'.heap[q]? = w.heap[q]?) : LShows w' L n f := by
 rcases h with h | ⟨gb, cap, rfl, h1, h2⟩
 ·exact .inl h
 ·exact .inr ⟨gb, cap, rfl, by omega, fun k hk c hc => (World.cell?_of_block (hq gb rfl)).trans (h2 k hk c hc)⟩
structure Pg.OK (p : Pg) (w : World) : Prop where
 le : p.n <= 64
 idl : p.id < 1000
 s0 : p.s = 0 -> w.ownsRow 0 82 3 p.L p.n (fcells p.f p.n) /\ p.G = .slice none 0 0 /\ w.ownsRow 0 82 3 p.W p.n (fcells p.f p.n) /\ (∀ q, p.L.ownBlock = some q -> p.W.ownBlock ≠ some q) /\ ∃ gw cw, p.W = .slice (some ⟨gw, 0, none⟩) p.n cw
 s1 : p.s = 1 -> w.ownsRow 0 82 3 p.L p.n (fcells (mkF p.id) p.n) /\ p.G = .slice none 0 0
 s2 : p.s = 2 -> LShows w p.L p.n (mkF p.id) /\ w.ownsRow 0 82 3 p.G (p.n + 64) (fcells (fcat (mkF p.id) p.n (mkF (p.id + 100000))) (p.n + 64))
 s3 : p.s <= 2
theorem Pg.OK.far {p : Pg} {w w' : World} (h : p.OK w) (hz : w.heap.size <= w'.heap.size) (hq : ∀ q, p.has q -> w'.heap[q]? = w.heap[q]?) : p.OK w' :=
 ⟨h.le, h.idl, fun e => ⟨row_far (h.s0 e).1 (fun q hq' => hq q (.inl hq')), (h.s0 e).2.1, row_far (h.s0 e).2.2.1 (fun q hq' => hq q (.inr (.inr hq'))), (h.s0 e).2.2.2⟩,
  fun e => ⟨row_far (h.s1 e).1 (fun q hq' => hq q (.inl hq')), (h.s1 e).2⟩,
  fun e => ⟨(h.s2 e).1.far hz (fun q hq' => hq q (.inl hq')), row_far (h.s2 e).2 (fun q hq' => hq q (.inr (.inl hq')))⟩, h.s3⟩
def pages (p : Nat -> Pg) : Nat -> List Value
 | 0 => []
 | m + 1 => pages p m ++ (p m).cells
theorem pages_len (p : Nat -> Pg) : ∀ m, (pages p m).length = m * 5
 | 0 => rfl
 | m + 1 => by simp [pages, pages_len p m, Pg.cells]; omega
theorem pages_get (p : Nat -> Pg) (c : Nat) (hc : c < 5) : ∀ m i, i < m -> (pages p m)[i * 5 + c]? = (p i).cells[c]?
 | 0, i, h => by omega
 | m + 1, i, h => by
  by_cases e : i = m
  ·subst e
   rw [pages, List.getElem?_append_right (by rw [pages_len]; omega), pages_len]
   congr 1
   omega
  ·rw [pages, List.getElem?_append_left (by rw [pages_len]; omega)]
   exact pages_get p c hc m i (by omega)
theorem pages_ext {p p' : Nat -> Pg} : ∀ m, (∀ i, i < m -> (p i).cells = (p' i).cells) -> pages p m = pages p' m
 | 0, _ => rfl
 | m + 1, h => by rw [pages, pages, pages_ext m (fun i hi => h i (by omega)), h m (by omega)]
def upd (p : Nat -> Pg) (i : Nat) (P : Pg) : Nat -> Pg := fun j => if j = i then P else p j
theorem upd_same (p : Nat -> Pg) (i : Nat) (P : Pg) : upd p i P i = P := by simp [upd]
theorem upd_other (p : Nat -> Pg) (i j : Nat) (P : Pg) (h : j ≠ i) : upd p i P j = p j := by simp [upd, h]
theorem pages_set (p : Nat -> Pg) (i : Nat) (P : Pg) (c : Nat) (v : Value) (hc : c < 5) (hP : P.cells = (p i).cells.set c v) : ∀ m, i < m -> (pages p m).set (i * 5 + c) v = pages (upd p i P) m
 | 0, h => by omega
 | m + 1, h => by
  by_cases e : i = m
  ·subst e
   rw [pages, pages, upd_same, hP, List.set_append_right _ _ (by rw [pages_len]; omega), pages_len, pages_ext i (p' := upd p i P) (fun j hj => by rw [upd_other _ _ _ _ (by omega)])]
   congr 2
   omega
  ·rw [pages, pages, upd_other _ _ _ _ (by omega), List.set_append_left _ _ (by rw [pages_len]; omega), pages_set p i P c v hc hP m (by omega)]
structure KindAt (w : World) (bk m : Nat) (R : Value) (p : Nat -> Pg) : Prop where
 c1 : w.cell? ⟨bk, 24, none⟩ = some R
 fz : ∀ i, w.frozen? ⟨bk, i, none⟩ = false
 row : w.ownsRow 0 163 5 R m (pages p m)
 rb : R.ownBlock ≠ some bk
 ok : ∀ i, i < m -> (p i).OK w
 far : ∀ i, i < m -> ∀ q, (p i).has q -> q ≠ bk /\ R.ownBlock ≠ some q /\ q < w.heap.size
 apart : ∀ i j, i < m -> j < m -> i ≠ j -> ∀ q, (p i).has q -> ¬ (p j).has q
 tab : Pw w
 b3 : bk ≠ 0
 r3 : R.ownBlock ≠ some 0
 p3 : ∀ i, i < m -> ¬ (p i).has 0
theorem KindAt.lt {w : World} {bk m : Nat} {R : Value} {p : Nat -> Pg} (h : KindAt w bk m R p) : bk < w.heap.size := World.block_lt_of_cell? w ⟨bk, 24, none⟩ h.c1
theorem KindAt.stay {w w' : World} {bk m : Nat} {R : Value} {p : Nat -> Pg} (h : KindAt w bk m R p) (hz : w.heap.size <= w'.heap.size) (hb : w'.heap[bk]? = w.heap[bk]?) (hr : ∀ q, R.ownBlock = some q -> w'.heap[q]? = w.heap[q]?) (hp : ∀ i, i < m -> ∀ q, (p i).has q -> w'.heap[q]? = w.heap[q]?) (ht : w'.heap[0]? = w.heap[0]?) : KindAt w' bk m R p :=
 ⟨(World.cell?_of_block hb).trans h.c1, fun i => (World.frozen?_of_block hb).trans (h.fz i), row_far h.row hr, h.rb,
  fun i hi => (h.ok i hi).far hz (hp i hi), fun i hi q hq => ⟨(h.far i hi q hq).1, (h.far i hi q hq).2.1, by have := (h.far i hi q hq).2.2; omega⟩, h.apart, h.tab.keep ht, h.b3, h.r3, h.p3⟩
theorem KindAt.below {w w' : World} {bk m : Nat} {R : Value} {p : Nat -> Pg} (h : KindAt w bk m R p) (hb : Below w.heap.size w w') : KindAt w' bk m R p :=
 h.stay hb.size (hb.block _ h.lt) (fun q hq => hb.block q (h.row.lt q hq).2) (fun i hi q hq => hb.block q (h.far i hi q hq).2.2) (hb.block 0 h.tab.lt)
theorem KindAt.put {w w' : World} {bk m i : Nat} {R : Value} {p : Nat -> Pg} {P : Pg} (h : KindAt w bk m R p) (hi : i < m) (hrow : w'.ownsRow 0 163 5 R m (pages (upd p i P) m)) (hok : P.OK w') (hz : w.heap.size <= w'.heap.size)
  (hfar : ∀ q, q < w.heap.size -> R.ownBlock ≠ some q -> ¬ (p i).has q -> w'.heap[q]? = w.heap[q]?) (hhas : ∀ q, P.has q -> (p i).has q \/ w.heap.size <= q) (hlt : ∀ q, P.has q -> q < w'.heap.size) : KindAt w' bk m R (upd p i P) := by
 have hbk := h.lt
 have hb : w'.heap[bk]? = w.heap[bk]? := hfar bk hbk h.rb (fun hq => (h.far i hi bk hq).1 rfl)
 have hRlt : ∀ q, R.ownBlock = some q -> q < w.heap.size := fun q hq => (h.row.lt q hq).2
 refine ⟨(World.cell?_of_block hb).trans h.c1, fun i => (World.frozen?_of_block hb).trans (h.fz i), hrow, h.rb, fun j hj => ?_, fun j hj q hq => ?_, fun a b ha hb' hab q hq hq' => ?_, h.tab.keep (hfar 0 h.tab.lt h.r3 (h.p3 i hi)), h.b3, h.r3, fun j hj hq => ?_⟩
 ·by_cases e : j = i
  ·subst e; rw [upd_same]; exact hok
  ·rw [upd_other _ _ _ _ e]
   exact (h.ok j hj).far hz (fun q hq => hfar q (h.far j hj q hq).2.2 (h.far j hj q hq).2.1 (h.apart j i hj hi e q hq))
 ·by_cases e : j = i
  ·subst e
   rw [upd_same] at hq
   rcases hhas q hq with h' | h'
   ·exact ⟨(h.far j hj q h').1, (h.far j hj q h').2.1, hlt q hq⟩
   ·exact ⟨by omega, fun e => by have := hRlt q e; omega, hlt q hq⟩
  ·rw [upd_other _ _ _ _ e] at hq
   exact ⟨(h.far j hj q hq).1, (h.far j hj q hq).2.1, by have := (h.far j hj q hq).2.2; omega⟩
 ·by_cases e : a = i
  ·subst e
   rw [upd_same] at hq
   rw [upd_other _ _ _ _ (fun e => hab e.symm)] at hq'
   rcases hhas q hq with h' | h'
   ·exact h.apart a b ha hb' hab q h' hq'
   ·have := (h.far b hb' q hq').2.2; omega
  ·rw [upd_other _ _ _ _ e] at hq
   by_cases e' : b = i
   ·subst e'
    rw [upd_same] at hq'
    rcases hhas q hq' with h' | h'
    ·exact h.apart a b ha hb' hab q hq h'
    ·have := (h.far a ha q hq).2.2; omega
   ·rw [upd_other _ _ _ _ e'] at hq'
    exact h.apart a b ha hb' hab q hq hq'
 ·by_cases e : j = i
  ·subst e
   rw [upd_same] at hq
   rcases hhas 0 hq with h' | h'
   ·exact h.p3 j hj h'
   ·have := h.tab.lt; omega
  ·rw [upd_other _ _ _ _ e] at hq
   exact h.p3 j hj hq
theorem KindAt.push {w w' : World} {bk m : Nat} {R R' : Value} {p : Nat -> Pg} {P : Pg} (h : KindAt w bk m R p) (c1 : w'.cell? ⟨bk, 24, none⟩ = some R') (cf : ∀ i, w'.frozen? ⟨bk, i, none⟩ = w.frozen? ⟨bk, i, none⟩)
  (hrow : w'.ownsRow 0 163 5 R' (m + 1) (pages p m ++ P.cells)) (hR : ∀ q, R'.ownBlock = some q -> q ≠ bk /\ ¬ P.has q /\ (R.ownBlock = some q \/ w.heap.size <= q)) (hok : P.OK w') (hz : w.heap.size <= w'.heap.size)
  (hfar : ∀ i, i < m -> ∀ q, (p i).has q -> w'.heap[q]? = w.heap[q]?) (hP : ∀ q, P.has q -> q ≠ bk /\ q < w'.heap.size /\ ∀ i, i < m -> ¬ (p i).has q) (ht : w'.heap[0]? = w.heap[0]?) (hP3 : ¬ P.has 0) : KindAt w' bk (m + 1) R' (upd p m P) := by
 have hin : ∀ j, j < m + 1 -> j ≠ m -> j < m := fun j h1 h2 => by omega
 refine ⟨c1, fun i => (cf i).trans (h.fz i), ?_, fun e => (hR bk e).1 rfl, fun j hj => ?_, fun j hj q hq => ?_, fun a b ha hb' hab q hq hq' => ?_, h.tab.keep ht, h.b3, fun e => (hR 0 e).2.2.elim h.r3 (fun h' => by have := h.tab.lt; omega), fun j hj hq => ?_⟩
 ·rw [pages, upd_same, pages_ext m (p' := p) (fun j hj => by rw [upd_other _ _ _ _ (by omega)])]
  exact hrow
 ·by_cases e : j = m
  ·subst e; rw [upd_same]; exact hok
  ·rw [upd_other _ _ _ _ e]
   exact (h.ok j (hin j hj e)).far hz (fun q hq => hfar j (hin j hj e) q hq)
 ·by_cases e : j = m
  ·subst e
   rw [upd_same] at hq
   exact ⟨(hP q hq).1, fun e => (hR q e).2.1 hq, (hP q hq).2.1⟩
  ·rw [upd_other _ _ _ _ e] at hq
   have hf := h.far j (hin j hj e) q hq
   exact ⟨hf.1, fun e => by rcases (hR q e).2.2 with h' | h'; exact hf.2.1 h'; omega, by omega⟩
 ·by_cases e : a = m
  ·subst e
   rw [upd_same] at hq
   rw [upd_other _ _ _ _ (fun e => hab e.symm)] at hq'
   exact (hP q hq).2.2 b (hin b hb' (fun e => hab e.symm)) hq'
  ·rw [upd_other _ _ _ _ e] at hq
   by_cases e' : b = m
   ·subst e'
    rw [upd_same] at hq'
    exact (hP q hq').2.2 a (hin a ha e) hq
   ·rw [upd_other _ _ _ _ e'] at hq'
    exact h.apart a b (hin a ha e) (hin b hb' e') hab q hq hq'
 ·by_cases e : j = m
  ·subst e
   rw [upd_same] at hq
   exact hP3 hq
  ·rw [upd_other _ _ _ _ e] at hq
   exact h.p3 j (hin j hj e) hq
structure Rest (w w' : World) (R : Value) (p : Nat -> Pg) (m : Nat) : Prop where
 size : w.heap.size <= w'.heap.size
 os : w'.os = w.os
 tape : w'.tape = w.tape
 output : w'.output = w.output
 block : ∀ q, q < w.heap.size -> R.ownBlock ≠ some q -> (∀ i, i < m -> ¬ (p i).has q) -> w'.heap[q]? = w.heap[q]?
theorem Rest.refl (w : World) (R : Value) (p : Nat -> Pg) (m : Nat) : Rest w w R p m := ⟨Nat.le_refl _, rfl, rfl, rfl, fun _ _ _ _ => rfl⟩
theorem Rest.trans {w w1 w' : World} {R : Value} {p p' : Nat -> Pg} {m : Nat} (h : Rest w w1 R p m) (h' : Rest w1 w' R p' m) (hhas : ∀ i, i < m -> ∀ q, (p' i).has q -> (p i).has q \/ w.heap.size <= q) : Rest w w' R p m :=
 ⟨Nat.le_trans h.size h'.size, h'.os.trans h.os, h'.tape.trans h.tape, h'.output.trans h.output, fun q h1 h2 h3 => (h'.block q (Nat.lt_of_lt_of_le h1 h.size) h2 (fun i hi hq => by rcases hhas i hi q hq with h4 | h4; exact h3 i hi h4; omega)).trans (h.block q h1 h2 h3)⟩
end Go.Proofs.YtpeohbkigkfcgabGreatDoor.Kf
