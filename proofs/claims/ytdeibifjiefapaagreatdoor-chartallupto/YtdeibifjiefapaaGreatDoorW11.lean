import Derived.Test.YtdeibifjiefapaaGreatDoorW10
import Derived.Maps.AppendAt
import Derived.Shelf.RegionOpen
import Derived.Stop.RegionWithIn
/- chart: Accounts (9). -/
namespace Go.Proofs.YtdeibifjiefapaaGreatDoor
open Go Go.Shelf Go.ChangeShapes Go.WideShapes Go.ChangeAt Go.RowKit Go.Maps Go.Sort
set_option linter.unusedVariables false
attribute [local go_sem] Oper.semAt_some
/-- an append as a step of a region that draws, inside a fence, by its run -/
theorem step_app_in {F : Fence} {nF : Nat} {P : Program} {ops : Array Oper} {o : Oper} {a : Act} {K : Act → World → Prop} {Q : Exit → Act → World → Prop} {E : Prop} {w : World} (hgd : o.guard = none) (s x : Operand) (t : TypeId)
    (ho : o.op = .call { callee := .builtin .append, args := #[s, x], argTypes := #[t, t] }) (v u v' : Value) (w' : World) (hs : a.eval s = v) (hx : a.eval x = u) (hr : (Builtin.append_ #[t, t] o.type #[v, u]).run P w = .ok v' w') (h : K (a.put o.dst v') w') :
    if Region.wanted o (yielded ops a.tmps) = true then Oper.wpIn F nF P o a w K Q else E := by
  have hw : Region.wanted o (yielded ops a.tmps) = true := by simp [Region.wanted, hgd]
  rw [if_pos hw]
  unfold Oper.wpIn
  refine ⟨by simp [Oper.about, ho, resolve, Target.leads, Sem.run_pure], ?_⟩
  rw [Oper.semAt_plain F _ _ (by rw [ho]; intro c hc'; cases hc')]
  simp [execOp, ho, resolve, invoke, builtin, hs, hx, hr, Result.andThen]
  exact h
def acOf (L : List Ac) (y : Nm) : Ac := (fnd L y).getD top0
theorem acOf_is {L : List Ac} (hG : Good L) {a : Ac} (ha : a ∈ L) : acOf L a.nm = a := by rw [acOf, fnd_of hG ha]; rfl
/-- what has been gathered -/
structure Gt (W : World) (L : List Ac) (pre : List Nm) (v : Value) (X : World) : Prop where
  box : Boxed X W.heap.size 22 v
  row : X.ownsRow (W.heap.size + 2) 65 4 v pre.length (kA.flat (pre.map (acOf L)))
  bel : Below W.heap.size W X
  siz : W.heap.size + 2 ≤ X.heap.size
theorem Gt.own {W : World} {L : List Ac} {B : Nat} (hB : W.heap.size ≤ B) : OwnL B (fun (pre : List Nm) X => ∃ v, Gt W L pre v X) := fun s X Y row hs hg hr => by
  obtain ⟨v, h⟩ := hs
  refine ⟨v, ownL_boxed B _ 22 (fun (_ : Unit) => v) () X Y row h.box hg hr, row_keep h.row (fun g hgv => ?_), ownL_below (Nat.le_refl _) hB () X Y row h.bel hg hr, Nat.le_trans h.siz hg.size⟩
  obtain ⟨_, hlt, o, ho, hc⟩ := row_block h.row hgv
  refine hg.block g hlt (fun e => ?_)
  obtain ⟨_, o', ho', hl⟩ := hr g e.symm
  rw [ho] at ho'
  injection ho' with ho'
  subst ho'
  cases o <;> simp_all [lpy, Obj.isCells]
/-- one more is gathered -/
theorem gt_more {W X w2 : World} {L : List Ac} {pre : List Nm} {v : Value} {a : Ac} {p' : Option Addr} {c' : Nat} {o : Obj} (h : Gt W L pre v X) (ha : acOf L a.nm = a)
    (ho : w2.ownsRow (W.heap.size + 2) kA.e kA.s (.slice p' (pre.length + 1) c') (pre.length + 1) (kA.flat (pre.map (acOf L) ++ [a]))) (hb : Below (W.heap.size + 2) (X.alloc o) w2)
    (hk : ∀ k, k < (X.alloc o).heap.size → v.ownBlock ≠ some k → w2.heap[k]? = (X.alloc o).heap[k]?) :
    Gt W L (pre ++ [a.nm]) (.slice p' (pre.length + 1) c') (w2.setCell ⟨W.heap.size, 0, none⟩ (.slice p' (pre.length + 1) c')) ∧ KeepsG gdT X (w2.setCell ⟨W.heap.size, 0, none⟩ (.slice p' (pre.length + 1) c')) ∧ w2.cell? ⟨W.heap.size, 0, none⟩ = some v ∧ w2.frozen? ⟨W.heap.size, 0, none⟩ = false := by
  have hs := h.siz
  have hb1 : Boxed w2 W.heap.size 22 v := (hb.block _ (by omega)).trans (h.box.alloc o)
  have hz2 : X.heap.size + 1 ≤ w2.heap.size := by have := hb.size; simpa using this
  have hrow2 : ∀ g, (Value.slice p' (pre.length + 1) c').ownBlock = some g → g ≠ W.heap.size := fun g hg e => by
    have := (row_block ho hg).1
    omega
  refine ⟨⟨hb1.set _, ?_, ?_, by simp; omega⟩, ⟨by simp; omega, fun k o' hk' hg => ?_⟩, hb1.cell, hb1.frozen⟩
  · have e1 : (pre ++ [a.nm]).length = pre.length + 1 := by simp
    have e2 : (pre ++ [a.nm]).map (acOf L) = pre.map (acOf L) ++ [a] := by simp [ha]
    rw [e1, e2]
    exact row_keep ho (fun g hg => Below.heap_setCell _ _ _ _ (hrow2 g hg))
  · exact ((h.bel.alloc (by omega) o).trans (hb.mono (by omega))).setCell (Nat.le_refl _) _
  · have hkl := (Array.getElem?_eq_some_iff.1 hk').1
    have hka : (X.alloc o).heap[k]? = some o' := (Below.heap_alloc _ _ _ hkl).trans hk'
    have ne1 : k ≠ W.heap.size := fun e => by
      subst e
      rw [show X.heap[W.heap.size]? = _ from h.box] at hk'
      injection hk' with hk'
      subst hk'
      revert hg
      simp [gdT]
    have ne2 : v.ownBlock ≠ some k := fun e => by
      rcases h.row.2 with ⟨e2, _⟩ | ⟨g, cap, cur, e2, _, hh, _⟩
      · rw [e2] at e; simp [Value.ownBlock] at e
      · rw [e2] at e
        have e3 : g = k := by simpa [Value.ownBlock] using e
        subst e3
        rw [hh] at hk'
        injection hk' with hk'
        subst hk'
        revert hg
        simp [gdT]
    exact (Below.heap_setCell _ _ _ _ ne1).trans ((hk k (by simp; omega) ne2).trans hka)
/-- what Accounts answers -/
def AccOut (W : World) (L : List Ac) (e : Ending) (w' : World) : Prop :=
  ∃ p c, e = .returned (.slice p L.length c) ∧ Lies kA w' p L ∧ (∀ a, p = some a → W.heap.size ≤ a.block ∧ a.off = 0 ∧ a.spot = none) ∧ (p = none → c = 0) ∧ Below W.heap.size W w'
theorem sorted_is {L A : List Ac} (hG : Good L) (hp : A.Perm L) (hs : A.Pairwise fun a b => ¬ b.nm < a.nm) : A = L := by
  have hlt : A.Pairwise fun a b => a.nm < b.nm := by
    have hnd : A.Pairwise fun a b => a.nm ≠ b.nm := by
      have h1 : (A.map (·.nm)).Nodup := ((hp.map (·.nm)).nodup_iff).2 (rise_nodup hG.names_rise)
      unfold List.Nodup at h1
      rw [List.pairwise_map] at h1
      exact h1
    refine (hs.and hnd).imp (fun {a b} h => ?_)
    by_cases h1 : a.nm < b.nm
    · exact h1
    · exact absurd (slt_tri h1 h.1) h.2
  exact hp.eq_of_pairwise (fun a b ha hb h1 h2 => absurd (slt_trans h1 h2) (slt_irrefl _)) hlt hG.rise

set_option maxRecDepth 100000 in
set_option maxHeartbeats 8000000 in
theorem accounts_any {W : World} {d : Nat} {S : Nat → Prop} {L : List Ac} {g : Gh} (h : ChAt W d S L g) (hG : Good L) (hS : ∀ k, S k → k < W.heap.size) : Calls Tryz.prog 25 #[ptr d] W fun e w' => AccOut W L e w' := by
  have HC := hide h; have HG := hide hG; have HS := hide hS
  have hlen := desc_len hG
  have HL := hide hlen
  have h100 := hG.len
  clear h hG hlen hS
  refine (callsIn_wide (n := 4)).1 ?_
  refine callsIn_of_wp_marks Tryz.func25 rfl trivial ?_ rfl
  simp only [Tryz.ntmps25, List.size_toArray, List.length_cons, List.length_nil, Nat.reduceAdd, Nat.reduceSub, Array.replicate_succ, Array.replicate_zero, List.push_toArray, List.append_toArray, List.nil_append, List.cons_append]
  gi_wp2_with fail
  refine ⟨trivial, (callsIn_wide.2 (below_any d _)).mono ?_⟩
  rintro e w1 ⟨rfl, hw⟩
  have b2 : Boxed w1 (W.heap.size + 1) 98 (ptr d) := by
    have h := Boxed.new (W.alloc (.cells #[.slice none 0 0] 22)) 98 (ptr d)
    rw [World.size_alloc] at h
    rw [hw]
    exact h
  have hB : Below W.heap.size W w1 := by rw [hw]; exact ((Below.refl _ W).alloc (Nat.le_refl _) _).alloc (by simp) _
  have hz1 : w1.heap.size = W.heap.size + 1 + 1 := by rw [hw]; simp
  have g1 : Gt W L [] (.slice none 0 0) w1 := ⟨by rw [hw]; exact (Boxed.new W 22 (.slice none 0 0)).alloc _, ⟨rfl, .inl ⟨rfl, rfl⟩⟩, hB, by omega⟩
  have hC1 : ChAt w1 d S L g := (unhide HC).keepG (KeepsG.below hB)
  have hseq := hide (below_gives (unhide HG) 6 [] (.inl rfl) (by simp [dep]) w1 (W.heap.size + 1) hC1 (by rw [hC1.top]; exact b2))
  have G1 := hide g1
  rw [World.size_alloc]
  clear hw b2 hB hC1 g1
  gi_wp2_with fail
  refine range_st (α := Nm) gdT gdT_lpy (by omega) (gf := 166) (lb := #[ptr (W.heap.size + 1)]) rfl enters39 (unhide hseq) (fun _ => rfl)
    (fun pre X => ∃ v, Gt W L pre v X) (fun _ _ => False)
    (Gt.own (by omega)) (fun _ _ _ _ hs _ _ => hs.elim) ⟨_, unhide G1⟩
    (fun x => { tmps := #[ptr d, undef, .slice none 0 0, ptr W.heap.size, ptr (g.nd x), ptr d, ptr d, ptr d, .func (.func 166) #[] #[ptr (W.heap.size + 1)], ptr (g.nd x), undef, undef, undef, undef, undef, undef, undef, undef, undef, undef], defers := [] }) ?assign ?body ?done ?stop
  case assign =>
    intro l x W' K hK
    unfold encN
    gi_wp2
    exact hK
  case body =>
    rintro l pre z X ⟨v, hgt⟩ hpx
    have hz : z ∈ desc L 6 [] := hpx.subset (by simp)
    have hle := hpx.length_le
    rw [unhide HL] at hle
    simp at hle
    obtain ⟨a, haL, haz⟩ := (mem_top (unhide HG) z).1 hz
    subst haz
    have hnode : X.heap[g.nd a.nm]? = some (.cells (cellsA a (ksl g L a.nm)) 68) := (hgt.bel.block _ (unhide HS _ ((unhide HC).sn a haL))).trans ((unhide HC).node a haL)
    have hac := acOf_is (unhide HG) haL
    obtain ⟨nz, hnz⟩ : ∃ nz, nz = g.nd a.nm := ⟨_, rfl⟩
    rw [← hnz] at hnode ⊢
    have k0 : X.drew.cell? ⟨nz, 0, none⟩ = some (.string (txN a.nm)) := cell_of (W := X.drew) hnode rfl
    have k1 : X.drew.cell? ⟨nz, 1, none⟩ = some (.int .i64 a.ty) := cell_of (W := X.drew) hnode rfl
    have k2 : X.drew.cell? ⟨nz, 2, none⟩ = some (.int .i64 a.dy) := cell_of (W := X.drew) hnode rfl
    have k3 : X.drew.cell? ⟨nz, 3, none⟩ = some (.bool a.cl) := cell_of (W := X.drew) hnode rfl
    have kb : X.drew.cell? ⟨W.heap.size, 0, none⟩ = some v := hgt.box.cell
    have kba : ∀ o, (X.drew.alloc o).cell? ⟨W.heap.size, 0, none⟩ = some v := fun o => (hgt.box.alloc o).cell
    have kbd : ∀ o, (X.alloc o).drew.cell? ⟨W.heap.size, 0, none⟩ = some v := fun o => (hgt.box.alloc o).cell
    have hmx : Tryz.prog.follows .mixedOrders = true := by kernel_rfl
    have hrd : (X.drew.alloc (.cells #[.string (txN a.nm), .int .i64 a.ty, .int .i64 a.dy, .bool a.cl] 65)).ownsRow (W.heap.size + 2) kA.e kA.s v pre.length (kA.flat (pre.map (acOf L))) := by
      refine row_keep (W := X) hgt.row (fun q hq => ?_)
      exact Below.heap_alloc X.drew _ _ (row_block hgt.row hq).2.1
    obtain ⟨p', c', w2, hrun, ho2, hb2, hk2, _⟩ := run_app kA_ok 22 hrd (by have := hgt.siz; show W.heap.size + 2 ≤ (X.drew.alloc _).heap.size; rw [World.size_alloc]; show _ ≤ X.heap.size + 1; omega) (some ⟨X.drew.heap.size, 0, none⟩) 1 (fun h => by cases h) (one_lies X.drew a 65 _ rfl) (by simp; omega)
    obtain ⟨p', c', w2, hrun, ho2, hb2, hk2, _⟩ : ∃ p' c' w2, (Builtin.append_ #[22, 22] 22 #[v, .slice (some ⟨X.drew.heap.size, 0, none⟩) 1 1]).run Tryz.prog (X.drew.alloc (.cells #[.string (txN a.nm), .int .i64 a.ty, .int .i64 a.dy, .bool a.cl] 65)) = .ok (.slice p' (pre.length + 1) c') w2 ∧ w2.ownsRow (W.heap.size + 2) kA.e kA.s (.slice p' (pre.length + 1) c') (pre.length + 1) (kA.flat (pre.map (acOf L) ++ [a])) ∧ Below (W.heap.size + 2) (X.drew.alloc (.cells #[.string (txN a.nm), .int .i64 a.ty, .int .i64 a.dy, .bool a.cl] 65)) w2 ∧ (∀ k, k < (X.drew.alloc (.cells #[.string (txN a.nm), .int .i64 a.ty, .int .i64 a.dy, .bool a.cl] 65)).heap.size → v.ownBlock ≠ some k → w2.heap[k]? = (X.drew.alloc (.cells #[.string (txN a.nm), .int .i64 a.ty, .int .i64 a.dy, .bool a.cl] 65)).heap[k]?) ∧ True := ⟨p', c', w2, hrun, ho2, hb2, hk2, trivial⟩
    have hd : Gt W L pre v X.drew := ⟨hgt.box, hgt.row, ⟨hgt.bel.os, hgt.bel.tape, hgt.bel.output, hgt.bel.size, hgt.bel.block⟩, hgt.siz⟩
    have hfin := gt_more hd hac ho2 hb2 hk2
    have kc := hfin.2.2.1
    have kf := hfin.2.2.2
    have HFIN : Hid (Gt W L (pre ++ [a.nm]) (.slice p' (pre.length + 1) c') (w2.setCell ⟨W.heap.size, 0, none⟩ (.slice p' (pre.length + 1) c')) ∧ KeepsG gdT X (w2.setCell ⟨W.heap.size, 0, none⟩ (.slice p' (pre.length + 1) c')) ∧ True) := ⟨hfin.1, ⟨hfin.2.1.size, hfin.2.1.same⟩, trivial⟩
    have HRUN := hide hrun
    clear hfin hd hrun ho2 hb2 hk2 hrd hac hnz hnode hgt hz hpx haL hle
    gi_wp2
    refine wpIn_region_any (by assumption) ?_
    change wpAnyIn _ _ _ _ _ _ _ _ _ (World.drew _)
    refine wpAnyIn_ready (rs := [0, 1]) (by kernel_rfl) (by simp) ?_
    refine AllReadyIn.cons rfl (fun K hK => ?_) (AllReadyIn.cons rfl (fun K hK => ?_) AllReadyIn.nil)
    · go_simp
      refine hK _ _ ?_; clear hK K
      refine wpAnyIn_ready (rs := [1]) (by kernel_rfl) (by simp) ?_
      refine AllReadyIn.cons rfl (fun K hK => ?_) AllReadyIn.nil
      go_simp
      refine hK _ _ ?_; clear hK K
      refine wpAnyIn_ready (rs := [2]) (by kernel_rfl) (by simp) ?_
      refine AllReadyIn.cons rfl (fun K hK => ?_) AllReadyIn.nil
      go_simp
      refine hK _ _ ?_; clear hK K
      refine wpAnyIn_ready (rs := [3]) (by kernel_rfl) (by simp) ?_
      refine AllReadyIn.cons rfl (fun K hK => ?_) AllReadyIn.nil
      go_simp
      refine hK _ _ ?_; clear hK K
      refine wpAnyIn_ready (rs := [4]) (by kernel_rfl) (by simp) ?_
      refine AllReadyIn.cons rfl (fun K hK => ?_) AllReadyIn.nil
      go_simp
      refine hK _ _ ?_; clear hK K
      refine wpAnyIn_ready (rs := [5]) (by kernel_rfl) (by simp) ?_
      refine AllReadyIn.cons rfl (fun K hK => ?_) AllReadyIn.nil
      go_simp
      refine hK _ _ ?_; clear hK K
      refine wpAnyIn_ready (rs := [6]) (by kernel_rfl) (by simp) ?_
      refine AllReadyIn.cons rfl (fun K hK => ?_) AllReadyIn.nil
      refine step_app_in rfl _ _ 22 rfl v (.slice (some ⟨X.drew.heap.size, 0, none⟩) 1 1) _ w2 rfl rfl (unhide HRUN) ?_
      refine hK _ _ ?_; clear hK K
      refine wpAnyIn_ready (rs := [7]) (by kernel_rfl) (by simp) ?_
      refine AllReadyIn.cons rfl (fun K hK => ?_) AllReadyIn.nil
      go_simp
      refine hK _ _ ?_; clear hK K
      refine wpAnyIn_done (by kernel_rfl) ?_ _
      gi_wp2
      exact .inl ⟨rfl, (unhide HFIN).2.1, _, (unhide HFIN).1⟩
    · go_simp
      refine hK _ _ ?_; clear hK K
      refine wpAnyIn_ready (rs := [0, 2]) (by kernel_rfl) (by simp) ?_
      refine AllReadyIn.cons rfl (fun K hK => ?_) (AllReadyIn.cons rfl (fun K hK => ?_) AllReadyIn.nil)
      · go_simp
        refine hK _ _ ?_; clear hK K
        refine wpAnyIn_ready (rs := [2]) (by kernel_rfl) (by simp) ?_
        refine AllReadyIn.cons rfl (fun K hK => ?_) AllReadyIn.nil
        go_simp
        refine hK _ _ ?_; clear hK K
        refine wpAnyIn_ready (rs := [3]) (by kernel_rfl) (by simp) ?_
        refine AllReadyIn.cons rfl (fun K hK => ?_) AllReadyIn.nil
        go_simp
        refine hK _ _ ?_; clear hK K
        refine wpAnyIn_ready (rs := [4]) (by kernel_rfl) (by simp) ?_
        refine AllReadyIn.cons rfl (fun K hK => ?_) AllReadyIn.nil
        go_simp
        refine hK _ _ ?_; clear hK K
        refine wpAnyIn_ready (rs := [5]) (by kernel_rfl) (by simp) ?_
        refine AllReadyIn.cons rfl (fun K hK => ?_) AllReadyIn.nil
        go_simp
        refine hK _ _ ?_; clear hK K
        refine wpAnyIn_ready (rs := [6]) (by kernel_rfl) (by simp) ?_
        refine AllReadyIn.cons rfl (fun K hK => ?_) AllReadyIn.nil
        refine step_app_in rfl _ _ 22 rfl v (.slice (some ⟨X.drew.heap.size, 0, none⟩) 1 1) _ w2 rfl rfl (unhide HRUN) ?_
        refine hK _ _ ?_; clear hK K
        refine wpAnyIn_ready (rs := [7]) (by kernel_rfl) (by simp) ?_
        refine AllReadyIn.cons rfl (fun K hK => ?_) AllReadyIn.nil
        go_simp
        refine hK _ _ ?_; clear hK K
        refine wpAnyIn_done (by kernel_rfl) ?_ _
        gi_wp2
        exact .inl ⟨rfl, (unhide HFIN).2.1, _, (unhide HFIN).1⟩
      · go_simp
        refine hK _ _ ?_; clear hK K
        refine wpAnyIn_ready (rs := [0, 3]) (by kernel_rfl) (by simp) ?_
        refine AllReadyIn.cons rfl (fun K hK => ?_) (AllReadyIn.cons rfl (fun K hK => ?_) AllReadyIn.nil)
        · go_simp
          refine hK _ _ ?_; clear hK K
          refine wpAnyIn_ready (rs := [3]) (by kernel_rfl) (by simp) ?_
          refine AllReadyIn.cons rfl (fun K hK => ?_) AllReadyIn.nil
          go_simp
          refine hK _ _ ?_; clear hK K
          refine wpAnyIn_ready (rs := [4]) (by kernel_rfl) (by simp) ?_
          refine AllReadyIn.cons rfl (fun K hK => ?_) AllReadyIn.nil
          go_simp
          refine hK _ _ ?_; clear hK K
          refine wpAnyIn_ready (rs := [5]) (by kernel_rfl) (by simp) ?_
          refine AllReadyIn.cons rfl (fun K hK => ?_) AllReadyIn.nil
          go_simp
          refine hK _ _ ?_; clear hK K
          refine wpAnyIn_ready (rs := [6]) (by kernel_rfl) (by simp) ?_
          refine AllReadyIn.cons rfl (fun K hK => ?_) AllReadyIn.nil
          refine step_app_in rfl _ _ 22 rfl v (.slice (some ⟨X.drew.heap.size, 0, none⟩) 1 1) _ w2 rfl rfl (unhide HRUN) ?_
          refine hK _ _ ?_; clear hK K
          refine wpAnyIn_ready (rs := [7]) (by kernel_rfl) (by simp) ?_
          refine AllReadyIn.cons rfl (fun K hK => ?_) AllReadyIn.nil
          go_simp
          refine hK _ _ ?_; clear hK K
          refine wpAnyIn_done (by kernel_rfl) ?_ _
          gi_wp2
          exact .inl ⟨rfl, (unhide HFIN).2.1, _, (unhide HFIN).1⟩
        · go_simp
          refine hK _ _ ?_; clear hK K
          refine wpAnyIn_ready (rs := [0, 4]) (by kernel_rfl) (by simp) ?_
          refine AllReadyIn.cons rfl (fun K hK => ?_) (AllReadyIn.cons rfl (fun K hK => ?_) AllReadyIn.nil)
          · go_simp
            refine hK _ _ ?_; clear hK K
            refine wpAnyIn_ready (rs := [4]) (by kernel_rfl) (by simp) ?_
            refine AllReadyIn.cons rfl (fun K hK => ?_) AllReadyIn.nil
            go_simp
            refine hK _ _ ?_; clear hK K
            refine wpAnyIn_ready (rs := [5]) (by kernel_rfl) (by simp) ?_
            refine AllReadyIn.cons rfl (fun K hK => ?_) AllReadyIn.nil
            go_simp
            refine hK _ _ ?_; clear hK K
            refine wpAnyIn_ready (rs := [6]) (by kernel_rfl) (by simp) ?_
            refine AllReadyIn.cons rfl (fun K hK => ?_) AllReadyIn.nil
            refine step_app_in rfl _ _ 22 rfl v (.slice (some ⟨X.drew.heap.size, 0, none⟩) 1 1) _ w2 rfl rfl (unhide HRUN) ?_
            refine hK _ _ ?_; clear hK K
            refine wpAnyIn_ready (rs := [7]) (by kernel_rfl) (by simp) ?_
            refine AllReadyIn.cons rfl (fun K hK => ?_) AllReadyIn.nil
            go_simp
            refine hK _ _ ?_; clear hK K
            refine wpAnyIn_done (by kernel_rfl) ?_ _
            gi_wp2
            exact .inl ⟨rfl, (unhide HFIN).2.1, _, (unhide HFIN).1⟩
          · go_simp
            refine hK _ _ ?_; clear hK K
            refine wpAnyIn_ready (rs := [0, 5]) (by kernel_rfl) (by simp) ?_
            refine AllReadyIn.cons rfl (fun K hK => ?_) (AllReadyIn.cons rfl (fun K hK => ?_) AllReadyIn.nil)
            · go_simp
              refine hK _ _ ?_; clear hK K
              refine wpAnyIn_ready (rs := [5]) (by kernel_rfl) (by simp) ?_
              refine AllReadyIn.cons rfl (fun K hK => ?_) AllReadyIn.nil
              go_simp
              refine hK _ _ ?_; clear hK K
              refine wpAnyIn_ready (rs := [6]) (by kernel_rfl) (by simp) ?_
              refine AllReadyIn.cons rfl (fun K hK => ?_) AllReadyIn.nil
              refine step_app_in rfl _ _ 22 rfl v (.slice (some ⟨X.drew.heap.size, 0, none⟩) 1 1) _ w2 rfl rfl (unhide HRUN) ?_
              refine hK _ _ ?_; clear hK K
              refine wpAnyIn_ready (rs := [7]) (by kernel_rfl) (by simp) ?_
              refine AllReadyIn.cons rfl (fun K hK => ?_) AllReadyIn.nil
              go_simp
              refine hK _ _ ?_; clear hK K
              refine wpAnyIn_done (by kernel_rfl) ?_ _
              gi_wp2
              exact .inl ⟨rfl, (unhide HFIN).2.1, _, (unhide HFIN).1⟩
            · go_simp
              refine hK _ _ ?_; clear hK K
              refine wpAnyIn_ready (rs := [0]) (by kernel_rfl) (by simp) ?_
              refine AllReadyIn.cons rfl (fun K hK => ?_) AllReadyIn.nil
              go_simp
              refine hK _ _ ?_; clear hK K
              refine wpAnyIn_ready (rs := [6]) (by kernel_rfl) (by simp) ?_
              refine AllReadyIn.cons rfl (fun K hK => ?_) AllReadyIn.nil
              refine step_app_in rfl _ _ 22 rfl v (.slice (some ⟨X.drew.heap.size, 0, none⟩) 1 1) _ w2 rfl rfl (unhide HRUN) ?_
              refine hK _ _ ?_; clear hK K
              refine wpAnyIn_ready (rs := [7]) (by kernel_rfl) (by simp) ?_
              refine AllReadyIn.cons rfl (fun K hK => ?_) AllReadyIn.nil
              go_simp
              refine hK _ _ ?_; clear hK K
              refine wpAnyIn_done (by kernel_rfl) ?_ _
              gi_wp2
              exact .inl ⟨rfl, (unhide HFIN).2.1, _, (unhide HFIN).1⟩
  case done =>
    rintro D X hD ⟨v, hgt⟩ hK
    have hdl : (desc L 6 []).length = L.length := unhide HL
    obtain ⟨R, hR⟩ : ∃ R, R = (desc L 6 []).map (acOf L) := ⟨_, rfl⟩
    have hRp : R.Perm L := by
      rw [hR]
      have h1 := (desc_perm (unhide HG)).map (acOf L)
      rw [List.map_map] at h1
      have e1 : L.map (acOf L ∘ fun a => a.nm) = L := by
        have : L.map (acOf L ∘ fun a => a.nm) = L.map id := List.map_congr_left (fun a ha => acOf_is (unhide HG) ha)
        rw [this, List.map_id]
      rw [e1] at h1
      exact h1
    have hrow := hgt.row
    rw [hdl, ← hR] at hrow
    have cb := hgt.box.cell
    have HGT := hide hgt; have HK := hide hK; have HRP := hide hRp
    have HB : Hid (Below W.heap.size W X) := hgt.bel
    have hsz := hgt.siz
    have HSZ := hide hsz
    have hD2 : Hid (W.heap.size + 2 ≤ D) := by show _ ≤ D; omega
    obtain ⟨p, c, ev, hp0, hp1⟩ := row_slice hrow
    subst ev
    clear hgt hK hRp hsz
    cases p with
    | none =>
      obtain ⟨hn0, hc0⟩ := hp0 rfl
      have hL0 : L = [] := List.length_eq_zero_iff.1 hn0
      subst hL0
      subst hc0
      have dS := hide (sort_nil none 0 (.func (.func 93) #[] #[]) X)
      clear hrow hp0 hp1
      rw [show ([] : List Ac).length = 0 from rfl] at cb
      gi_wp2_with fail
      refine ⟨trivial, (callsIn_wide.2 (unhide dS)).mono ?_⟩
      rintro e X2 ⟨rfl, hX2⟩
      subst hX2
      gi_wp2
      refine ⟨by simp, .inl ⟨_, _, rfl, run_takeDeferred (unhide HK), ?_⟩⟩
      exact ⟨_, results_tmp rfl _ _ _, none, 0, rfl, Lies.nil _ _, (fun a e => by cases e), (fun _ => rfl), (unhide HB).trans (belowK_b (w := W) (Nat.le_refl _) _ D _ _ (by have := unhide hD2; omega) (unhide HK) rfl rfl)⟩
    | some a =>
      obtain ⟨q, hq⟩ : ∃ q, a = ⟨q, 0, none⟩ := by
        obtain ⟨h1, h2⟩ := hp1 a rfl
        obtain ⟨b, o, s⟩ := a
        simp at h1 h2
        subst h1
        obtain ⟨rfl⟩ := h2
        exact ⟨b, rfl⟩
      subst hq
      have hq2 := row_block hrow (g := q) rfl
      have dS := hide (sort_any (c := c) (show R.length = L.length by rw [(unhide HRP).length_eq]) (by omega) (by have := unhide HSZ; exact this) hrow)
      have HQ := hide hq2
      clear hrow hp0 hp1 hq2
      gi_wp2_with fail
      refine ⟨trivial, (callsIn_wide.2 (unhide dS)).mono ?_⟩
      rintro e X2 ⟨rfl, A, hA1, hA2, hA3, hA4, hA5⟩
      have hAL : A = L := sorted_is (unhide HG) (hA1.trans (unhide HRP)) hA2
      subst hAL
      have cb2 : X2.cell? ⟨W.heap.size, 0, none⟩ = some (.slice (some ⟨q, 0, none⟩) A.length c) := (hA4.cell (p := ⟨W.heap.size, 0, none⟩) (by show W.heap.size < W.heap.size + 2; omega)).trans cb
      have hK2 := hA5.same _ _ (unhide HK) rfl
      have H3 := hide hA3; have H4 := hide hA4; have HK2 := hide hK2
      clear hA1 hA2 hA3 hA4 hA5 hK2
      gi_wp2
      have hDq : D ≠ q := fun e => by
        obtain ⟨_, _, o, ho, hc⟩ := unhide HQ
        rw [← e, unhide HK] at ho
        injection ho with ho
        subst ho
        cases hc
      refine ⟨by simp, .inl ⟨_, _, rfl, run_takeDeferred (unhide HK2), ?_⟩⟩
      refine ⟨_, results_tmp rfl _ _ _, some ⟨q, 0, none⟩, c, rfl, (unhide H3).block (by simp) (World.putObj_heap_other (fun e => hDq e.symm)), (fun a e => ?_), (fun e => by cases e), ((unhide HB).trans ((unhide H4).mono (by omega))).trans (belowK_b (w := W) (Nat.le_refl _) _ D _ _ (by have := unhide hD2; omega) (unhide HK2) rfl rfl)⟩
      cases e
      exact ⟨by have := (unhide HQ).1; show W.heap.size ≤ q; omega, rfl, rfl⟩
  case stop => exact fun D pre W' _ _ h _ => h.elim
end Go.Proofs.YtdeibifjiefapaaGreatDoor
