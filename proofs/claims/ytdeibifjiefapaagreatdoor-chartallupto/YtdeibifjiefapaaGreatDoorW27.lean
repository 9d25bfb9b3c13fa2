import Derived.Test.YtdeibifjiefapaaGreatDoorW11
import Derived.Test.YtdeibifjiefapaaGreatDoorW21
/- chart: Accounts (25): what it answers is a row of its own. -/
namespace Go.Proofs.YtdeibifjiefapaaGreatDoor
open Go Go.Shelf Go.ChangeShapes Go.WideShapes Go.ChangeAt Go.RowKit Go.Maps Go.Sort
set_option linter.unusedVariables false
attribute [local go_sem] Oper.semAt_some
section
variable {α : Type} {K : Kd α}
/-- what lies in a block is its row -/
theorem row_of (hK : KdOK K) {W : World} {B g c n : Nat} {A : List α} {cur : Array Value} (hA : A.length = n) (hB : B ≤ g) (hh : W.heap[g]? = some (.cells cur K.e (0, 0))) (hc : n ≤ c) (hm : c ≤ maxLen) (hs : cur.size = c * K.s) (hl : Lies K W (some ⟨g, 0, none⟩) A) : W.ownsRow B K.e K.s (.slice (some ⟨g, 0, none⟩) n c) n (K.flat A) := by
  have hfl : (K.flat A).length = n * K.s := by rw [flat_len hK, hA]
  refine ⟨hfl, .inr ⟨g, c, cur, rfl, hB, hh, hc, hm, hs, ?_⟩⟩
  have hle : n * K.s ≤ c * K.s := Nat.mul_le_mul_right _ hc
  apply List.ext_getElem?
  intro k
  by_cases hk : k < n * K.s
  · have hk2 : k < (K.flat A).length := by omega
    have h1 := news_of hK hl k _ (List.getElem?_eq_getElem hk2)
    rw [List.getElem?_take_of_lt hk, List.getElem?_eq_getElem hk2]
    have e0 : (⟨g, 0, none⟩ : Addr).add k = ⟨g, 0 + k, none⟩ := by
      unfold Addr.add
      split
      · subst_vars; rfl
      · rfl
    have h2 : W.cell? ⟨g, 0 + k, none⟩ = some (K.flat A)[k] := by rw [← e0]; exact h1
    unfold World.cell? at h2
    simp only [hh, Nat.zero_add] at h2
    simpa using h2
  · rw [List.getElem?_eq_none (by rw [List.length_take]; omega), List.getElem?_eq_none (by omega)]
theorem own_sortK (hK : KdOK K) [Inhabited α] {W : World} {B g c n m k off : Nat} {L A : List α} {dk : Array α} {os : Array Obj} (h : W.ownsRow B K.e K.s (.slice (some ⟨g, 0, none⟩) n c) n (K.flat L)) (hA : A.length = n) (hl : Lies K (sortWorldK K.enc k W g off m dk os) (some ⟨g, 0, none⟩) A) : (sortWorldK K.enc k W g off m dk os).ownsRow B K.e K.s (.slice (some ⟨g, 0, none⟩) n c) n (K.flat A) := by
  rcases h.2 with ⟨e, h2⟩ | ⟨g', cap, cur, e, hB, hh, hc, hm, hcs, ht⟩
  · cases e
  · cases e
    have hlt : g < W.heap.size := (Array.getElem?_eq_some_iff.1 hh).1
    refine row_of hK (cur := putCells id off (flatK K.enc k dk) cur) hA hB ?_ hc hm ?_ hl
    · unfold sortWorldK grow putRowK putRow mapBlock Sort.ahead
      show (W.heap.modify g _ ++ os)[g]? = _
      rw [Array.getElem?_append_left (by simp; omega), Array.getElem?_modify, if_pos rfl, hh]
      rfl
    · unfold putCells
      simpa using hcs
end
set_option maxHeartbeats 1000000 in
/-- SortFunc: the row, by its names -/
theorem sort_own {W : World} {B g c n : Nat} {L : List Ac} (hn : L.length = n) (hn1 : n < 4611686018427387904) (hB : B ≤ W.heap.size) (h : W.ownsRow B kA.e kA.s (.slice (some ⟨g, 0, none⟩) n c) n (kA.flat L)) :
    Calls Tryz.prog 92 #[.slice (some ⟨g, 0, none⟩) n c, .func (.func 93) #[] #[]] W fun e w' => e = .returned (.tuple #[]) ∧ ∃ A : List Ac, A.Perm L ∧ A.Pairwise (fun a b => ¬ b.nm < a.nm) ∧ w'.ownsRow B kA.e kA.s (.slice (some ⟨g, 0, none⟩) n c) n (kA.flat A) ∧ Below B W w' ∧ KeepsG gdT W w' := by
  have eg : ∀ args w, (callFunc 93 args).run Tryz.prog w = .ok (.enter 93 args) w := enters_of Tryz.func93 (by kernel_rfl) rfl
  have hg := row_block h (g := g) rfl
  have hcon := AnyQ.slices_SortFunc Tryz.sortT 4 isAgg41' sizeOf41' kA.enc (fun _ => rfl) kA_ok.one (fun x y => cmpS x.nm y.nm) swoA 93 #[] g 0 c L.toArray W eg (lays26 g 0 _ W) (holds_own kA_ok hn h) hg.2.1 (by simpa [hn] using hn1)
  change Calls Tryz.prog 92 _ _ _ at hcon
  rw [show L.toArray.size = n by simpa using hn] at hcon
  refine hcon.mono ?_
  rintro e w' ⟨rfl, d', m, os, hp, hs, rfl⟩
  have hd : d'.size = n := by rw [hp.1]; simpa using hn
  refine ⟨rfl, d'.toList, ?_, ?_, ?_, ?_, ?_⟩
  · have h3 := hp.2.2
    have e1 : d'.extract 0 n = d' := by rw [← hd]; simp
    have e2 : L.toArray.extract 0 n = L.toArray := by rw [← hn]; simp
    rw [e1, e2] at h3
    simpa using h3
  · rw [List.pairwise_iff_getElem]
    intro i j hi hj hij
    have := hs i j (Nat.zero_le _) hij (by rw [← hd]; simpa using hj)
    rw [ltA] at this
    have hi' : i < d'.size := by simpa using hi
    have hj' : j < d'.size := by simpa using hj
    have h5 := of_decide_eq_false this
    have e1 : d'[i]! = d'.toList[i] := by simp [hi']
    have e2 : d'[j]! = d'.toList[j] := by simp [hj']
    rw [e1, e2] at h5
    exact h5
  · refine own_sortK kA_ok h (by simpa using hd) (lies_holds kA_ok (lt_sortWorldK _ _ _ _ _ _ _ _ hg.2.1) ?_)
    exact holdsK_sortWorldK _ _ _ _ _ _ L.toArray d' os hg.2.1 (holds_own kA_ok hn h) (by rw [hd]; simpa using hn.symm)
  · exact below_sortK _ _ _ _ _ _ _ _ _ hg.1 hB
  · have h6 := below_sortK kA.enc 4 W g 0 m g d' os (Nat.le_refl _) (Nat.le_of_lt hg.2.1)
    refine ⟨h6.size, fun k o hk ho => ?_⟩
    by_cases e : k = g
    · subst e
      exfalso
      rcases h.2 with ⟨e, _⟩ | ⟨g', cap, cur, e, _, hh, _⟩
      · cases e
      · cases e
        rw [hh] at hk
        injection hk with hk
        subst hk
        revert ho
        simp [gdT, kA]
    · have hkl := (Array.getElem?_eq_some_iff.1 hk).1
      rw [← hk]
      unfold sortWorldK grow putRowK putRow mapBlock Sort.ahead
      show (W.heap.modify g _ ++ os)[k]? = W.heap[k]?
      rw [Array.getElem?_append_left (by simp; omega), Array.getElem?_modify, if_neg (fun e2 => e e2.symm)]
/-- what Accounts answers -/
def AccOwn (W : World) (L : List Ac) (e : Ending) (w' : World) : Prop := ∃ v, e = .returned v ∧ w'.ownsRow W.heap.size 65 4 v L.length (kA.flat L) ∧ Below W.heap.size W w'
set_option maxRecDepth 100000 in
set_option maxHeartbeats 8000000 in
theorem accounts_own {W : World} {d : Nat} {S : Nat → Prop} {L : List Ac} {g : Gh} (h : ChAt W d S L g) (hG : Good L) (hS : ∀ k, S k → k < W.heap.size) : Calls Tryz.prog 25 #[ptr d] W fun e w' => AccOwn W L e w' := by
  have HC := hide h; have HG := hide hG; have HS := hide hS
  have hlen := desc_len hG
  have HL := hide hlen
  have h100 := hG.len
  clear h hG hlen hS
  refine (callsIn_wide (n := 4)).1 ?_
  refine callsIn_of_wp_marks Tryz.func25 rfl trivial ?_ rfl
  simp only [Tryz.ntmps25, List.size_toArray, List.length_cons, List.length_nil, Nat.reduceAdd, Nat.reduceSub, Array.replicate_succ, Array.replicate_zero, List.push_toArray, List.append_toArray, List.nil_append, List.cons_append]
  gi_wp2_with fail
  refine ⟨trivial, (callsIn_wide.2 (below_any d _)).mono ?_⟩
  rintro e w1 ⟨rfl, hw⟩
  have b2 : Boxed w1 (W.heap.size + 1) 98 (ptr d) := by
    have h := Boxed.new (W.alloc (.cells #[.slice none 0 0] 22)) 98 (ptr d)
    rw [World.size_alloc] at h
    rw [hw]
    exact h
  have hB : Below W.heap.size W w1 := by rw [hw]; exact ((Below.refl _ W).alloc (Nat.le_refl _) _).alloc (by simp) _
  have hz1 : w1.heap.size = W.heap.size + 1 + 1 := by rw [hw]; simp
  have g1 : Gt W L [] (.slice none 0 0) w1 := ⟨by rw [hw]; exact (Boxed.new W 22 (.slice none 0 0)).alloc _, ⟨rfl, .inl ⟨rfl, rfl⟩⟩, hB, by omega⟩
  have hC1 : ChAt w1 d S L g := (unhide HC).keepG (KeepsG.below hB)
  have hseq := hide (below_gives (unhide HG) 6 [] (.inl rfl) (by simp [dep]) w1 (W.heap.size + 1) hC1 (by rw [hC1.top]; exact b2))
  have G1 := hide g1
  rw [World.size_alloc]
  clear hw b2 hB hC1 g1
  gi_wp2_with fail
  refine range_st (α := Nm) gdT gdT_lpy (by omega) (gf := 166) (lb := #[ptr (W.heap.size + 1)]) rfl enters39 (unhide hseq) (fun _ => rfl)
    (fun pre X => ∃ v, Gt W L pre v X) (fun _ _ => False)
    (Gt.own (by omega)) (fun _ _ _ _ hs _ _ => hs.elim) ⟨_, unhide G1⟩
    (fun x => { tmps := #[ptr d, undef, .slice none 0 0, ptr W.heap.size, ptr (g.nd x), ptr d, ptr d, ptr d, .func (.func 166) #[] #[ptr (W.heap.size + 1)], ptr (g.nd x), undef, undef, undef, undef, undef, undef, undef, undef, undef, undef], defers := [] }) ?assign ?body ?done ?stop
  case assign =>
    intro l x W' K hK
    unfold encN
    gi_wp2
    exact hK
  case body =>
    rintro l pre z X ⟨v, hgt⟩ hpx
    have hz : z ∈ desc L 6 [] := hpx.subset (by simp)
    have hle := hpx.length_le
    rw [unhide HL] at hle
    simp at hle
    obtain ⟨a, haL, haz⟩ := (mem_top (unhide HG) z).1 hz
    subst haz
    have hnode : X.heap[g.nd a.nm]? = some (.cells (cellsA a (ksl g L a.nm)) 68) := (hgt.bel.block _ (unhide HS _ ((unhide HC).sn a haL))).trans ((unhide HC).node a haL)
    have hac := acOf_is (unhide HG) haL
    obtain ⟨nz, hnz⟩ : ∃ nz, nz = g.nd a.nm := ⟨_, rfl⟩
    rw [← hnz] at hnode ⊢
    have k0 : X.drew.cell? ⟨nz, 0, none⟩ = some (.string (txN a.nm)) := cell_of (W := X.drew) hnode rfl
    have k1 : X.drew.cell? ⟨nz, 1, none⟩ = some (.int .i64 a.ty) := cell_of (W := X.drew) hnode rfl
    have k2 : X.drew.cell? ⟨nz, 2, none⟩ = some (.int .i64 a.dy) := cell_of (W := X.drew) hnode rfl
    have k3 : X.drew.cell? ⟨nz, 3, none⟩ = some (.bool a.cl) := cell_of (W := X.drew) hnode rfl
    have kb : X.drew.cell? ⟨W.heap.size, 0, none⟩ = some v := hgt.box.cell
    have kba : ∀ o, (X.drew.alloc o).cell? ⟨W.heap.size, 0, none⟩ = some v := fun o => (hgt.box.alloc o).cell
    have kbd : ∀ o, (X.alloc o).drew.cell? ⟨W.heap.size, 0, none⟩ = some v := fun o => (hgt.box.alloc o).cell
    have hmx : Tryz.prog.follows .mixedOrders = true := by kernel_rfl
    have hrd : (X.drew.alloc (.cells #[.string (txN a.nm), .int .i64 a.ty, .int .i64 a.dy, .bool a.cl] 65)).ownsRow (W.heap.size + 2) kA.e kA.s v pre.length (kA.flat (pre.map (acOf L))) := by
      refine row_keep (W := X) hgt.row (fun q hq => ?_)
      exact Below.heap_alloc X.drew _ _ (row_block hgt.row hq).2.1
    obtain ⟨p', c', w2, hrun, ho2, hb2, hk2, _⟩ := run_app kA_ok 22 hrd (by have := hgt.siz; show W.heap.size + 2 ≤ (X.drew.alloc _).heap.size; rw [World.size_alloc]; show _ ≤ X.heap.size + 1; omega) (some ⟨X.drew.heap.size, 0, none⟩) 1 (fun h => by cases h) (one_lies X.drew a 65 _ rfl) (by simp; omega)
    obtain ⟨p', c', w2, hrun, ho2, hb2, hk2, _⟩ : ∃ p' c' w2, (Builtin.append_ #[22, 22] 22 #[v, .slice (some ⟨X.drew.heap.size, 0, none⟩) 1 1]).run Tryz.prog (X.drew.alloc (.cells #[.string (txN a.nm), .int .i64 a.ty, .int .i64 a.dy, .bool a.cl] 65)) = .ok (.slice p' (pre.length + 1) c') w2 ∧ w2.ownsRow (W.heap.size + 2) kA.e kA.s (.slice p' (pre.length + 1) c') (pre.length + 1) (kA.flat (pre.map (acOf L) ++ [a])) ∧ Below (W.heap.size + 2) (X.drew.alloc (.cells #[.string (txN a.nm), .int .i64 a.ty, .int .i64 a.dy, .bool a.cl] 65)) w2 ∧ (∀ k, k < (X.drew.alloc (.cells #[.string (txN a.nm), .int .i64 a.ty, .int .i64 a.dy, .bool a.cl] 65)).heap.size → v.ownBlock ≠ some k → w2.heap[k]? = (X.drew.alloc (.cells #[.string (txN a.nm), .int .i64 a.ty, .int .i64 a.dy, .bool a.cl] 65)).heap[k]?) ∧ True := ⟨p', c', w2, hrun, ho2, hb2, hk2, trivial⟩
    have hd : Gt W L pre v X.drew := ⟨hgt.box, hgt.row, ⟨hgt.bel.os, hgt.bel.tape, hgt.bel.output, hgt.bel.size, hgt.bel.block⟩, hgt.siz⟩
    have hfin := gt_more hd hac ho2 hb2 hk2
    have kc := hfin.2.2.1
    have kf := hfin.2.2.2
    have HFIN : Hid (Gt W L (pre ++ [a.nm]) (.slice p' (pre.length + 1) c') (w2.setCell ⟨W.heap.size, 0, none⟩ (.slice p' (pre.length + 1) c')) ∧ KeepsG gdT X (w2.setCell ⟨W.heap.size, 0, none⟩ (.slice p' (pre.length + 1) c')) ∧ True) := ⟨hfin.1, ⟨hfin.2.1.size, hfin.2.1.same⟩, trivial⟩
    have HRUN := hide hrun
    clear hfin hd hrun ho2 hb2 hk2 hrd hac hnz hnode hgt hz hpx haL hle
    gi_wp2
    refine wpIn_region_any (by assumption) ?_
    change wpAnyIn _ _ _ _ _ _ _ _ _ (World.drew _)
    refine wpAnyIn_ready (rs := [0, 1]) (by kernel_rfl) (by simp) ?_
    refine AllReadyIn.cons rfl (fun K hK => ?_) (AllReadyIn.cons rfl (fun K hK => ?_) AllReadyIn.nil)
    · go_simp
      refine hK _ _ ?_; clear hK K
      refine wpAnyIn_ready (rs := [1]) (by kernel_rfl) (by simp) ?_
      refine AllReadyIn.cons rfl (fun K hK => ?_) AllReadyIn.nil
      go_simp
      refine hK _ _ ?_; clear hK K
      refine wpAnyIn_ready (rs := [2]) (by kernel_rfl) (by simp) ?_
      refine AllReadyIn.cons rfl (fun K hK => ?_) AllReadyIn.nil
      go_simp
      refine hK _ _ ?_; clear hK K
      refine wpAnyIn_ready (rs := [3]) (by kernel_rfl) (by simp) ?_
      refine AllReadyIn.cons rfl (fun K hK => ?_) AllReadyIn.nil
      go_simp
      refine hK _ _ ?_; clear hK K
      refine wpAnyIn_ready (rs := [4]) (by kernel_rfl) (by simp) ?_
      refine AllReadyIn.cons rfl (fun K hK => ?_) AllReadyIn.nil
      go_simp
      refine hK _ _ ?_; clear hK K
      refine wpAnyIn_ready (rs := [5]) (by kernel_rfl) (by simp) ?_
      refine AllReadyIn.cons rfl (fun K hK => ?_) AllReadyIn.nil
      go_simp
      refine hK _ _ ?_; clear hK K
      refine wpAnyIn_ready (rs := [6]) (by kernel_rfl) (by simp) ?_
      refine AllReadyIn.cons rfl (fun K hK => ?_) AllReadyIn.nil
      refine step_app_in rfl _ _ 22 rfl v (.slice (some ⟨X.drew.heap.size, 0, none⟩) 1 1) _ w2 rfl rfl (unhide HRUN) ?_
      refine hK _ _ ?_; clear hK K
      refine wpAnyIn_ready (rs := [7]) (by kernel_rfl) (by simp) ?_
      refine AllReadyIn.cons rfl (fun K hK => ?_) AllReadyIn.nil
      go_simp
      refine hK _ _ ?_; clear hK K
      refine wpAnyIn_done (by kernel_rfl) ?_ _
      gi_wp2
      exact .inl ⟨rfl, (unhide HFIN).2.1, _, (unhide HFIN).1⟩
    · go_simp
      refine hK _ _ ?_; clear hK K
      refine wpAnyIn_ready (rs := [0, 2]) (by kernel_rfl) (by simp) ?_
      refine AllReadyIn.cons rfl (fun K hK => ?_) (AllReadyIn.cons rfl (fun K hK => ?_) AllReadyIn.nil)
      · go_simp
        refine hK _ _ ?_; clear hK K
        refine wpAnyIn_ready (rs := [2]) (by kernel_rfl) (by simp) ?_
        refine AllReadyIn.cons rfl (fun K hK => ?_) AllReadyIn.nil
        go_simp
        refine hK _ _ ?_; clear hK K
        refine wpAnyIn_ready (rs := [3]) (by kernel_rfl) (by simp) ?_
        refine AllReadyIn.cons rfl (fun K hK => ?_) AllReadyIn.nil
        go_simp
        refine hK _ _ ?_; clear hK K
        refine wpAnyIn_ready (rs := [4]) (by kernel_rfl) (by simp) ?_
        refine AllReadyIn.cons rfl (fun K hK => ?_) AllReadyIn.nil
        go_simp
        refine hK _ _ ?_; clear hK K
        refine wpAnyIn_ready (rs := [5]) (by kernel_rfl) (by simp) ?_
        refine AllReadyIn.cons rfl (fun K hK => ?_) AllReadyIn.nil
        go_simp
        refine hK _ _ ?_; clear hK K
        refine wpAnyIn_ready (rs := [6]) (by kernel_rfl) (by simp) ?_
        refine AllReadyIn.cons rfl (fun K hK => ?_) AllReadyIn.nil
        refine step_app_in rfl _ _ 22 rfl v (.slice (some ⟨X.drew.heap.size, 0, none⟩) 1 1) _ w2 rfl rfl (unhide HRUN) ?_
        refine hK _ _ ?_; clear hK K
        refine wpAnyIn_ready (rs := [7]) (by kernel_rfl) (by simp) ?_
        refine AllReadyIn.cons rfl (fun K hK => ?_) AllReadyIn.nil
        go_simp
        refine hK _ _ ?_; clear hK K
        refine wpAnyIn_done (by kernel_rfl) ?_ _
        gi_wp2
        exact .inl ⟨rfl, (unhide HFIN).2.1, _, (unhide HFIN).1⟩
      · go_simp
        refine hK _ _ ?_; clear hK K
        refine wpAnyIn_ready (rs := [0, 3]) (by kernel_rfl) (by simp) ?_
        refine AllReadyIn.cons rfl (fun K hK => ?_) (AllReadyIn.cons rfl (fun K hK => ?_) AllReadyIn.nil)
        · go_simp
          refine hK _ _ ?_; clear hK K
          refine wpAnyIn_ready (rs := [3]) (by kernel_rfl) (by simp) ?_
          refine AllReadyIn.cons rfl (fun K hK => ?_) AllReadyIn.nil
          go_simp
          refine hK _ _ ?_; clear hK K
          refine wpAnyIn_ready (rs := [4]) (by kernel_rfl) (by simp) ?_
          refine AllReadyIn.cons rfl (fun K hK => ?_) AllReadyIn.nil
          go_simp
          refine hK _ _ ?_; clear hK K
          refine wpAnyIn_ready (rs := [5]) (by kernel_rfl) (by simp) ?_
          refine AllReadyIn.cons rfl (fun K hK => ?_) AllReadyIn.nil
          go_simp
          refine hK _ _ ?_; clear hK K
          refine wpAnyIn_ready (rs := [6]) (by kernel_rfl) (by simp) ?_
          refine AllReadyIn.cons rfl (fun K hK => ?_) AllReadyIn.nil
          refine step_app_in rfl _ _ 22 rfl v (.slice (some ⟨X.drew.heap.size, 0, none⟩) 1 1) _ w2 rfl rfl (unhide HRUN) ?_
          refine hK _ _ ?_; clear hK K
          refine wpAnyIn_ready (rs := [7]) (by kernel_rfl) (by simp) ?_
          refine AllReadyIn.cons rfl (fun K hK => ?_) AllReadyIn.nil
          go_simp
          refine hK _ _ ?_; clear hK K
          refine wpAnyIn_done (by kernel_rfl) ?_ _
          gi_wp2
          exact .inl ⟨rfl, (unhide HFIN).2.1, _, (unhide HFIN).1⟩
        · go_simp
          refine hK _ _ ?_; clear hK K
          refine wpAnyIn_ready (rs := [0, 4]) (by kernel_rfl) (by simp) ?_
          refine AllReadyIn.cons rfl (fun K hK => ?_) (AllReadyIn.cons rfl (fun K hK => ?_) AllReadyIn.nil)
          · go_simp
            refine hK _ _ ?_; clear hK K
            refine wpAnyIn_ready (rs := [4]) (by kernel_rfl) (by simp) ?_
            refine AllReadyIn.cons rfl (fun K hK => ?_) AllReadyIn.nil
            go_simp
            refine hK _ _ ?_; clear hK K
            refine wpAnyIn_ready (rs := [5]) (by kernel_rfl) (by simp) ?_
            refine AllReadyIn.cons rfl (fun K hK => ?_) AllReadyIn.nil
            go_simp
            refine hK _ _ ?_; clear hK K
            refine wpAnyIn_ready (rs := [6]) (by kernel_rfl) (by simp) ?_
            refine AllReadyIn.cons rfl (fun K hK => ?_) AllReadyIn.nil
            refine step_app_in rfl _ _ 22 rfl v (.slice (some ⟨X.drew.heap.size, 0, none⟩) 1 1) _ w2 rfl rfl (unhide HRUN) ?_
            refine hK _ _ ?_; clear hK K
            refine wpAnyIn_ready (rs := [7]) (by kernel_rfl) (by simp) ?_
            refine AllReadyIn.cons rfl (fun K hK => ?_) AllReadyIn.nil
            go_simp
            refine hK _ _ ?_; clear hK K
            refine wpAnyIn_done (by kernel_rfl) ?_ _
            gi_wp2
            exact .inl ⟨rfl, (unhide HFIN).2.1, _, (unhide HFIN).1⟩
          · go_simp
            refine hK _ _ ?_; clear hK K
            refine wpAnyIn_ready (rs := [0, 5]) (by kernel_rfl) (by simp) ?_
            refine AllReadyIn.cons rfl (fun K hK => ?_) (AllReadyIn.cons rfl (fun K hK => ?_) AllReadyIn.nil)
            · go_simp
              refine hK _ _ ?_; clear hK K
              refine wpAnyIn_ready (rs := [5]) (by kernel_rfl) (by simp) ?_
              refine AllReadyIn.cons rfl (fun K hK => ?_) AllReadyIn.nil
              go_simp
              refine hK _ _ ?_; clear hK K
              refine wpAnyIn_ready (rs := [6]) (by kernel_rfl) (by simp) ?_
              refine AllReadyIn.cons rfl (fun K hK => ?_) AllReadyIn.nil
              refine step_app_in rfl _ _ 22 rfl v (.slice (some ⟨X.drew.heap.size, 0, none⟩) 1 1) _ w2 rfl rfl (unhide HRUN) ?_
              refine hK _ _ ?_; clear hK K
              refine wpAnyIn_ready (rs := [7]) (by kernel_rfl) (by simp) ?_
              refine AllReadyIn.cons rfl (fun K hK => ?_) AllReadyIn.nil
              go_simp
              refine hK _ _ ?_; clear hK K
              refine wpAnyIn_done (by kernel_rfl) ?_ _
              gi_wp2
              exact .inl ⟨rfl, (unhide HFIN).2.1, _, (unhide HFIN).1⟩
            · go_simp
              refine hK _ _ ?_; clear hK K
              refine wpAnyIn_ready (rs := [0]) (by kernel_rfl) (by simp) ?_
              refine AllReadyIn.cons rfl (fun K hK => ?_) AllReadyIn.nil
              go_simp
              refine hK _ _ ?_; clear hK K
              refine wpAnyIn_ready (rs := [6]) (by kernel_rfl) (by simp) ?_
              refine AllReadyIn.cons rfl (fun K hK => ?_) AllReadyIn.nil
              refine step_app_in rfl _ _ 22 rfl v (.slice (some ⟨X.drew.heap.size, 0, none⟩) 1 1) _ w2 rfl rfl (unhide HRUN) ?_
              refine hK _ _ ?_; clear hK K
              refine wpAnyIn_ready (rs := [7]) (by kernel_rfl) (by simp) ?_
              refine AllReadyIn.cons rfl (fun K hK => ?_) AllReadyIn.nil
              go_simp
              refine hK _ _ ?_; clear hK K
              refine wpAnyIn_done (by kernel_rfl) ?_ _
              gi_wp2
              exact .inl ⟨rfl, (unhide HFIN).2.1, _, (unhide HFIN).1⟩
  case done =>
    rintro D X hD ⟨v, hgt⟩ hK
    have hdl : (desc L 6 []).length = L.length := unhide HL
    obtain ⟨R, hR⟩ : ∃ R, R = (desc L 6 []).map (acOf L) := ⟨_, rfl⟩
    have hRp : R.Perm L := by
      rw [hR]
      have h1 := (desc_perm (unhide HG)).map (acOf L)
      rw [List.map_map] at h1
      have e1 : L.map (acOf L ∘ fun a => a.nm) = L := by
        have : L.map (acOf L ∘ fun a => a.nm) = L.map id := List.map_congr_left (fun a ha => acOf_is (unhide HG) ha)
        rw [this, List.map_id]
      rw [e1] at h1
      exact h1
    have hrow := hgt.row
    rw [hdl, ← hR] at hrow
    have cb := hgt.box.cell
    have HGT := hide hgt; have HK := hide hK; have HRP := hide hRp
    have HB : Hid (Below W.heap.size W X) := hgt.bel
    have hsz := hgt.siz
    have HSZ := hide hsz
    have hD2 : Hid (W.heap.size + 2 ≤ D) := by show _ ≤ D; omega
    obtain ⟨p, c, ev, hp0, hp1⟩ := row_slice hrow
    subst ev
    clear hgt hK hRp hsz
    cases p with
    | none =>
      obtain ⟨hn0, hc0⟩ := hp0 rfl
      have hL0 : L = [] := List.length_eq_zero_iff.1 hn0
      subst hL0
      subst hc0
      have dS := hide (sort_nil none 0 (.func (.func 93) #[] #[]) X)
      clear hrow hp0 hp1
      rw [show ([] : List Ac).length = 0 from rfl] at cb
      gi_wp2_with fail
      refine ⟨trivial, (callsIn_wide.2 (unhide dS)).mono ?_⟩
      rintro e X2 ⟨rfl, hX2⟩
      subst hX2
      gi_wp2
      refine ⟨by simp, .inl ⟨_, _, rfl, run_takeDeferred (unhide HK), ?_⟩⟩
      exact ⟨_, results_tmp rfl _ _ _, _, rfl, World.ownsRow_nil _ _ _ _, (unhide HB).trans (belowK_b (w := W) (Nat.le_refl _) _ D _ _ (by have := unhide hD2; omega) (unhide HK) rfl rfl)⟩
    | some a =>
      obtain ⟨q, hq⟩ : ∃ q, a = ⟨q, 0, none⟩ := by
        obtain ⟨h1, h2⟩ := hp1 a rfl
        obtain ⟨b, o, s⟩ := a
        simp at h1 h2
        subst h1
        obtain ⟨rfl⟩ := h2
        exact ⟨b, rfl⟩
      subst hq
      have hq2 := row_block hrow (g := q) rfl
      have dS := hide (sort_own (c := c) (show R.length = L.length by rw [(unhide HRP).length_eq]) (by omega) (by have := unhide HSZ; exact this) hrow)
      have HQ := hide hq2
      clear hrow hp0 hp1 hq2
      gi_wp2_with fail
      refine ⟨trivial, (callsIn_wide.2 (unhide dS)).mono ?_⟩
      rintro e X2 ⟨rfl, A, hA1, hA2, hA3, hA4, hA5⟩
      have hAL : A = L := sorted_is (unhide HG) (hA1.trans (unhide HRP)) hA2
      subst hAL
      have cb2 : X2.cell? ⟨W.heap.size, 0, none⟩ = some (.slice (some ⟨q, 0, none⟩) A.length c) := (hA4.cell (p := ⟨W.heap.size, 0, none⟩) (by show W.heap.size < W.heap.size + 2; omega)).trans cb
      have hK2 := hA5.same _ _ (unhide HK) rfl
      have H3 := hide hA3; have H4 := hide hA4; have HK2 := hide hK2
      clear hA1 hA2 hA3 hA4 hA5 hK2
      gi_wp2
      have hDq : D ≠ q := fun e => by
        obtain ⟨_, _, o, ho, hc⟩ := unhide HQ
        rw [← e, unhide HK] at ho
        injection ho with ho
        subst ho
        cases hc
      refine ⟨by simp, .inl ⟨_, _, rfl, run_takeDeferred (unhide HK2), ?_⟩⟩
      exact ⟨_, results_tmp rfl _ _ _, _, rfl, row_le (row_keep (unhide H3) (fun k hk => by
        have e2 : q = k := Option.some.inj hk
        subst e2
        exact World.putObj_heap_other (fun e => hDq e.symm))) (by omega), ((unhide HB).trans ((unhide H4).mono (by omega))).trans (belowK_b (w := W) (Nat.le_refl _) _ D _ _ (by have := unhide hD2; omega) (unhide HK2) rfl rfl)⟩
  case stop => exact fun D pre W' _ _ h _ => h.elim
end Go.Proofs.YtdeibifjiefapaaGreatDoor
/- sameTexts (26) of equal lists. -/
namespace Go.Proofs.YtdeibifjiefapaaGreatDoor
open Go Go.Shelf Go.ChangeShapes Go.WideShapes Go.ChangeAt Go.RowKit Go.Maps Go.Sort
set_option linter.unusedVariables false
theorem lies_txt {W : World} {p : Option Addr} {K : List Nm} (h : Lies kT W p K) {k : Nat} (hk : k < K.length) : ∃ b off, p = some ⟨b, off, none⟩ ∧ b < W.heap.size ∧ W.cell? ⟨b, off + k, none⟩ = some (.string (txN K[k])) := by
  obtain ⟨b, off, hp, hlt, hr⟩ := h.2 k hk
  have h0 := hr 0 (.string (txN K[k])) rfl
  have e : off + k * kT.s + 0 = off + k := by show off + k * 1 + 0 = _; omega
  rw [e] at h0
  exact ⟨b, off, hp, hlt, h0⟩
set_option maxRecDepth 100000 in
set_option maxHeartbeats 4000000 in
theorem samet_any {W : World} {p1 p2 : Option Addr} {n c1 c2 : Nat} {K : List Nm} (hn : K.length = n) (hn1 : n ≤ 1000000) (h1 : Lies kT W p1 K) (h2 : Lies kT W p2 K) :
    Calls Tryz.prog 26 #[.slice p1 n c1, .slice p2 n c2] W fun e w' => e = .returned (.bool true) ∧ Below W.heap.size W w' := by
  have H1 := hide h1; have H2 := hide h2; have HN := hide hn
  clear h1 h2 hn
  go_enter Tryz.func26, Tryz.ntmps26
  go_wp2_with fail
  go_loopw [5] (fun v3 wr => ∃ i : Nat, i ≤ n ∧ v3 = .int .i64 i ∧ Hid (Below W.heap.size W wr)) (fun v3 _ => n - (intOf' v3).toNat)
  case atStart => exact ⟨0, Nat.zero_le _, rfl, Below.refl _ _⟩
  case round =>
    obtain ⟨i, hi, rfl, hbw⟩ := hrel
    by_cases hlt : i < n
    · have hiK : i < K.length := by rw [unhide HN]; exact hlt
      obtain ⟨b1, o1, e1, k1, g1⟩ := lies_txt (unhide H1) hiK
      obtain ⟨b2, o2, e2, k2, g2⟩ := lies_txt (unhide H2) hiK
      subst e1 e2
      have c1 := ((unhide hbw).cell (p := ⟨b1, o1 + i, none⟩) k1).trans g1
      have c2 := ((unhide hbw).cell (p := ⟨b2, o2 + i, none⟩) k2).trans g2
      have hwi : IntKind.i64.wrap ((i : Int) + 1) = (i : Int) + 1 := wrapI (by omega) (by omega)
      obtain ⟨T, hT⟩ : ∃ T, T = txN K[i] := ⟨_, rfl⟩
      rw [← hT] at c1 c2
      have HBD : Hid (∀ m : Nat, Below W.heap.size W (wr.drewN m)) := fun m => below_drewN (unhide hbw) m
      clear hT g1 g2
      go_wp2_with fail
      go_quiet (fail)
      go_wp2_with fail
      refine ⟨⟨i + 1, by omega, by simp, unhide HBD _⟩, ?_⟩
      show n - ((i : Int) + 1).toNat < n - ((i : Int)).toNat
      omega
    · have hin : i = n := by omega
      subst hin
      go_wp2_with fail
      go_ret
      exact ⟨rfl, unhide hbw⟩
end Go.Proofs.YtdeibifjiefapaaGreatDoor
