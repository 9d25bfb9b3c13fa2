import Derived.Test.YtdeibifjiefapaaGreatDoorW28
import Derived.Deep.DeepAppendWide
/- The keeper's pages: lists that are written and grown, as plain facts of worlds. -/
namespace Go.Proofs.YtdeibifjiefapaaGreatDoor.Kg
open Go Go.Shelf Go.ChangeShapes Go.WideShapes Go.ChangeAt Go.RowKit Go.Maps
set_option linter.unusedVariables false
variable {α : Type} {K : Kd α} {Z : Kk α}
/-- an append of one or more elements: into the list's own block, or into a new one: then nothing else is touched -/
theorem run_appK (hK : KdOK K) {W : World} {B : Nat} {v : Value} {L M : List α} {n : Nat} (ty : TypeId) (h : W.ownsRow B K.e K.s v n (K.flat L)) (hB : B ≤ W.heap.size) (ad : Addr) (cu : Nat) (hM : 0 < M.length) (hu : Lies K W (some ad) M) (hl : n + M.length ≤ 1099511627776) :
    ∃ g c w', (Builtin.append_ #[K.t, K.t] ty #[v, .slice (some ad) M.length cu]).run Tryz.prog W = .ok (.slice (some ⟨g, 0, none⟩) (n + M.length) c) w' ∧ w'.ownsRow B K.e K.s (.slice (some ⟨g, 0, none⟩) (n + M.length) c) (n + M.length) (K.flat (L ++ M)) ∧ ((v.ownBlock = some g ∧ W.grownBy w' (some g)) ∨ (g = W.heap.size ∧ W.grownBy w' none)) := by
  obtain ⟨i, z, hi, hz, hsize, hby, hzs⟩ := hK.info
  have hbb : (n + M.length) * K.by' ≤ 140737488355328 := by
    have : (n + M.length) * K.by' ≤ 1099511627776 * 128 := Nat.mul_le_mul hl hK.small
    omega
  obtain ⟨v', w', hr, ho, hg, hnil, hat⟩ := run_append_own_at (P := Tryz.prog) W B K.t ty K.e i z K.s K.by' hK.und hi hz hsize hby hzs hK.pos v n (K.flat L) h ad M.length cu (K.flat M) (flat_len hK M) (news_of hK hu) (flat_one hK M) (by unfold maxLen; omega) hbb hB
  rw [← flat_append] at ho
  obtain ⟨g, c, e⟩ := own_open ho (by omega)
  subst e
  refine ⟨g, c, w', hr, ho, ?_⟩
  rcases h.2 with ⟨e, h0⟩ | ⟨g0, cap0, cur, e, hb0, hcur, hnc, hcm, hcs, htake⟩
  · subst e
    rcases hat with h1 | h1
    · cases h1
    · exact .inr ⟨Option.some.inj h1, hg⟩
  · subst e
    by_cases hf : n + M.length ≤ cap0
    · obtain ⟨w2, hr3, _, hg3⟩ := run_append_fits (P := Tryz.prog) (w := W) B K.t ty K.e i K.s hK.und hi hsize g0 n cap0 (K.flat L) h ad M.length cu (K.flat M) (flat_len hK M) (news_of hK hu) (flat_one hK M) hf
      rw [hr] at hr3
      injection hr3 with e1 e2
      injection e1 with e1 _ _
      injection e1 with e1
      injection e1 with e1 _ _
      subst e1 e2
      exact .inl ⟨rfl, hg3⟩
    · have hr2 := run_append_grow (P := Tryz.prog) (w := W) K.t ty K.e i z hK.und hi hz ⟨g0, 0, none⟩ n cap0 (K.flat L) (by rw [hsize]; exact h.1) (h.cells (g := g0) rfl) ad M.length cu (K.flat M) (by rw [hsize]; exact flat_len hK M) (news_of hK hu) (by omega) (by omega) (by rw [hby]; exact growslice_fits (by omega) hbb)
      rw [hr] at hr2
      injection hr2 with e1 e2
      injection e1 with e1 _ _
      injection e1 with e1
      injection e1 with e1 _ _
      refine .inr ⟨e1, ?_⟩
      rw [e2]
      exact ⟨rfl, rfl, rfl, by simp, fun k hk _ => Below.heap_alloc _ _ _ hk⟩
/-- an append, however many came in -/
theorem run_appW (hK : KdOK K) {W : World} {B : Nat} {v : Value} {L M : List α} {n : Nat} (ty : TypeId) (h : W.ownsRow B K.e K.s v n (K.flat L)) (hB : B ≤ W.heap.size) (pu : Option Addr) (cu : Nat) (hcu : pu = none → cu = 0) (hu : Lies K W pu M) (hm : n + M.length ≤ maxLen) (hl : ((n + M.length) + (n + M.length) / 4 + 192) * K.by' ≤ 281474976710656) :
    ∃ p' c' w', (Builtin.append_ #[K.t, K.t] ty #[v, .slice pu M.length cu]).run Tryz.prog W = .ok (.slice p' (n + M.length) c') w' ∧ w'.ownsRow B K.e K.s (.slice p' (n + M.length) c') (n + M.length) (K.flat (L ++ M)) ∧ Below B W w' := by
  obtain ⟨i, z, hi, hz, hsize, hby, hzs⟩ := hK.info
  cases pu with
  | none =>
    have hR := hu.1 rfl
    subst hR
    rw [hcu rfl]
    have hr := run_append_owned_none (P := Tryz.prog) (w := W) B K.t ty K.e i K.s hK.und hi v n (K.flat L) h
    obtain ⟨p, c, e, _⟩ := row_slice h
    subst e
    exact ⟨p, c, W, hr, by rw [List.append_nil]; exact h, Below.refl _ _⟩
  | some ad =>
    obtain ⟨v', w', hr, ho, hg, hnil⟩ := run_append_own_wide (P := Tryz.prog) W B K.t ty K.e i z K.s K.by' hK.und hi hz hsize hby hzs hK.pos v n (K.flat L) h ad M.length cu (K.flat M) (flat_len hK M) (news_of hK hu) (flat_one hK M) hm hl hB
    have ho2 : w'.ownsRow B K.e K.s v' (n + M.length) (K.flat (L ++ M)) := by rw [flat_append]; exact ho
    obtain ⟨p, c, e, _⟩ := row_slice ho2
    subst e
    refine ⟨p, c, w', hr, ho2, ⟨hg.os, hg.tape, hg.output, hg.size, fun q hq => hg.block q (Nat.lt_of_lt_of_le hq hB) (fun e => ?_)⟩⟩
    have := (row_block h e.symm).1
    omega
theorem setCells_full (b : Nat) (t : TypeId) : ∀ (vs : List Value) (o : Nat) (w : World) (cur : Array Value), w.heap[b]? = some (.cells cur t (0, 0)) → ∃ cur', (w.setCells b o vs).heap[b]? = some (.cells cur' t (0, 0)) ∧ cur'.size = cur.size ∧ ∀ j, j < cur.size → cur'[j]? = if o ≤ j ∧ j < o + vs.length then vs[j - o]? else cur[j]?
  | [], o, w, cur, h => ⟨cur, h, rfl, fun j _ => by rw [if_neg (by simp)]⟩
  | v :: r, o, w, cur, h => by
    have h1 : (w.setCell ⟨b, o, none⟩ v).heap[b]? = some (.cells (cur.setIfInBounds o v) t (0, 0)) := by simp [World.setCell, Array.getElem?_modify, h]
    obtain ⟨cur', k1, k2, k3⟩ := setCells_full b t r (o + 1) _ _ h1
    refine ⟨cur', k1, by rw [k2]; simp, fun j hj => ?_⟩
    rw [k3 j (by simpa using hj)]
    by_cases e : j = o
    · subst e
      rw [if_neg (by omega), if_pos (by simp)]
      simp [hj]
    · have e2 : (cur.setIfInBounds o v)[j]? = cur[j]? := by rw [Array.getElem?_setIfInBounds]; rw [if_neg (fun h => e h.symm)]
      rw [e2]
      by_cases hc : o + 1 ≤ j ∧ j < o + 1 + r.length
      · rw [if_pos hc, if_pos (by simp; omega)]
        have : j - o = (j - (o + 1)) + 1 := by omega
        rw [this, List.getElem?_cons_succ]
      · rw [if_neg hc, if_neg (by simp; omega)]
theorem setCells_far (b : Nat) {k : Nat} (hk : k ≠ b) : ∀ (vs : List Value) (o : Nat) (w : World), (w.setCells b o vs).heap[k]? = w.heap[k]?
  | [], _, _ => rfl
  | v :: r, o, w => (setCells_far b hk r (o + 1) _).trans (Below.heap_setCell _ _ _ _ hk)
theorem setCells_size (b : Nat) : ∀ (vs : List Value) (o : Nat) (w : World), (w.setCells b o vs).heap.size = w.heap.size
  | [], _, _ => rfl
  | v :: r, o, w => (setCells_size b r (o + 1) _).trans (by simp)
theorem setCells_rest (b : Nat) : ∀ (vs : List Value) (o : Nat) (w : World), (w.setCells b o vs).os = w.os ∧ (w.setCells b o vs).tape = w.tape ∧ (w.setCells b o vs).output = w.output
  | [], _, _ => ⟨rfl, rfl, rfl⟩
  | v :: r, o, w => setCells_rest b r (o + 1) _
theorem grown_cells (w : World) (b o : Nat) (vs : List Value) : w.grownBy (w.setCells b o vs) (some b) :=
  ⟨(setCells_rest b vs o w).1, (setCells_rest b vs o w).2.1, (setCells_rest b vs o w).2.2, by rw [setCells_size]; exact Nat.le_refl _, fun i _ hne => setCells_far b (fun e => hne (by rw [e])) vs o w⟩
/-- an element of a list of one's own is written over -/
theorem own_set (hK : KdOK K) {W : World} {B g c n k : Nat} {L : List α} (h : W.ownsRow B K.e K.s (.slice (some ⟨g, 0, none⟩) n c) n (K.flat L)) (hn : L.length = n) (hk : k < n) (x : α) : (W.setCells g (k * K.s) (K.enc x)).ownsRow B K.e K.s (.slice (some ⟨g, 0, none⟩) n c) n (K.flat (L.set k x)) := by
  rcases h.2 with ⟨e, _⟩ | ⟨g', cap, cur, e, hB, hh, hc, hm, hcs, ht⟩
  · cases e
  · injection e with e _ e2
    injection e with e
    injection e with e _ _
    subst e e2
    obtain ⟨cur', k1, k2, k3⟩ := setCells_full g K.e (K.enc x) (k * K.s) W cur hh
    refine ⟨by rw [flat_len hK, List.length_set, hn], .inr ⟨g, c, cur', rfl, hB, k1, hc, hm, by rw [k2, hcs], ?_⟩⟩
    have hsz : n * K.s ≤ cur.size := by rw [hcs]; exact Nat.mul_le_mul_right _ hc
    apply List.ext_getElem?
    intro j
    by_cases hj : j < n * K.s
    · have hq : j / K.s < n := Nat.div_lt_of_lt_mul (by rw [Nat.mul_comm]; exact hj)
      have hr : j % K.s < K.s := Nat.mod_lt _ hK.pos
      have ej : j / K.s * K.s + j % K.s = j := Nat.div_add_mod' j K.s
      obtain ⟨q, eq⟩ : ∃ q, q = j / K.s := ⟨_, rfl⟩
      obtain ⟨r, er⟩ : ∃ r, r = j % K.s := ⟨_, rfl⟩
      rw [← eq] at hq ej
      rw [← er] at hr ej
      have hqL : q < (L.set k x).length := by rw [List.length_set, hn]; exact hq
      have f1 := flat_get hK (L.set k x) q hqL r hr
      rw [ej] at f1
      rw [List.getElem?_take_of_lt hj, f1]
      have f2 : cur'.toList[j]? = cur'[j]? := by simp
      rw [f2, k3 j (by omega), hK.len]
      by_cases e : q = k
      · subst e
        rw [if_pos (by omega), List.getElem_set_self]
        congr 1
        omega
      · rw [List.getElem_set_ne (fun h => e h.symm)]
        have hno : ¬ (k * K.s ≤ j ∧ j < k * K.s + K.s) := by
          rcases Nat.lt_or_ge q k with h1 | h1
          · have := Nat.mul_le_mul_right K.s (show q + 1 ≤ k from h1)
            rw [Nat.add_mul, Nat.one_mul] at this
            omega
          · have := Nat.mul_le_mul_right K.s (show k + 1 ≤ q by omega)
            rw [Nat.add_mul, Nat.one_mul] at this
            omega
        rw [if_neg hno]
        have f3 := flat_get hK L q (by omega) r hr
        rw [ej, ← ht, List.getElem?_take_of_lt hj] at f3
        rw [← f3]
        simp
    · rw [List.getElem?_eq_none (by simp; omega), List.getElem?_eq_none (by rw [flat_len hK, List.length_set, hn]; omega)]
/-- the cells of an element are there, to be written -/
theorem own_there (hK : KdOK K) {W : World} {B g c n k : Nat} {xs : List Value} (h : W.ownsRow B K.e K.s (.slice (some ⟨g, 0, none⟩) n c) n xs) (hk : k < n) : W.there g (k * K.s) K.s := by
  rcases h.2 with ⟨e, _⟩ | ⟨g', cap, cur, e, hB, hh, hc, hm, hcs, ht⟩
  · cases e
  · injection e with e _ e2
    injection e with e
    injection e with e _ _
    subst e e2
    intro j hj
    have h1 := Nat.mul_le_mul_right K.s (show k + 1 ≤ c by omega)
    rw [Nat.add_mul, Nat.one_mul] at h1
    constructor
    · unfold World.cell?
      simp only [hh]
      simp
      omega
    · unfold World.frozen?
      simp only [hh]
      simp
/-- a page's list while it is filled -/
structure FillAt (Z : Kk α) (w wr : World) (L : Value) (n id : Nat) (X : List α) (k : Nat) : Prop where
  gr : w.grownBy wr L.ownBlock
  own : wr.ownsRow 0 Z.K.e Z.K.s L n (Z.K.flat (mks Z id k ++ X.drop k))
theorem FillAt.below {w wr w2 : World} {L : Value} {n id k : Nat} {X : List α} (h : FillAt Z w wr L n id X k) (hb : Below wr.heap.size wr w2) : FillAt Z w w2 L n id X k :=
  ⟨h.gr.trans ⟨hb.os, hb.tape, hb.output, hb.size, fun i hi _ => hb.block i hi⟩, row_far h.own fun g hg => hb.block g (row_lt h.own hg).2⟩
theorem FillAt.start {w : World} {L : Value} {n id : Nat} {X : List α} (h : w.ownsRow 0 Z.K.e Z.K.s L n (Z.K.flat X)) : FillAt Z w w L n id X 0 :=
  ⟨⟨rfl, rfl, rfl, Nat.le_refl _, fun _ _ _ => rfl⟩, by simpa [mks] using h⟩
theorem FillAt.step (hK : KdOK Z.K) {w wr : World} {gb n c id k : Nat} {X : List α} (hn : X.length = n) (h : FillAt Z w wr (.slice (some ⟨gb, 0, none⟩) n c) n id X k) (hk : k < n) : FillAt Z w (wr.setCells gb (k * Z.K.s) (Z.K.enc (Z.mark id k))) (.slice (some ⟨gb, 0, none⟩) n c) n id X (k + 1) := by
  refine ⟨h.gr.trans (grown_cells _ _ _ _), ?_⟩
  have h1 := own_set hK h.own (by rw [List.length_append, mks_len, List.length_drop, hn]; omega) hk (Z.mark id k)
  have e : (mks Z id k ++ X.drop k).set k (Z.mark id k) = mks Z id (k + 1) ++ X.drop (k + 1) := by
    rw [List.set_append_right _ _ (by rw [mks_len]; exact Nat.le_refl _), mks_len, Nat.sub_self, mks_succ, List.append_assoc]
    congr 1
    rw [List.drop_eq_getElem_cons (by omega : k < X.length)]
    rfl
  rw [e] at h1
  exact h1
theorem FillAt.full {w wr : World} {L : Value} {n id : Nat} {X : List α} (hn : X.length = n) (h : FillAt Z w wr L n id X n) : wr.ownsRow 0 Z.K.e Z.K.s L n (Z.K.flat (mks Z id n)) := by
  have h1 := h.own
  rwa [List.drop_eq_nil_of_le (by omega), List.append_nil] at h1
/-- one cell written twice, and where the block alone counts -/
theorem set_twice (w : World) (pg i : Nat) (u v : Value) : (w.setCell ⟨pg, i, none⟩ u).setCell ⟨pg, i, none⟩ v = w.setCell ⟨pg, i, none⟩ v := by
  rw [Sort.setCell_eq, Sort.setCell_eq, Sort.setCell_eq, Sort.mapBlock_mapBlock]
  congr 1
  funext c
  exact Array.setIfInBounds_setIfInBounds _
theorem heap_set {w : World} {pg i k : Nat} {v : Value} (h : k ≠ pg) : (w.setCell ⟨pg, i, none⟩ v).heap[k]? = w.heap[k]? := Below.heap_setCell _ _ _ _ h
theorem set_congr {w w2 : World} {pg : Nat} (h : w.heap[pg]? = w2.heap[pg]?) (i : Nat) (v : Value) : (w.setCell ⟨pg, i, none⟩ v).heap[pg]? = (w2.setCell ⟨pg, i, none⟩ v).heap[pg]? := by
  rw [Sort.setCell_eq, Sort.setCell_eq]
  unfold Sort.mapBlock
  simp only [Array.getElem?_modify, if_true, h]
/-- while a page's list is grown: the page's second cell, the list's own block and new blocks are written, nothing else -/
structure GrowAt (Z : Kk α) (w : World) (pg po : Nat) (L : Value) (n id j : Nat) (v : Value) (wr : World) : Prop where
  size : w.heap.size ≤ wr.heap.size
  os : wr.os = w.os
  tape : wr.tape = w.tape
  output : wr.output = w.output
  far : ∀ k, k < w.heap.size → k ≠ pg → L.ownBlock ≠ some k → wr.heap[k]? = w.heap[k]?
  page : wr.heap[pg]? = (w.setCell ⟨pg, po + 1, none⟩ v).heap[pg]?
  own : wr.ownsRow 0 Z.K.e Z.K.s v (n + j) (Z.K.flat (mkm Z id n j))
  at' : (∃ b, v.ownBlock = some b ∧ L.ownBlock = some b) ∨ ∀ k, v.ownBlock = some k → w.heap.size ≤ k
  lst : LShows Z.K wr L n (mks Z id n)
theorem GrowAt.g {w wr : World} {pg po n id j : Nat} {L v u : Value} (h : GrowAt Z w pg po L n id j v wr) (hu : w.cell? ⟨pg, po + 1, none⟩ = some u) : wr.cell? ⟨pg, po + 1, none⟩ = some v :=
  (World.cell?_of_block (a := ⟨pg, po + 1, none⟩) h.page).trans (World.cell?_setCell_same _ _ _ hu)
theorem GrowAt.cell {w wr : World} {pg po n id j : Nat} {L v : Value} (h : GrowAt Z w pg po L n id j v wr) {i : Nat} (hi : i ≠ po + 1) : wr.cell? ⟨pg, i, none⟩ = w.cell? ⟨pg, i, none⟩ :=
  (World.cell?_of_block (a := ⟨pg, i, none⟩) h.page).trans (World.cell?_setCell_other _ _ _ _ (by intro h'; injection h' with _ h' _; exact hi h'.symm))
theorem GrowAt.frozen {w wr : World} {pg po n id j : Nat} {L v : Value} (h : GrowAt Z w pg po L n id j v wr) (i : Nat) : wr.frozen? ⟨pg, i, none⟩ = w.frozen? ⟨pg, i, none⟩ :=
  (World.frozen?_of_block (a := ⟨pg, i, none⟩) h.page).trans (by simp)
theorem GrowAt.ne {w wr : World} {pg po n id j : Nat} {L v : Value} (h : GrowAt Z w pg po L n id j v wr) (hne : L.ownBlock ≠ some pg) (hpg : pg < w.heap.size) : ∀ k, v.ownBlock = some k → k ≠ pg := by
  intro k hk e
  subst e
  rcases h.at' with ⟨b, h1, h2⟩ | h'
  · rw [hk] at h1
    rw [← h1] at h2
    exact hne h2
  · have := h' k hk
    omega
theorem GrowAt.begin (hK : KdOK Z.K) {w : World} {pg po n id : Nat} {L : Value} (hne : L.ownBlock ≠ some pg) (hown : w.ownsRow 0 Z.K.e Z.K.s L n (Z.K.flat (mks Z id n))) : GrowAt Z w pg po L n id 0 L (w.setCell ⟨pg, po + 1, none⟩ L) := by
  have hgr := grown_set w pg (po + 1) L
  have how : (w.setCell ⟨pg, po + 1, none⟩ L).ownsRow 0 Z.K.e Z.K.s L n (Z.K.flat (mks Z id n)) := row_far hown fun g hg => heap_set (fun e => hne (by rw [← e]; exact hg))
  refine ⟨hgr.size, rfl, rfl, rfl, fun k hk h1 h2 => Below.heap_setCell _ _ _ _ h1, rfl, by rw [mkm_zero]; exact how, ?_, LShows.of_own hK (mks_len _ _ _) how⟩
  rcases Option.eq_none_or_eq_some L.ownBlock with e | ⟨b, e⟩
  · exact .inr fun k hk => by rw [e] at hk; cases hk
  · exact .inl ⟨b, e, e⟩
theorem GrowAt.step (hK : KdOK Z.K) {w wr W w5 : World} {pg po n id j g c5 : Nat} {L v : Value} (h : GrowAt Z w pg po L n id j v wr) (hne : L.ownBlock ≠ some pg) (hpg : pg < w.heap.size) (hL : ∀ b, L.ownBlock = some b → b < w.heap.size ∧ ∃ c, L = .slice (some ⟨b, 0, none⟩) n c) (hb : Below wr.heap.size wr W)
    (h5 : w5.ownsRow 0 Z.K.e Z.K.s (.slice (some ⟨g, 0, none⟩) (n + j + 1) c5) (n + j + 1) (Z.K.flat (mkm Z id n j ++ [Z.mark (id + 100000) j]))) (hg : (v.ownBlock = some g ∧ W.grownBy w5 (some g)) ∨ (g = W.heap.size ∧ W.grownBy w5 none)) :
    GrowAt Z w pg po L n id (j + 1) (.slice (some ⟨g, 0, none⟩) (n + j + 1) c5) (w5.setCell ⟨pg, po + 1, none⟩ (.slice (some ⟨g, 0, none⟩) (n + j + 1) c5)) := by
  rw [← mkm_succ] at h5
  have hsz := h.size
  have hszW := hb.size
  have hgp : g ≠ pg := by
    rcases hg with ⟨h1, _⟩ | ⟨h1, _⟩
    · exact h.ne hne hpg g h1
    · omega
  have hs5 : W.heap.size ≤ w5.heap.size := hg.elim (fun h => h.2.size) (fun h => h.2.size)
  have hold : ∀ k, k < w.heap.size → L.ownBlock ≠ some k → w5.heap[k]? = wr.heap[k]? := fun k hk hkL => by
    refine Eq.trans ?_ (hb.block k (by omega))
    rcases hg with ⟨h1, h2⟩ | ⟨h1, h2⟩
    · refine h2.block k (by omega) (fun e => ?_)
      injection e with e
      subst e
      rcases h.at' with ⟨b, k1, k2⟩ | h'
      · rw [h1] at k1; rw [← k1] at k2; exact hkL k2
      · have := h' k h1; omega
    · exact h2.block k (by omega) (by simp)
  have how : (w5.setCell ⟨pg, po + 1, none⟩ (.slice (some ⟨g, 0, none⟩) (n + j + 1) c5)).ownsRow 0 Z.K.e Z.K.s (.slice (some ⟨g, 0, none⟩) (n + j + 1) c5) (n + j + 1) (Z.K.flat (mkm Z id n (j + 1))) := row_far h5 fun q hq => heap_set (fun e => hgp (by rw [← e]; injection hq with hq))
  refine ⟨by simp; omega, ?_, ?_, ?_, fun k hk h1 h2 => ?_, ?_, how, ?_, ?_⟩
  · exact (hg.elim (fun h => h.2.os) (fun h => h.2.os)).trans (hb.os.trans h.os)
  · exact (hg.elim (fun h => h.2.tape) (fun h => h.2.tape)).trans (hb.tape.trans h.tape)
  · exact (hg.elim (fun h => h.2.output) (fun h => h.2.output)).trans (hb.output.trans h.output)
  · rw [Below.heap_setCell _ _ _ _ h1, hold k hk h2]
    exact h.far k hk h1 h2
  · rw [set_congr ((hold pg hpg hne).trans h.page), set_twice]
  · rcases hg with ⟨h1, _⟩ | ⟨h1, _⟩
    · rcases h.at' with ⟨b, k1, k2⟩ | h'
      · refine .inl ⟨g, rfl, ?_⟩
        rw [h1] at k1
        rw [k1]
        exact k2
      · exact .inr fun k hk => h' k (by rw [h1]; exact hk)
    · exact .inr fun k hk => by injection hk with hk; have hk : g = k := hk; omega
  · by_cases hgL : L.ownBlock = some g
    · obtain ⟨_, c, e⟩ := hL g hgL
      subst e
      refine ⟨_, c, rfl, ?_⟩
      have h6 := (own_lies hK (by rw [mkm_len]; rfl) how).part 0 n
      have e7 : ((mkm Z id n (j + 1)).drop 0).take n = mks Z id n := by
        rw [List.drop_zero]
        unfold mkm
        exact List.take_left' (mks_len _ _ _)
      rw [e7, Nat.zero_mul, Nat.add_zero] at h6
      exact h6
    · refine h.lst.far (by simp; omega) fun q hq => ?_
      have hql := (hL q hq).1
      have hqp : q ≠ pg := fun e => hne (by rw [← e]; exact hq)
      rw [Below.heap_setCell _ _ _ _ hqp]
      refine Eq.trans ?_ (hb.block q (by omega))
      rcases hg with ⟨h1, h2⟩ | ⟨h1, h2⟩
      · exact h2.block q (by omega) (fun e => hgL (by rw [← e]; exact hq))
      · exact h2.block q (by omega) (by simp)
end Go.Proofs.YtdeibifjiefapaaGreatDoor.Kg
