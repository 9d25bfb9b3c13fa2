import Derived.Test.YtdeibifjiefapaaGreatDoorW13
import Derived.Test.YtdeibifjiefapaaGreatDoorW14
/- chart: put (23). -/
namespace Go.Proofs.YtdeibifjiefapaaGreatDoor
open Go Go.Shelf Go.ChangeShapes Go.WideShapes Go.ChangeAt Go.RowKit Go.Maps Go.Sort
set_option linter.unusedVariables false
theorem insert_all {Y : World} {d : Nat} {S : Nat → Prop} {L : List Ac} {g : Gh} (h : ChAt Y d S L g) (hG : Good L) {p : Nm} (hp : isN L p) {i n vb nb : Nat} (hi : i ≤ n) (hn : n = (kids L p).length) (hv : Y.heap[vb]? = some (.cells #[ptr nb] 98)) (hvS : ¬ S vb) :
    Calls Tryz.prog 158 #[ksl g L p, .int .i64 i, .slice (some ⟨vb, 0, none⟩) 1 1] Y fun e w' => ∃ q' c' ex', InsOut Y (g.kb p) n (((kids L p).map g.nd).take i ++ nb :: ((kids L p).map g.nd).drop i) e w' q' c' ex' := by
  have hn1 : n ≤ 100 := by rw [hn]; exact Nat.le_trans (kids_len L p) hG.len
  have hl : ((kids L p).map g.nd).length = n := by rw [List.length_map, hn]
  rcases h.row p hp with ⟨h1, h2, h3⟩ | ⟨q, h1, h2, h3, h4, h5⟩
  · have hn0 : n = 0 := by rw [hn, h1]; rfl
    have hi0 : i = 0 := by omega
    subst hi0
    subst hn0
    rw [ksl, h2, h3, h1]
    exact insert_end Y none 0 0 vb nb [] rfl (by omega) ⟨rfl, .inl ⟨rfl, rfl⟩⟩ hv
  · have hr : RowP Y q ((kids L p).map g.nd) (g.ex p) := by
      show Y.heap[q]? = _
      rw [h2, rowA, List.map_map]
      rfl
    have hvq : vb ≠ q := fun e => hvS (by rw [e]; exact h.sq p q hp h1)
    have e1 : ksl g L p = .slice (some ⟨q, 0, none⟩) n (g.kc p) := by rw [ksl, h1, ← hn]; rfl
    rw [e1, h1]
    by_cases hin : i = n
    · subst hin
      rw [List.take_of_length_le (by omega), List.drop_of_length_le (by omega)]
      exact insert_end Y (some ⟨q, 0, none⟩) i (g.kc p) vb nb _ hl hn1 (hr.own hl (by omega) h5) hv
    · by_cases hroom : n + 1 ≤ g.kc p
      · exact insert_shift Y q n (g.kc p) i vb nb _ (g.ex p) hl hn1 (by omega) hr (by omega) h5 hroom hv hvq
      · exact insert_grow Y q n (g.kc p) i vb nb _ (g.ex p) hl hn1 (by omega) hr (by omega) (by omega) hv hvq
/-- how the tree lies behind put -/
structure PutOut (W : World) (d : Nat) (S : Nat → Prop) (L : List Ac) (w' : World) (S' : Nat → Prop) (g' : Gh) : Prop where
  ch : ChAt w' d S' L g'
  old : ∀ k, S' k → S k ∨ W.heap.size ≤ k
  inh : ∀ k, S' k → k < w'.heap.size
  fr : Fr S W w'
theorem put_fin {W X Y w2 : World} {d : Nat} {S : Nat → Prop} {L : List Ac} {g : Gh} {a : Ac} {p : Nm} {nb i n q' c' : Nat} {ex' : List Value} {e : Ending} (hC : ChAt W d S L g) (hG : Good L) (hS : ∀ k, S k → k < W.heap.size) (ha : Fits L a) (hp : par a.nm = p) (hi : i = posK (kids L p) a.nm) (hn : n = (kids L p).length)
    (hX : Below W.heap.size W X) (hY : Y = (X.drew.alloc (.cells (cellsA a (.slice none 0 0)) 68)).alloc (.cells #[ptr nb] 98)) (hnb : nb = X.heap.size)
    (h : InsOut Y (g.kb p) n (((kids L p).map g.nd).take i ++ nb :: ((kids L p).map g.nd).drop i) e w2 q' c' ex') :
    PutOut W d S (insA L a) (w2.setCell ⟨g.nd p, 4, none⟩ (.slice (some ⟨q', 0, none⟩) (n + 1) c')) (fun k => S k ∨ k = nb ∨ k = q') (insG g a.nm p nb q' c' ex') ∧ w2.cell? ⟨g.nd p, 4, none⟩ = some (ksl g L p) ∧ w2.frozen? ⟨g.nd p, 4, none⟩ = false := by
  have hpN : isN L p := by rw [← hp]; exact isN_par ha
  have hXS := hX.size
  have yz : Y.heap.size = X.heap.size + 2 := by rw [hY]; simp
  have yk : ∀ k, k < X.heap.size → Y.heap[k]? = X.heap[k]? := fun k hk => by
    rw [hY]
    exact (Below.heap_alloc _ _ _ (by rw [World.size_alloc]; show k < X.heap.size + 1; omega)).trans (Below.heap_alloc X.drew _ _ hk)
  have ynb : Y.heap[nb]? = some (.cells (cellsA a (.slice none 0 0)) 68) := by
    rw [hY, hnb]
    exact (Below.heap_alloc _ _ _ (by rw [World.size_alloc]; show X.heap.size < X.heap.size + 1; omega)).trans (World.alloc_heap_new X.drew _)
  have yW : ∀ k, k < W.heap.size → Y.heap[k]? = W.heap[k]? := fun k hk => (yk k (by omega)).trans (hX.block k hk)
  have hCY : ChAt Y d S L g := hC.keep (fun k hk => yW k (hS k hk))
  obtain ⟨cp, tp, hcp, htp⟩ : ∃ cp tp, Y.heap[g.nd p]? = some (.cells cp tp) ∧ cp[4]? = some (ksl g L p) ∧ tp ≠ 98 := by
    rcases hpN with e | ⟨b, hb, e⟩
    · rw [e, hCY.top]
      exact ⟨_, _, hCY.tn, rfl, by decide⟩
    · rw [← e]
      exact ⟨_, _, hCY.node b hb, rfl, by decide⟩
  have hSp : S (g.nd p) := by
    rcases hpN with e | ⟨b, hb, e⟩
    · rw [e, hC.top]; exact hC.sd
    · rw [← e]; exact hC.sn b hb
  have hpW : g.nd p < W.heap.size := hS _ hSp
  have hrowT : ∀ q, g.kb p = some q → ∃ c, Y.heap[q]? = some (.cells c 98) := fun q e => by
    rcases hCY.row p hpN with ⟨_, h2, _⟩ | ⟨q2, h1, h2, _⟩
    · rw [e] at h2; cases h2
    · rw [e] at h1
      injection h1 with h1
      subst h1
      exact ⟨_, h2⟩
  have hnpq : some (g.nd p) ≠ g.kb p := fun e => by
    obtain ⟨c, hc⟩ := hrowT _ e.symm
    rw [hcp] at hc
    injection hc with hc
    injection hc with _ hc
    exact htp.2 hc
  have hnbq : some nb ≠ g.kb p := fun e => by
    have := hS _ (hC.sq p nb hpN e.symm)
    omega
  have w2p : w2.heap[g.nd p]? = some (.cells cp tp) := (h.blk _ (by omega) hnpq).trans hcp
  have hq'p : q' ≠ g.nd p := fun e => by
    rcases h.new with h1 | h1
    · rw [e] at h1; exact hnpq h1
    · omega
  refine ⟨⟨?_, ?_, ?_, ?_⟩, cell_of w2p htp.1, froz_of w2p 4⟩
  · refine hCY.ins hG ha hp hi ?_ ?_ (by rw [← hn]; exact h.cap) h.big (fun arr t harr => ?_) (fun k hk h1 h2 => ?_)
    · exact (Below.heap_setCell _ _ _ _ (by show nb ≠ g.nd p; omega)).trans ((h.blk nb (by omega) hnbq).trans ynb)
    · exact (Below.heap_setCell _ _ _ _ hq'p).trans h.row
    · rw [hcp] at harr
      injection harr with harr
      injection harr with h1 h2
      subst h1
      subst h2
      rw [← hn]
      exact heap_set w2p _
    · have hkW := hS k hk
      exact (Below.heap_setCell _ _ _ _ h1).trans (h.blk k (by omega) (fun e => h2 e.symm))
  · rintro k (hk | hk | hk)
    · exact .inl hk
    · right; omega
    · rcases h.new with h1 | h1
      · rw [hk]; exact .inl (hC.sq p q' hpN h1.symm)
      · right; omega
  · intro k hk
    have hz := h.size
    rcases hk with hk | hk | hk
    · have := hS k hk; simp; omega
    · simp; omega
    · have := (Array.getElem?_eq_some_iff.1 h.row).1
      simp
      omega
  · refine ⟨h.os.trans (by rw [hY]; exact hX.os), h.tape.trans (by rw [hY]; exact hX.tape), h.out.trans (by rw [hY]; exact hX.output), by have := h.size; simp; omega, fun k hk hks => ?_⟩
    refine (Below.heap_setCell _ _ _ _ (fun e => hks (by rw [show k = g.nd p from e]; exact hSp))).trans ((h.blk k (by omega) (fun e => hks (hC.sq p k hpN e.symm))).trans (yW k hk))

theorem spl_tot (l : Nm) : ((spl l).map fun p => p.length + 1).sum = l.length + 1 := by
  induction l with
  | nil => simp [spl]
  | cons c l ih =>
    by_cases hc : c = 58
    · rw [spl, if_pos hc, List.map_cons, List.sum_cons, ih]
      simp
      omega
    · obtain ⟨h, t, e⟩ := spl_ne l
      rw [e] at ih
      rw [spl_cons hc e]
      simp at ih ⊢
      omega
theorem name_short {l : Nm} (h : nameL l = true) : l.length ≤ 101 := by
  unfold nameL at h
  simp only [Bool.and_eq_true, decide_eq_true_eq, List.all_eq_true] at h
  have h1 := spl_tot l
  have h2 : ∀ ps : List Nm, (∀ p ∈ ps, p.length ≤ 16) → (ps.map fun p => p.length + 1).sum ≤ ps.length * 17 := fun ps => by
    induction ps with
    | nil => simp
    | cons p ps ih =>
      intro hp
      have a1 := ih (fun q hq => hp q (List.mem_cons_of_mem _ hq))
      have a2 := hp p (List.mem_cons_self ..)
      simp at a1 ⊢
      omega
  have h3 := h2 (spl l) (fun p hp => by
    have := h.2 p hp
    unfold partL at this
    simp only [Bool.and_eq_true, decide_eq_true_eq] at this
    exact this.1.1.2)
  have h4 := spl_len l
  rw [h1] at h3
  omega
theorem name_size {l : Nm} (h : nameL l = true) : (txN l).size < 4611686018427387904 := by
  have := name_short h
  show l.toArray.size < _
  simp
  omega

set_option maxRecDepth 100000 in
set_option maxHeartbeats 8000000 in
theorem put_any {W : World} {d : Nat} {S : Nat → Prop} {L : List Ac} {g : Gh} (h : ChAt W d S L g) (hG : Good L) (hS : ∀ k, S k → k < W.heap.size) {a : Ac} (ha : Fits L a) :
    Calls Tryz.prog 77 #[ptr d, .agg #[.string (txN a.nm), .int .i64 a.ty, .int .i64 a.dy, .bool a.cl]] W fun e w' => e = .returned (.tuple #[]) ∧ ∃ S' g', PutOut W d S (insA L a) w' S' g' := by
  have hsz : (txN a.nm).size < 4611686018427387904 := by
    exact name_size ha.nam
  have dP := hide (parent_any (txN a.nm) hsz)
  rw [txN_list] at dP
  have HC := hide h; have HG := hide hG; have HS := hide hS; have HA := hide ha
  obtain ⟨p, hp⟩ : ∃ p, p = par a.nm := ⟨_, rfl⟩
  have hpN : isN L p := by rw [hp]; exact isN_par ha
  have HPN := hide hpN; have HP := hide hp
  have htop := h.top
  rcases ups_cases a.nm with e | ⟨p2, e, _, _⟩
  · have e1 : parS a.nm = (⟨#[]⟩, false) := by rw [parS, if_pos ha.nam, e]
    rw [e1] at dP
    have hp0 : p = [] := by rw [hp, par, e]; rfl
    have HP0 := hide hp0
    clear e1 e hpN h hG hS ha hp hp0
    go_enter Tryz.func77, Tryz.ntmps77
    go_upto_region 3 with (go_at_call 85; refine (unhide dP _).mono ?_; rintro e X ⟨rfl, hbX⟩)
    have XB : Hid (Below W.heap.size W X) := ((Below.refl _ W).alloc (Nat.le_refl _) _).trans (hbX.mono (by simp))
    have BX : Hid (X.heap[W.heap.size]? = some (.cells #[.string (txN a.nm), .int .i64 a.ty, .int .i64 a.dy, .bool a.cl] 65)) := (hbX.block W.heap.size (by simp)).trans (World.alloc_heap_new W _)
    have hCX : ChAt X d S L g := (unhide HC).keep (fun k hk => (unhide XB).block k (unhide HS k hk))
    have dPl := hide (place_any hCX (unhide HG) (unhide HPN) (txN a.nm))
    rw [txN_list] at dPl
    clear hbX
    obtain ⟨po, hpo⟩ : ∃ po, po = posK (kids L p) a.nm := ⟨_, rfl⟩
    rw [← hpo] at dPl
    obtain ⟨n, hn⟩ : ∃ n, n = (kids L p).length := ⟨_, rfl⟩
    have hpon : po ≤ n := by rw [hpo, hn]; exact posK_le _ _
    have hc4 : X.cell? ⟨g.nd p, 4, none⟩ = some (ksl g L p) := hCX.kids4 (unhide HPN)
    have kA0 : X.cell? ⟨W.heap.size, 0, none⟩ = some (.string (txN a.nm)) := cell_of (unhide BX) rfl
    have kA1 : X.cell? ⟨W.heap.size, 1, none⟩ = some (.int .i64 a.ty) := cell_of (unhide BX) rfl
    have kA2 : X.cell? ⟨W.heap.size, 2, none⟩ = some (.int .i64 a.dy) := cell_of (unhide BX) rfl
    have kA3 : X.cell? ⟨W.heap.size, 3, none⟩ = some (.bool a.cl) := cell_of (unhide BX) rfl
    obtain ⟨Y, hY⟩ : ∃ Y, Y = (X.drew.alloc (.cells (cellsA a (.slice none 0 0)) 68)).alloc (.cells #[ptr X.heap.size] 98) := ⟨_, rfl⟩
    have hCY : ChAt Y d S L g := by
      refine hCX.keep (fun k hk => ?_)
      have h1 := unhide HS k hk
      have h2 := (unhide XB).size
      rw [hY]
      exact (Below.heap_alloc _ _ _ (by rw [World.size_alloc]; show k < X.heap.size + 1; omega)).trans (Below.heap_alloc X.drew _ _ (by show k < X.heap.size; omega))
    have hvY : Y.heap[X.heap.size + 1]? = some (.cells #[ptr X.heap.size] 98) := by
      rw [hY]
      have := World.alloc_heap_new (X.drew.alloc (.cells (cellsA a (.slice none 0 0)) 68)) (.cells #[ptr X.heap.size] 98)
      rw [World.size_alloc] at this
      exact this
    have dIn := hide (insert_all hCY (unhide HG) (unhide HPN) hpon hn hvY (fun h => by have h1 := unhide HS _ h; have h2 := (unhide XB).size; omega))
    obtain ⟨np, hnp⟩ : ∃ np, np = g.nd p := ⟨_, rfl⟩
    rw [← hnp] at dPl hc4
    obtain ⟨sl, hsl⟩ : ∃ sl, sl = ksl g L p := ⟨_, rfl⟩
    rw [← hsl] at hc4 dIn
    have HY := hide hY; have HNP := hide hnp; have HPO := hide hpo; have HN := hide hn; have HSL := hide hsl
    have hsl2 : ∃ pp nn cc, sl = .slice pp nn cc := ⟨_, _, _, hsl⟩
    obtain ⟨pp, nn, cc, rfl⟩ := hsl2
    have hnd : np = d := by rw [hnp, unhide HP0]; exact htop
    clear hCX hCY hvY hnp hpo hn hsl hY htop
    subst hnd
    go_upto_region 6 with (go_at_call 157; refine (unhide dPl).mono ?_; rintro e w9 ⟨rfl, hw9⟩; rw [hw9]; clear hw9 w9)
    refine wp_region_last (n := 13) (S := fun W' => W'.cell? ⟨np, 4, none⟩ = some (.slice pp nn cc) ∧ W'.cell? ⟨W.heap.size, 0, none⟩ = some (.string (txN a.nm)) ∧ W'.cell? ⟨W.heap.size, 1, none⟩ = some (.int .i64 a.ty) ∧ W'.cell? ⟨W.heap.size, 2, none⟩ = some (.int .i64 a.dy) ∧ W'.cell? ⟨W.heap.size, 3, none⟩ = some (.bool a.cl)) (by kernel_rfl) (by exact ⟨hc4, kA0, kA1, kA2, kA3⟩) (fun hHeld => ?_)
    refine tkW 0 ?_; refine tkW 1 ?_; refine tkW 2 ?_; refine tkW 3 ?_; refine tkS 4 ?_; refine tkW 5 ?_; refine tkS 6 ?_; refine tkW 7 ?_
    clear hHeld
    have cY1 : ∀ (b k : Nat) (v : Value), X.cell? ⟨b, k, none⟩ = some v → (X.drew.alloc (.cells (cellsA a (.slice none 0 0)) 68)).cell? ⟨b, k, none⟩ = some v := fun b k v hv => (World.cell?_alloc_lt X.drew _ ⟨b, k, none⟩ (World.block_lt_of_cell? X _ hv)).trans hv
    have cY2 : ∀ (b k : Nat) (v : Value), X.cell? ⟨b, k, none⟩ = some v → Y.cell? ⟨b, k, none⟩ = some v := fun b k v hv => by rw [unhide HY]; exact (World.cell?_alloc_lt _ _ ⟨b, k, none⟩ (World.block_lt_of_cell? _ _ (cY1 b k v hv))).trans (cY1 b k v hv)
    have S1 := hide (And.intro (cY1 _ _ _ hc4) (And.intro (cY1 _ _ _ kA0) (And.intro (cY1 _ _ _ kA1) (And.intro (cY1 _ _ _ kA2) (cY1 _ _ _ kA3)))))
    have S2 := hide (And.intro (cY2 _ _ _ hc4) (And.intro (cY2 _ _ _ kA0) (And.intro (cY2 _ _ _ kA1) (And.intro (cY2 _ _ _ kA2) (cY2 _ _ _ kA3)))))
    clear cY1 cY2
    refine wpAnyL_one (i := 8) (by kernel_rfl) rfl (fun KK hK => ?_)
    go_simp
    refine hK.out _ _ (unhide S1) (fun hHeld => ?_)
    clear hK KK hHeld
    refine wpAnyL_one (i := 9) (by kernel_rfl) rfl (fun KK hK => ?_)
    go_simp
    refine hK.out _ _ (by have h := unhide S2; rw [unhide HY] at h; exact h) (fun hHeld => ?_)
    clear hK KK hHeld
    change wpAnyL _ _ _ _ _ _ _ _ _ ((X.drew.alloc (.cells (cellsA a (.slice none 0 0)) 68)).alloc (.cells #[ptr X.heap.size] 98))
    rw [← unhide HY]
    refine wpAnyL_one (i := 10) (by kernel_rfl) rfl (fun KK hK => ?_)
    go_simp
    go_wp2_with (first | (go_at_call 158; refine (unhide dIn).mono ?_; rintro e w2 ⟨q', c', ex', hio⟩; have he := hio.res; subst he))
    obtain ⟨hPO, h4b, f4b⟩ := put_fin (unhide HC) (unhide HG) (unhide HS) (unhide HA) (unhide HP).symm (unhide HPO) (unhide HN) (unhide XB) (unhide HY) rfl hio
    rw [← unhide HNP] at hPO h4b f4b
    have hAb : w2.heap[W.heap.size]? = some (.cells #[.string (txN a.nm), .int .i64 a.ty, .int .i64 a.dy, .bool a.cl] 65) := by
      have hz := (Array.getElem?_eq_some_iff.1 (unhide BX)).1
      have hYA : Y.heap[W.heap.size]? = some (.cells #[.string (txN a.nm), .int .i64 a.ty, .int .i64 a.dy, .bool a.cl] 65) := by
        rw [unhide HY]
        exact (Below.heap_alloc _ _ _ (by rw [World.size_alloc]; show W.heap.size < X.heap.size + 1; omega)).trans ((Below.heap_alloc X.drew _ _ hz).trans (unhide BX))
      refine (hio.blk _ (Array.getElem?_eq_some_iff.1 hYA).1 (fun e => ?_)).trans hYA
      have := unhide HS _ ((unhide HC).sq p _ (unhide HPN) e.symm)
      omega
    have h4c : w2.cell? ⟨np, 4, none⟩ = some (.slice pp nn cc) := by rw [h4b, ← unhide HSL]
    have HPO2 := hide hPO
    refine hK.out _ _ ⟨h4c, cell_of hAb rfl, cell_of hAb rfl, cell_of hAb rfl, cell_of hAb rfl⟩ (fun hHeld => ?_)
    clear hK KK hPO h4b hAb hio
    refine tkW 11 ?_; refine tkW 12 ?_
    clear hHeld
    refine wpAnyL_past (i := 13) (by kernel_rfl) rfl (by kernel_rfl) (fun KK hK => ?_)
    go_simp
    refine hK.out _ _ ?_
    clear hK KK
    refine wpAnyL_done (by kernel_rfl) ?_
    go_wp2
    go_end0
    exact ⟨rfl, _, _, unhide HPO2⟩
  · have e1 : parS a.nm = (⟨p2.toArray⟩, true) := by rw [parS, if_pos ha.nam, e]
    rw [e1] at dP
    have hp0 : p = p2 := by rw [hp, par, e]; rfl
    have hpn : ∃ b ∈ L, b.nm = p := by
      rcases hpN with h0 | h0
      · have := name_ne (ha.nam)
        exfalso
        obtain ⟨b, hb, e2, _⟩ := ha.up p2 _ e
        exact name_ne (hG.name b hb) (e2.trans (hp0.symm.trans h0))
      · exact h0
    obtain ⟨np, hnp⟩ : ∃ np, np = g.nd p := ⟨_, rfl⟩
    have HSK : Hid (seekV g L p = ptr np) := by show _ = _; rw [seekV, if_pos hpn, hnp]
    have HNP0 := hide hnp
    have hpz : (txN p).size < 4611686018427387904 := by obtain ⟨b, hb, e2⟩ := hpn; rw [← e2]; exact name_size (hG.name b hb)
    rw [← hp0] at dP
    clear e1 e hpN h hG hS ha hp hp0 hpn hnp htop
    go_enter Tryz.func77, Tryz.ntmps77
    go_upto_region 4 with (go_at_call 85; refine (unhide dP _).mono ?_; rintro e X0 ⟨rfl, hbX0⟩)
    have XB0 : Hid (Below W.heap.size W X0) := ((Below.refl _ W).alloc (Nat.le_refl _) _).trans (hbX0.mono (by simp))
    have BX0 : Hid (X0.heap[W.heap.size]? = some (.cells #[.string (txN a.nm), .int .i64 a.ty, .int .i64 a.dy, .bool a.cl] 65)) := (hbX0.block W.heap.size (by simp)).trans (World.alloc_heap_new W _)
    have z0 : Hid (W.heap.size < X0.heap.size) := (Array.getElem?_eq_some_iff.1 (unhide BX0)).1
    have hC0 : ChAt X0 d S L g := (unhide HC).keep (fun k hk => (unhide XB0).block k (unhide HS k hk))
    have dSk := hide (seek_any hC0 (unhide HG) (fun k hk => Nat.lt_of_lt_of_le (unhide HS k hk) (unhide XB0).size) (txN p) hpz)
    rw [txN_list, unhide HSK] at dSk
    clear hbX0 hC0
    go_upto_region 5 with (go_at_call 83; refine (unhide dSk).mono ?_; rintro e X ⟨rfl, hbX⟩)
    have XB : Hid (Below W.heap.size W X) := (unhide XB0).trans (hbX.mono (unhide XB0).size)
    have BX : Hid (X.heap[W.heap.size]? = some (.cells #[.string (txN a.nm), .int .i64 a.ty, .int .i64 a.dy, .bool a.cl] 65)) := (hbX.block W.heap.size (unhide z0)).trans (unhide BX0)
    have hCX : ChAt X d S L g := (unhide HC).keep (fun k hk => (unhide XB).block k (unhide HS k hk))
    have dPl := hide (place_any hCX (unhide HG) (unhide HPN) (txN a.nm))
    rw [txN_list] at dPl
    clear hbX dSk
    obtain ⟨po, hpo⟩ : ∃ po, po = posK (kids L p) a.nm := ⟨_, rfl⟩
    rw [← hpo] at dPl
    obtain ⟨n, hn⟩ : ∃ n, n = (kids L p).length := ⟨_, rfl⟩
    have hpon : po ≤ n := by rw [hpo, hn]; exact posK_le _ _
    have hc4 : X.cell? ⟨g.nd p, 4, none⟩ = some (ksl g L p) := hCX.kids4 (unhide HPN)
    have kA0 : X.cell? ⟨W.heap.size, 0, none⟩ = some (.string (txN a.nm)) := cell_of (unhide BX) rfl
    have kA1 : X.cell? ⟨W.heap.size, 1, none⟩ = some (.int .i64 a.ty) := cell_of (unhide BX) rfl
    have kA2 : X.cell? ⟨W.heap.size, 2, none⟩ = some (.int .i64 a.dy) := cell_of (unhide BX) rfl
    have kA3 : X.cell? ⟨W.heap.size, 3, none⟩ = some (.bool a.cl) := cell_of (unhide BX) rfl
    obtain ⟨Y, hY⟩ : ∃ Y, Y = (X.drew.alloc (.cells (cellsA a (.slice none 0 0)) 68)).alloc (.cells #[ptr X.heap.size] 98) := ⟨_, rfl⟩
    have hCY : ChAt Y d S L g := by
      refine hCX.keep (fun k hk => ?_)
      have h1 := unhide HS k hk
      have h2 := (unhide XB).size
      rw [hY]
      exact (Below.heap_alloc _ _ _ (by rw [World.size_alloc]; show k < X.heap.size + 1; omega)).trans (Below.heap_alloc X.drew _ _ (by show k < X.heap.size; omega))
    have hvY : Y.heap[X.heap.size + 1]? = some (.cells #[ptr X.heap.size] 98) := by
      rw [hY]
      have := World.alloc_heap_new (X.drew.alloc (.cells (cellsA a (.slice none 0 0)) 68)) (.cells #[ptr X.heap.size] 98)
      rw [World.size_alloc] at this
      exact this
    have dIn := hide (insert_all hCY (unhide HG) (unhide HPN) hpon hn hvY (fun h => by have h1 := unhide HS _ h; have h2 := (unhide XB).size; omega))
    have hnp := unhide HNP0
    rw [← hnp] at dPl hc4
    obtain ⟨sl, hsl⟩ : ∃ sl, sl = ksl g L p := ⟨_, rfl⟩
    rw [← hsl] at hc4 dIn
    have HY := hide hY; have HNP := hide hnp; have HPO := hide hpo; have HN := hide hn; have HSL := hide hsl
    have hsl2 : ∃ pp nn cc, sl = .slice pp nn cc := ⟨_, _, _, hsl⟩
    obtain ⟨pp, nn, cc, rfl⟩ := hsl2
    clear hCX hCY hvY hnp hpo hn hsl hY
    go_upto_region 6 with (go_at_call 157; refine (unhide dPl).mono ?_; rintro e w9 ⟨rfl, hw9⟩; rw [hw9]; clear hw9 w9)
    refine wp_region_last (n := 13) (S := fun W' => W'.cell? ⟨np, 4, none⟩ = some (.slice pp nn cc) ∧ W'.cell? ⟨W.heap.size, 0, none⟩ = some (.string (txN a.nm)) ∧ W'.cell? ⟨W.heap.size, 1, none⟩ = some (.int .i64 a.ty) ∧ W'.cell? ⟨W.heap.size, 2, none⟩ = some (.int .i64 a.dy) ∧ W'.cell? ⟨W.heap.size, 3, none⟩ = some (.bool a.cl)) (by kernel_rfl) (by exact ⟨hc4, kA0, kA1, kA2, kA3⟩) (fun hHeld => ?_)
    refine tkW 0 ?_; refine tkW 1 ?_; refine tkW 2 ?_; refine tkW 3 ?_; refine tkS 4 ?_; refine tkW 5 ?_; refine tkS 6 ?_; refine tkW 7 ?_
    clear hHeld
    have cY1 : ∀ (b k : Nat) (v : Value), X.cell? ⟨b, k, none⟩ = some v → (X.drew.alloc (.cells (cellsA a (.slice none 0 0)) 68)).cell? ⟨b, k, none⟩ = some v := fun b k v hv => (World.cell?_alloc_lt X.drew _ ⟨b, k, none⟩ (World.block_lt_of_cell? X _ hv)).trans hv
    have cY2 : ∀ (b k : Nat) (v : Value), X.cell? ⟨b, k, none⟩ = some v → Y.cell? ⟨b, k, none⟩ = some v := fun b k v hv => by rw [unhide HY]; exact (World.cell?_alloc_lt _ _ ⟨b, k, none⟩ (World.block_lt_of_cell? _ _ (cY1 b k v hv))).trans (cY1 b k v hv)
    have S1 := hide (And.intro (cY1 _ _ _ hc4) (And.intro (cY1 _ _ _ kA0) (And.intro (cY1 _ _ _ kA1) (And.intro (cY1 _ _ _ kA2) (cY1 _ _ _ kA3)))))
    have S2 := hide (And.intro (cY2 _ _ _ hc4) (And.intro (cY2 _ _ _ kA0) (And.intro (cY2 _ _ _ kA1) (And.intro (cY2 _ _ _ kA2) (cY2 _ _ _ kA3)))))
    clear cY1 cY2
    refine wpAnyL_one (i := 8) (by kernel_rfl) rfl (fun KK hK => ?_)
    go_simp
    refine hK.out _ _ (unhide S1) (fun hHeld => ?_)
    clear hK KK hHeld
    refine wpAnyL_one (i := 9) (by kernel_rfl) rfl (fun KK hK => ?_)
    go_simp
    refine hK.out _ _ (by have h := unhide S2; rw [unhide HY] at h; exact h) (fun hHeld => ?_)
    clear hK KK hHeld
    change wpAnyL _ _ _ _ _ _ _ _ _ ((X.drew.alloc (.cells (cellsA a (.slice none 0 0)) 68)).alloc (.cells #[ptr X.heap.size] 98))
    rw [← unhide HY]
    refine wpAnyL_one (i := 10) (by kernel_rfl) rfl (fun KK hK => ?_)
    go_simp
    go_wp2_with (first | (go_at_call 158; refine (unhide dIn).mono ?_; rintro e w2 ⟨q', c', ex', hio⟩; have he := hio.res; subst he))
    obtain ⟨hPO, h4b, f4b⟩ := put_fin (unhide HC) (unhide HG) (unhide HS) (unhide HA) (unhide HP).symm (unhide HPO) (unhide HN) (unhide XB) (unhide HY) rfl hio
    rw [← unhide HNP] at hPO h4b f4b
    have hAb : w2.heap[W.heap.size]? = some (.cells #[.string (txN a.nm), .int .i64 a.ty, .int .i64 a.dy, .bool a.cl] 65) := by
      have hz := (Array.getElem?_eq_some_iff.1 (unhide BX)).1
      have hYA : Y.heap[W.heap.size]? = some (.cells #[.string (txN a.nm), .int .i64 a.ty, .int .i64 a.dy, .bool a.cl] 65) := by
        rw [unhide HY]
        exact (Below.heap_alloc _ _ _ (by rw [World.size_alloc]; show W.heap.size < X.heap.size + 1; omega)).trans ((Below.heap_alloc X.drew _ _ hz).trans (unhide BX))
      refine (hio.blk _ (Array.getElem?_eq_some_iff.1 hYA).1 (fun e => ?_)).trans hYA
      have := unhide HS _ ((unhide HC).sq p _ (unhide HPN) e.symm)
      omega
    have h4c : w2.cell? ⟨np, 4, none⟩ = some (.slice pp nn cc) := by rw [h4b, ← unhide HSL]
    have HPO2 := hide hPO
    refine hK.out _ _ ⟨h4c, cell_of hAb rfl, cell_of hAb rfl, cell_of hAb rfl, cell_of hAb rfl⟩ (fun hHeld => ?_)
    clear hK KK hPO h4b hAb hio
    refine tkW 11 ?_; refine tkW 12 ?_
    clear hHeld
    refine wpAnyL_past (i := 13) (by kernel_rfl) rfl (by kernel_rfl) (fun KK hK => ?_)
    go_simp
    refine hK.out _ _ ?_
    clear hK KK
    refine wpAnyL_done (by kernel_rfl) ?_
    go_wp2
    go_end0
    exact ⟨rfl, _, _, unhide HPO2⟩
end Go.Proofs.YtdeibifjiefapaaGreatDoor
