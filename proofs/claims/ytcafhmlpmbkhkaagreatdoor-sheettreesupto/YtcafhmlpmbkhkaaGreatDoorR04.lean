import Derived.Test.YtcafhmlpmbkhkaaGreatDoorR03
import Derived.Test.YtcafhmlpmbkhkaaGreatDoorR01
namespace Go.Proofs.YtcafhmlpmbkhkaaGreatDoor.Ch
open Go Go.Shelf Go.ChangeShapes Go.WideShapes Go.ChangeAt Go.RowKit Go.Maps Go.Sort
set_option linter.unusedVariables false
theorem insert_all {Y : World} {d : Nat} {S : Nat → Prop} {L : List Ac} {g : Gh} (h : ChAt Y d S L g) (hG : Good L) {p : Nm} (hp : isN L p) {i n vb nb : Nat} (hi : i ≤ n) (hn : n = (kids L p).length) (hv : Y.heap[vb]? = some (.cells #[ptr nb] 263)) (hvS : ¬ S vb) :
    Calls Tryz.prog 220 #[ksl g L p, .int .i64 i, .slice (some ⟨vb, 0, none⟩) 1 1] Y fun e w' => ∃ q' c' ex', InsOut Y (g.kb p) n (((kids L p).map g.nd).take i ++ nb :: ((kids L p).map g.nd).drop i) e w' q' c' ex' := by
  have hn1 : n ≤ 100 := by rw [hn]; exact Nat.le_trans (kids_len L p) hG.len
  have hl : ((kids L p).map g.nd).length = n := by rw [List.length_map, hn]
  rcases h.row p hp with ⟨h1, h2, h3⟩ | ⟨q, h1, h2, h3, h4, h5⟩
  · have hn0 : n = 0 := by rw [hn, h1]; rfl
    have hi0 : i = 0 := by omega
    subst hi0
    subst hn0
    rw [ksl, h2, h3, h1]
    exact insert_end Y none 0 0 vb nb [] rfl (by omega) ⟨rfl, .inl ⟨rfl, rfl⟩⟩ hv
  · have hr : RowP Y q ((kids L p).map g.nd) (g.ex p) := by
      show Y.heap[q]? = _
      rw [h2, rowA, List.map_map]
      rfl
    have hvq : vb ≠ q := fun e => hvS (by rw [e]; exact h.sq p q hp h1)
    have e1 : ksl g L p = .slice (some ⟨q, 0, none⟩) n (g.kc p) := by rw [ksl, h1, ← hn]; rfl
    rw [e1, h1]
    by_cases hin : i = n
    · subst hin
      rw [List.take_of_length_le (by omega), List.drop_of_length_le (by omega)]
      exact insert_end Y (some ⟨q, 0, none⟩) i (g.kc p) vb nb _ hl hn1 (hr.own hl (by omega) h5) hv
    · by_cases hroom : n + 1 ≤ g.kc p
      · exact insert_shift Y q n (g.kc p) i vb nb _ (g.ex p) hl hn1 (by omega) hr (by omega) h5 hroom hv hvq
      · exact insert_grow Y q n (g.kc p) i vb nb _ (g.ex p) hl hn1 (by omega) hr (by omega) (by omega) hv hvq
structure PutOut (W : World) (d : Nat) (S : Nat → Prop) (L : List Ac) (w' : World) (S' : Nat → Prop) (g' : Gh) : Prop where
  ch : ChAt w' d S' L g'
  old : ∀ k, S' k → S k ∨ W.heap.size ≤ k
  inh : ∀ k, S' k → k < w'.heap.size
  fr : Fr S W w'
theorem put_fin {W X Y w2 : World} {d : Nat} {S : Nat → Prop} {L : List Ac} {g : Gh} {a : Ac} {p : Nm} {nb i n q' c' : Nat} {ex' : List Value} {e : Ending} (hC : ChAt W d S L g) (hG : Good L) (hS : ∀ k, S k → k < W.heap.size) (ha : Fits L a) (hp : par a.nm = p) (hi : i = posK (kids L p) a.nm) (hn : n = (kids L p).length)
    (hX : Below W.heap.size W X) (hY : Y = (X.drew.alloc (.cells (cellsA a (.slice none 0 0)) 258)).alloc (.cells #[ptr nb] 263)) (hnb : nb = X.heap.size)
    (h : InsOut Y (g.kb p) n (((kids L p).map g.nd).take i ++ nb :: ((kids L p).map g.nd).drop i) e w2 q' c' ex') :
    PutOut W d S (insA L a) (w2.setCell ⟨g.nd p, 4, none⟩ (.slice (some ⟨q', 0, none⟩) (n + 1) c')) (fun k => S k ∨ k = nb ∨ k = q') (insG g a.nm p nb q' c' ex') ∧ w2.cell? ⟨g.nd p, 4, none⟩ = some (ksl g L p) ∧ w2.frozen? ⟨g.nd p, 4, none⟩ = false := by
  have hpN : isN L p := by rw [← hp]; exact isN_par ha
  have hXS := hX.size
  have yz : Y.heap.size = X.heap.size + 2 := by rw [hY]; simp
  have yk : ∀ k, k < X.heap.size → Y.heap[k]? = X.heap[k]? := fun k hk => by
    rw [hY]
    exact (Below.heap_alloc _ _ _ (by rw [World.size_alloc]; show k < X.heap.size + 1; omega)).trans (Below.heap_alloc X.drew _ _ hk)
  have ynb : Y.heap[nb]? = some (.cells (cellsA a (.slice none 0 0)) 258) := by
    rw [hY, hnb]
    exact (Below.heap_alloc _ _ _ (by rw [World.size_alloc]; show X.heap.size < X.heap.size + 1; omega)).trans (World.alloc_heap_new X.drew _)
  have yW : ∀ k, k < W.heap.size → Y.heap[k]? = W.heap[k]? := fun k hk => (yk k (by omega)).trans (hX.block k hk)
  have hCY : ChAt Y d S L g := hC.keep (fun k hk => yW k (hS k hk))
  obtain ⟨cp, tp, hcp, htp⟩ : ∃ cp tp, Y.heap[g.nd p]? = some (.cells cp tp) ∧ cp[4]? = some (ksl g L p) ∧ tp ≠ 263 := by
    rcases hpN with e | ⟨b, hb, e⟩
    · rw [e, hCY.top]
      exact ⟨_, _, hCY.tn, rfl, by decide⟩
    · rw [← e]
      exact ⟨_, _, hCY.node b hb, rfl, by decide⟩
  have hSp : S (g.nd p) := by
    rcases hpN with e | ⟨b, hb, e⟩
    · rw [e, hC.top]; exact hC.sd
    · rw [← e]; exact hC.sn b hb
  have hpW : g.nd p < W.heap.size := hS _ hSp
  have hrowT : ∀ q, g.kb p = some q → ∃ c, Y.heap[q]? = some (.cells c 263) := fun q e => by
    rcases hCY.row p hpN with ⟨_, h2, _⟩ | ⟨q2, h1, h2, _⟩
    · rw [e] at h2; cases h2
    · rw [e] at h1
      injection h1 with h1
      subst h1
      exact ⟨_, h2⟩
  have hnpq : some (g.nd p) ≠ g.kb p := fun e => by
    obtain ⟨c, hc⟩ := hrowT _ e.symm
    rw [hcp] at hc
    injection hc with hc
    injection hc with _ hc
    exact htp.2 hc
  have hnbq : some nb ≠ g.kb p := fun e => by
    have := hS _ (hC.sq p nb hpN e.symm)
    omega
  have w2p : w2.heap[g.nd p]? = some (.cells cp tp) := (h.blk _ (by omega) hnpq).trans hcp
  have hq'p : q' ≠ g.nd p := fun e => by
    rcases h.new with h1 | h1
    · rw [e] at h1; exact hnpq h1
    · omega
  refine ⟨⟨?_, ?_, ?_, ?_⟩, cell_of w2p htp.1, froz_of w2p 4⟩
  · refine hCY.ins hG ha hp hi ?_ ?_ (by rw [← hn]; exact h.cap) h.big (fun arr t harr => ?_) (fun k hk h1 h2 => ?_)
    · exact (Below.heap_setCell _ _ _ _ (by show nb ≠ g.nd p; omega)).trans ((h.blk nb (by omega) hnbq).trans ynb)
    · exact (Below.heap_setCell _ _ _ _ hq'p).trans h.row
    · rw [hcp] at harr
      injection harr with harr
      injection harr with h1 h2
      subst h1
      subst h2
      rw [← hn]
      exact heap_set w2p _
    · have hkW := hS k hk
      exact (Below.heap_setCell _ _ _ _ h1).trans (h.blk k (by omega) (fun e => h2 e.symm))
  · rintro k (hk | hk | hk)
    · exact .inl hk
    · right; omega
    · rcases h.new with h1 | h1
      · rw [hk]; exact .inl (hC.sq p q' hpN h1.symm)
      · right; omega
  · intro k hk
    have hz := h.size
    rcases hk with hk | hk | hk
    · have := hS k hk; simp; omega
    · simp; omega
    · have := (Array.getElem?_eq_some_iff.1 h.row).1
      simp
      omega
  · refine ⟨h.os.trans (by rw [hY]; exact hX.os), h.tape.trans (by rw [hY]; exact hX.tape), h.out.trans (by rw [hY]; exact hX.output), by have := h.size; simp; omega, fun k hk hks => ?_⟩
    refine (Below.heap_setCell _ _ _ _ (fun e => hks (by rw [show k = g.nd p from e]; exact hSp))).trans ((h.blk k (by omega) (fun e => hks (hC.sq p k hpN e.symm))).trans (yW k hk))
theorem spl_tot (l : Nm) : ((spl l).map fun p => p.length + 1).sum = l.length + 1 := by
  induction l with
  | nil => simp [spl]
  | cons c l ih =>
    by_cases hc : c = 58
    · rw [spl, if_pos hc, List.map_cons, List.sum_cons, ih]
      simp
      omega
    · obtain ⟨h, t, e⟩ := spl_ne l
      rw [e] at ih
      rw [spl_cons hc e]
      simp at ih ⊢
      omega
theorem name_short {l : Nm} (h : nameL l = true) : l.length ≤ 101 := by
  unfold nameL at h
  simp only [Bool.and_eq_true, decide_eq_true_eq, List.all_eq_true] at h
  have h1 := spl_tot l
  have h2 : ∀ ps : List Nm, (∀ p ∈ ps, p.length ≤ 16) → (ps.map fun p => p.length + 1).sum ≤ ps.length * 17 := fun ps => by
    induction ps with
    | nil => simp
    | cons p ps ih =>
      intro hp
      have a1 := ih (fun q hq => hp q (List.mem_cons_of_mem _ hq))
      have a2 := hp p (List.mem_cons_self ..)
      simp at a1 ⊢
      omega
  have h3 := h2 (spl l) (fun p hp => by
    have := h.2 p hp
    unfold partL at this
    simp only [Bool.and_eq_true, decide_eq_true_eq] at this
    exact this.1.1.2)
  have h4 := spl_len l
  rw [h1] at h3
  omega
theorem name_size {l : Nm} (h : nameL l = true) : (txN l).size < 4611686018427387904 := by
  have := name_short h
  show l.toArray.size < _
  simp
  omega
set_option maxRecDepth 100000 in
set_option maxHeartbeats 8000000 in
theorem put_any {W : World} {d : Nat} {S : Nat → Prop} {L : List Ac} {g : Gh} (h : ChAt W d S L g) (hG : Good L) (hS : ∀ k, S k → k < W.heap.size) {a : Ac} (ha : Fits L a) :
    Calls Tryz.prog 183 #[ptr d, .agg #[.string (txN a.nm), .int .i64 a.ty, .int .i64 a.dy, .bool a.cl]] W fun e w' => e = .returned (.tuple #[]) ∧ ∃ S' g', PutOut W d S (insA L a) w' S' g' := by
  have hsz : (txN a.nm).size < 4611686018427387904 := by
    exact name_size ha.nam
  have dP := hide (parent_any (txN a.nm) hsz)
  rw [txN_list] at dP
  have HC := hide h; have HG := hide hG; have HS := hide hS; have HA := hide ha
  obtain ⟨p, hp⟩ : ∃ p, p = par a.nm := ⟨_, rfl⟩
  have hpN : isN L p := by rw [hp]; exact isN_par ha
  have HPN := hide hpN; have HP := hide hp
  have htop := h.top
  rcases ups_cases a.nm with e | ⟨p2, e, _, _⟩
  · have e1 : parS a.nm = (⟨#[]⟩, false) := by rw [parS, if_pos ha.nam, e]
    rw [e1] at dP
    have hp0 : p = [] := by rw [hp, par, e]; rfl
    have HP0 := hide hp0
    clear e1 e hpN h hG hS ha hp hp0
    go_enter Tryz.func183, Tryz.ntmps183
    go_upto_region 3 with (go_at_call 216; refine (unhide dP _).mono ?_; rintro e X ⟨rfl, hbX⟩)
    have XB : Hid (Below W.heap.size W X) := ((Below.refl _ W).alloc (Nat.le_refl _) _).trans (hbX.mono (by simp))
    have BX : Hid (X.heap[W.heap.size]? = some (.cells #[.string (txN a.nm), .int .i64 a.ty, .int .i64 a.dy, .bool a.cl] 139)) := (hbX.block W.heap.size (by simp)).trans (World.alloc_heap_new W _)
    have hCX : ChAt X d S L g := (unhide HC).keep (fun k hk => (unhide XB).block k (unhide HS k hk))
    have dPl := hide (place_any hCX (unhide HG) (unhide HPN) (txN a.nm))
    rw [txN_list] at dPl
    clear hbX
    obtain ⟨po, hpo⟩ : ∃ po, po = posK (kids L p) a.nm := ⟨_, rfl⟩
    rw [← hpo] at dPl
    obtain ⟨n, hn⟩ : ∃ n, n = (kids L p).length := ⟨_, rfl⟩
    have hpon : po ≤ n := by rw [hpo, hn]; exact posK_le _ _
    have hc4 : X.cell? ⟨g.nd p, 4, none⟩ = some (ksl g L p) := hCX.kids4 (unhide HPN)
    have kA0 : X.cell? ⟨W.heap.size, 0, none⟩ = some (.string (txN a.nm)) := cell_of (unhide BX) rfl
    have kA1 : X.cell? ⟨W.heap.size, 1, none⟩ = some (.int .i64 a.ty) := cell_of (unhide BX) rfl
    have kA2 : X.cell? ⟨W.heap.size, 2, none⟩ = some (.int .i64 a.dy) := cell_of (unhide BX) rfl
    have kA3 : X.cell? ⟨W.heap.size, 3, none⟩ = some (.bool a.cl) := cell_of (unhide BX) rfl
    obtain ⟨Y, hY⟩ : ∃ Y, Y = (X.drew.alloc (.cells (cellsA a (.slice none 0 0)) 258)).alloc (.cells #[ptr X.heap.size] 263) := ⟨_, rfl⟩
    have hCY : ChAt Y d S L g := by
      refine hCX.keep (fun k hk => ?_)
      have h1 := unhide HS k hk
      have h2 := (unhide XB).size
      rw [hY]
      exact (Below.heap_alloc _ _ _ (by rw [World.size_alloc]; show k < X.heap.size + 1; omega)).trans (Below.heap_alloc X.drew _ _ (by show k < X.heap.size; omega))
    have hvY : Y.heap[X.heap.size + 1]? = some (.cells #[ptr X.heap.size] 263) := by
      rw [hY]
      have := World.alloc_heap_new (X.drew.alloc (.cells (cellsA a (.slice none 0 0)) 258)) (.cells #[ptr X.heap.size] 263)
      rw [World.size_alloc] at this
      exact this
    have dIn := hide (insert_all hCY (unhide HG) (unhide HPN) hpon hn hvY (fun h => by have h1 := unhide HS _ h; have h2 := (unhide XB).size; omega))
    obtain ⟨np, hnp⟩ : ∃ np, np = g.nd p := ⟨_, rfl⟩
    rw [← hnp] at dPl hc4
    obtain ⟨sl, hsl⟩ : ∃ sl, sl = ksl g L p := ⟨_, rfl⟩
    rw [← hsl] at hc4 dIn
    have HY := hide hY; have HNP := hide hnp; have HPO := hide hpo; have HN := hide hn; have HSL := hide hsl
    have hsl2 : ∃ pp nn cc, sl = .slice pp nn cc := ⟨_, _, _, hsl⟩
    obtain ⟨pp, nn, cc, rfl⟩ := hsl2
    have hnd : np = d := by rw [hnp, unhide HP0]; exact htop
    clear hCX hCY hvY hnp hpo hn hsl hY htop
    subst hnd
    go_upto_region 6 with (go_at_call 219; refine (unhide dPl).mono ?_; rintro e w9 ⟨rfl, hw9⟩; rw [hw9]; clear hw9 w9)
    refine wp_region_last (n := 13) (S := fun W' => W'.cell? ⟨np, 4, none⟩ = some (.slice pp nn cc) ∧ W'.cell? ⟨W.heap.size, 0, none⟩ = some (.string (txN a.nm)) ∧ W'.cell? ⟨W.heap.size, 1, none⟩ = some (.int .i64 a.ty) ∧ W'.cell? ⟨W.heap.size, 2, none⟩ = some (.int .i64 a.dy) ∧ W'.cell? ⟨W.heap.size, 3, none⟩ = some (.bool a.cl)) (by kernel_rfl) (by exact ⟨hc4, kA0, kA1, kA2, kA3⟩) (fun hHeld => ?_)
    refine tkW 0 ?_; refine tkW 1 ?_; refine tkW 2 ?_; refine tkW 3 ?_; refine tkS 4 ?_; refine tkW 5 ?_; refine tkS 6 ?_; refine tkW 7 ?_
    clear hHeld
    have cY1 : ∀ (b k : Nat) (v : Value), X.cell? ⟨b, k, none⟩ = some v → (X.drew.alloc (.cells (cellsA a (.slice none 0 0)) 258)).cell? ⟨b, k, none⟩ = some v := fun b k v hv => (World.cell?_alloc_lt X.drew _ ⟨b, k, none⟩ (World.block_lt_of_cell? X _ hv)).trans hv
    have cY2 : ∀ (b k : Nat) (v : Value), X.cell? ⟨b, k, none⟩ = some v → Y.cell? ⟨b, k, none⟩ = some v := fun b k v hv => by rw [unhide HY]; exact (World.cell?_alloc_lt _ _ ⟨b, k, none⟩ (World.block_lt_of_cell? _ _ (cY1 b k v hv))).trans (cY1 b k v hv)
    have S1 := hide (And.intro (cY1 _ _ _ hc4) (And.intro (cY1 _ _ _ kA0) (And.intro (cY1 _ _ _ kA1) (And.intro (cY1 _ _ _ kA2) (cY1 _ _ _ kA3)))))
    have S2 := hide (And.intro (cY2 _ _ _ hc4) (And.intro (cY2 _ _ _ kA0) (And.intro (cY2 _ _ _ kA1) (And.intro (cY2 _ _ _ kA2) (cY2 _ _ _ kA3)))))
    clear cY1 cY2
    refine wpAnyL_one (i := 8) (by kernel_rfl) rfl (fun KK hK => ?_)
    go_simp
    refine hK.out _ _ (unhide S1) (fun hHeld => ?_)
    clear hK KK hHeld
    refine wpAnyL_one (i := 9) (by kernel_rfl) rfl (fun KK hK => ?_)
    go_simp
    refine hK.out _ _ (by have h := unhide S2; rw [unhide HY] at h; exact h) (fun hHeld => ?_)
    clear hK KK hHeld
    change wpAnyL _ _ _ _ _ _ _ _ _ ((X.drew.alloc (.cells (cellsA a (.slice none 0 0)) 258)).alloc (.cells #[ptr X.heap.size] 263))
    rw [← unhide HY]
    refine wpAnyL_one (i := 10) (by kernel_rfl) rfl (fun KK hK => ?_)
    go_simp
    go_wp2_with (first | (go_at_call 220; refine (unhide dIn).mono ?_; rintro e w2 ⟨q', c', ex', hio⟩; have he := hio.res; subst he))
    obtain ⟨hPO, h4b, f4b⟩ := put_fin (unhide HC) (unhide HG) (unhide HS) (unhide HA) (unhide HP).symm (unhide HPO) (unhide HN) (unhide XB) (unhide HY) rfl hio
    rw [← unhide HNP] at hPO h4b f4b
    have hAb : w2.heap[W.heap.size]? = some (.cells #[.string (txN a.nm), .int .i64 a.ty, .int .i64 a.dy, .bool a.cl] 139) := by
      have hz := (Array.getElem?_eq_some_iff.1 (unhide BX)).1
      have hYA : Y.heap[W.heap.size]? = some (.cells #[.string (txN a.nm), .int .i64 a.ty, .int .i64 a.dy, .bool a.cl] 139) := by
        rw [unhide HY]
        exact (Below.heap_alloc _ _ _ (by rw [World.size_alloc]; show W.heap.size < X.heap.size + 1; omega)).trans ((Below.heap_alloc X.drew _ _ hz).trans (unhide BX))
      refine (hio.blk _ (Array.getElem?_eq_some_iff.1 hYA).1 (fun e => ?_)).trans hYA
      have := unhide HS _ ((unhide HC).sq p _ (unhide HPN) e.symm)
      omega
    have h4c : w2.cell? ⟨np, 4, none⟩ = some (.slice pp nn cc) := by rw [h4b, ← unhide HSL]
    have HPO2 := hide hPO
    refine hK.out _ _ ⟨h4c, cell_of hAb rfl, cell_of hAb rfl, cell_of hAb rfl, cell_of hAb rfl⟩ (fun hHeld => ?_)
    clear hK KK hPO h4b hAb hio
    refine tkW 11 ?_; refine tkW 12 ?_
    clear hHeld
    refine wpAnyL_past (i := 13) (by kernel_rfl) rfl (by kernel_rfl) (fun KK hK => ?_)
    go_simp
    refine hK.out _ _ ?_
    clear hK KK
    refine wpAnyL_done (by kernel_rfl) ?_
    go_wp2
    go_end0
    exact ⟨rfl, _, _, unhide HPO2⟩
  · have e1 : parS a.nm = (⟨p2.toArray⟩, true) := by rw [parS, if_pos ha.nam, e]
    rw [e1] at dP
    have hp0 : p = p2 := by rw [hp, par, e]; rfl
    have hpn : ∃ b ∈ L, b.nm = p := by
      rcases hpN with h0 | h0
      · have := name_ne (ha.nam)
        exfalso
        obtain ⟨b, hb, e2, _⟩ := ha.up p2 _ e
        exact name_ne (hG.name b hb) (e2.trans (hp0.symm.trans h0))
      · exact h0
    obtain ⟨np, hnp⟩ : ∃ np, np = g.nd p := ⟨_, rfl⟩
    have HSK : Hid (seekV g L p = ptr np) := by show _ = _; rw [seekV, if_pos hpn, hnp]
    have HNP0 := hide hnp
    have hpz : (txN p).size < 4611686018427387904 := by obtain ⟨b, hb, e2⟩ := hpn; rw [← e2]; exact name_size (hG.name b hb)
    rw [← hp0] at dP
    clear e1 e hpN h hG hS ha hp hp0 hpn hnp htop
    go_enter Tryz.func183, Tryz.ntmps183
    go_upto_region 4 with (go_at_call 216; refine (unhide dP _).mono ?_; rintro e X0 ⟨rfl, hbX0⟩)
    have XB0 : Hid (Below W.heap.size W X0) := ((Below.refl _ W).alloc (Nat.le_refl _) _).trans (hbX0.mono (by simp))
    have BX0 : Hid (X0.heap[W.heap.size]? = some (.cells #[.string (txN a.nm), .int .i64 a.ty, .int .i64 a.dy, .bool a.cl] 139)) := (hbX0.block W.heap.size (by simp)).trans (World.alloc_heap_new W _)
    have z0 : Hid (W.heap.size < X0.heap.size) := (Array.getElem?_eq_some_iff.1 (unhide BX0)).1
    have hC0 : ChAt X0 d S L g := (unhide HC).keep (fun k hk => (unhide XB0).block k (unhide HS k hk))
    have dSk := hide (seek_any hC0 (unhide HG) (fun k hk => Nat.lt_of_lt_of_le (unhide HS k hk) (unhide XB0).size) (txN p) hpz)
    rw [txN_list, unhide HSK] at dSk
    clear hbX0 hC0
    go_upto_region 5 with (go_at_call 218; refine (unhide dSk).mono ?_; rintro e X ⟨rfl, hbX⟩)
    have XB : Hid (Below W.heap.size W X) := (unhide XB0).trans (hbX.mono (unhide XB0).size)
    have BX : Hid (X.heap[W.heap.size]? = some (.cells #[.string (txN a.nm), .int .i64 a.ty, .int .i64 a.dy, .bool a.cl] 139)) := (hbX.block W.heap.size (unhide z0)).trans (unhide BX0)
    have hCX : ChAt X d S L g := (unhide HC).keep (fun k hk => (unhide XB).block k (unhide HS k hk))
    have dPl := hide (place_any hCX (unhide HG) (unhide HPN) (txN a.nm))
    rw [txN_list] at dPl
    clear hbX dSk
    obtain ⟨po, hpo⟩ : ∃ po, po = posK (kids L p) a.nm := ⟨_, rfl⟩
    rw [← hpo] at dPl
    obtain ⟨n, hn⟩ : ∃ n, n = (kids L p).length := ⟨_, rfl⟩
    have hpon : po ≤ n := by rw [hpo, hn]; exact posK_le _ _
    have hc4 : X.cell? ⟨g.nd p, 4, none⟩ = some (ksl g L p) := hCX.kids4 (unhide HPN)
    have kA0 : X.cell? ⟨W.heap.size, 0, none⟩ = some (.string (txN a.nm)) := cell_of (unhide BX) rfl
    have kA1 : X.cell? ⟨W.heap.size, 1, none⟩ = some (.int .i64 a.ty) := cell_of (unhide BX) rfl
    have kA2 : X.cell? ⟨W.heap.size, 2, none⟩ = some (.int .i64 a.dy) := cell_of (unhide BX) rfl
    have kA3 : X.cell? ⟨W.heap.size, 3, none⟩ = some (.bool a.cl) := cell_of (unhide BX) rfl
    obtain ⟨Y, hY⟩ : ∃ Y, Y = (X.drew.alloc (.cells (cellsA a (.slice none 0 0)) 258)).alloc (.cells #[ptr X.heap.size] 263) := ⟨_, rfl⟩
    have hCY : ChAt Y d S L g := by
      refine hCX.keep (fun k hk => ?_)
      have h1 := unhide HS k hk
      have h2 := (unhide XB).size
      rw [hY]
      exact (Below.heap_alloc _ _ _ (by rw [World.size_alloc]; show k < X.heap.size + 1; omega)).trans (Below.heap_alloc X.drew _ _ (by show k < X.heap.size; omega))
    have hvY : Y.heap[X.heap.size + 1]? = some (.cells #[ptr X.heap.size] 263) := by
      rw [hY]
      have := World.alloc_heap_new (X.drew.alloc (.cells (cellsA a (.slice none 0 0)) 258)) (.cells #[ptr X.heap.size] 263)
      rw [World.size_alloc] at this
      exact this
    have dIn := hide (insert_all hCY (unhide HG) (unhide HPN) hpon hn hvY (fun h => by have h1 := unhide HS _ h; have h2 := (unhide XB).size; omega))
    have hnp := unhide HNP0
    rw [← hnp] at dPl hc4
    obtain ⟨sl, hsl⟩ : ∃ sl, sl = ksl g L p := ⟨_, rfl⟩
    rw [← hsl] at hc4 dIn
    have HY := hide hY; have HNP := hide hnp; have HPO := hide hpo; have HN := hide hn; have HSL := hide hsl
    have hsl2 : ∃ pp nn cc, sl = .slice pp nn cc := ⟨_, _, _, hsl⟩
    obtain ⟨pp, nn, cc, rfl⟩ := hsl2
    clear hCX hCY hvY hnp hpo hn hsl hY
    go_upto_region 6 with (go_at_call 219; refine (unhide dPl).mono ?_; rintro e w9 ⟨rfl, hw9⟩; rw [hw9]; clear hw9 w9)
    refine wp_region_last (n := 13) (S := fun W' => W'.cell? ⟨np, 4, none⟩ = some (.slice pp nn cc) ∧ W'.cell? ⟨W.heap.size, 0, none⟩ = some (.string (txN a.nm)) ∧ W'.cell? ⟨W.heap.size, 1, none⟩ = some (.int .i64 a.ty) ∧ W'.cell? ⟨W.heap.size, 2, none⟩ = some (.int .i64 a.dy) ∧ W'.cell? ⟨W.heap.size, 3, none⟩ = some (.bool a.cl)) (by kernel_rfl) (by exact ⟨hc4, kA0, kA1, kA2, kA3⟩) (fun hHeld => ?_)
    refine tkW 0 ?_; refine tkW 1 ?_; refine tkW 2 ?_; refine tkW 3 ?_; refine tkS 4 ?_; refine tkW 5 ?_; refine tkS 6 ?_; refine tkW 7 ?_
    clear hHeld
    have cY1 : ∀ (b k : Nat) (v : Value), X.cell? ⟨b, k, none⟩ = some v → (X.drew.alloc (.cells (cellsA a (.slice none 0 0)) 258)).cell? ⟨b, k, none⟩ = some v := fun b k v hv => (World.cell?_alloc_lt X.drew _ ⟨b, k, none⟩ (World.block_lt_of_cell? X _ hv)).trans hv
    have cY2 : ∀ (b k : Nat) (v : Value), X.cell? ⟨b, k, none⟩ = some v → Y.cell? ⟨b, k, none⟩ = some v := fun b k v hv => by rw [unhide HY]; exact (World.cell?_alloc_lt _ _ ⟨b, k, none⟩ (World.block_lt_of_cell? _ _ (cY1 b k v hv))).trans (cY1 b k v hv)
    have S1 := hide (And.intro (cY1 _ _ _ hc4) (And.intro (cY1 _ _ _ kA0) (And.intro (cY1 _ _ _ kA1) (And.intro (cY1 _ _ _ kA2) (cY1 _ _ _ kA3)))))
    have S2 := hide (And.intro (cY2 _ _ _ hc4) (And.intro (cY2 _ _ _ kA0) (And.intro (cY2 _ _ _ kA1) (And.intro (cY2 _ _ _ kA2) (cY2 _ _ _ kA3)))))
    clear cY1 cY2
    refine wpAnyL_one (i := 8) (by kernel_rfl) rfl (fun KK hK => ?_)
    go_simp
    refine hK.out _ _ (unhide S1) (fun hHeld => ?_)
    clear hK KK hHeld
    refine wpAnyL_one (i := 9) (by kernel_rfl) rfl (fun KK hK => ?_)
    go_simp
    refine hK.out _ _ (by have h := unhide S2; rw [unhide HY] at h; exact h) (fun hHeld => ?_)
    clear hK KK hHeld
    change wpAnyL _ _ _ _ _ _ _ _ _ ((X.drew.alloc (.cells (cellsA a (.slice none 0 0)) 258)).alloc (.cells #[ptr X.heap.size] 263))
    rw [← unhide HY]
    refine wpAnyL_one (i := 10) (by kernel_rfl) rfl (fun KK hK => ?_)
    go_simp
    go_wp2_with (first | (go_at_call 220; refine (unhide dIn).mono ?_; rintro e w2 ⟨q', c', ex', hio⟩; have he := hio.res; subst he))
    obtain ⟨hPO, h4b, f4b⟩ := put_fin (unhide HC) (unhide HG) (unhide HS) (unhide HA) (unhide HP).symm (unhide HPO) (unhide HN) (unhide XB) (unhide HY) rfl hio
    rw [← unhide HNP] at hPO h4b f4b
    have hAb : w2.heap[W.heap.size]? = some (.cells #[.string (txN a.nm), .int .i64 a.ty, .int .i64 a.dy, .bool a.cl] 139) := by
      have hz := (Array.getElem?_eq_some_iff.1 (unhide BX)).1
      have hYA : Y.heap[W.heap.size]? = some (.cells #[.string (txN a.nm), .int .i64 a.ty, .int .i64 a.dy, .bool a.cl] 139) := by
        rw [unhide HY]
        exact (Below.heap_alloc _ _ _ (by rw [World.size_alloc]; show W.heap.size < X.heap.size + 1; omega)).trans ((Below.heap_alloc X.drew _ _ hz).trans (unhide BX))
      refine (hio.blk _ (Array.getElem?_eq_some_iff.1 hYA).1 (fun e => ?_)).trans hYA
      have := unhide HS _ ((unhide HC).sq p _ (unhide HPN) e.symm)
      omega
    have h4c : w2.cell? ⟨np, 4, none⟩ = some (.slice pp nn cc) := by rw [h4b, ← unhide HSL]
    have HPO2 := hide hPO
    refine hK.out _ _ ⟨h4c, cell_of hAb rfl, cell_of hAb rfl, cell_of hAb rfl, cell_of hAb rfl⟩ (fun hHeld => ?_)
    clear hK KK hPO h4b hAb hio
    refine tkW 11 ?_; refine tkW 12 ?_
    clear hHeld
    refine wpAnyL_past (i := 13) (by kernel_rfl) rfl (by kernel_rfl) (fun KK hK => ?_)
    go_simp
    refine hK.out _ _ ?_
    clear hK KK
    refine wpAnyL_done (by kernel_rfl) ?_
    go_wp2
    go_end0
    exact ⟨rfl, _, _, unhide HPO2⟩
open Go Go.Shelf Go.ChangeShapes Go.WideShapes Go.ChangeAt Go.RowKit Go.Maps Go.Sort
set_option linter.unusedVariables false
structure Ct (W : World) (d : Nat) (S : Nat → Prop) (L : List Ac) (g : Gh) : Prop where
  ch : ChAt W d S L g
  good : Good L
  inh : ∀ k, S k → k < W.heap.size
theorem Ct.below {W W' : World} {d : Nat} {S : Nat → Prop} {L : List Ac} {g : Gh} (h : Ct W d S L g) (hb : Below W.heap.size W W') : Ct W' d S L g :=
  ⟨h.ch.keep (fun k hk => hb.block k (h.inh k hk)), h.good, fun k hk => Nat.lt_of_lt_of_le (h.inh k hk) hb.size⟩
theorem isDay_any (z : Int) (w : World) : Calls Tryz.prog 215 #[.int .i64 z] w fun e w' => e = .returned (.bool (decide (1 ≤ z ∧ z ≤ 3652059))) ∧ w' = w := by
  by_cases h1 : 1 ≤ z
  · by_cases h2 : z ≤ 3652059
    · rw [decide_eq_true ⟨h1, h2⟩]
      go_enter Tryz.func215, Tryz.ntmps215
      go_wp2
      go_ret
      exact ⟨rfl, rfl⟩
    · rw [decide_eq_false (fun h => h2 h.2)]
      go_enter Tryz.func215, Tryz.ntmps215
      go_wp2
      go_ret
      exact ⟨rfl, rfl⟩
  · rw [decide_eq_false (fun h => h1 h.1)]
    go_enter Tryz.func215, Tryz.ntmps215
    go_wp2
    go_ret
    exact ⟨rfl, rfl⟩
theorem isType_any (z : Int) (w : World) : Calls Tryz.prog 217 #[.int .i64 z] w fun e w' => e = .returned (.bool (decide (1 ≤ z ∧ z ≤ 5))) ∧ w' = w := by
  by_cases h1 : 1 ≤ z
  · by_cases h2 : z ≤ 5
    · rw [decide_eq_true ⟨h1, h2⟩]
      go_enter Tryz.func217, Tryz.ntmps217
      go_wp2
      go_ret
      exact ⟨rfl, rfl⟩
    · rw [decide_eq_false (fun h => h2 h.2)]
      go_enter Tryz.func217, Tryz.ntmps217
      go_wp2
      go_ret
      exact ⟨rfl, rfl⟩
  · rw [decide_eq_false (fun h => h1 h.1)]
    go_enter Tryz.func217, Tryz.ntmps217
    go_wp2
    go_ret
    exact ⟨rfl, rfl⟩
theorem new_any (w : World) : Calls Tryz.prog 181 #[] w fun e w' => e = .returned (ptr w.heap.size) ∧ w' = w.alloc (.cells (cellsA top0 (.slice none 0 0)) 260) := by
  go_enter Tryz.func181, Tryz.ntmps181
  go_wp2
  go_ret
  exact ⟨rfl, rfl⟩
def g0 (d : Nat) : Gh := ⟨fun _ => d, fun _ => none, fun _ => 0, fun _ => []⟩
theorem good_nil : Good [] := ⟨List.Pairwise.nil, (fun a h => by cases h), (fun a h => by cases h), (fun a h => by cases h), (fun a h => by cases h), by decide⟩
theorem new_ct (w : World) : Ct (w.alloc (.cells (cellsA top0 (.slice none 0 0)) 260)) w.heap.size (fun k => k = w.heap.size) [] (g0 w.heap.size) := by
  refine ⟨⟨rfl, World.alloc_heap_new w _, (fun a h => by cases h), fun x hx => .inl ⟨rfl, rfl, rfl⟩, rfl, (fun a h => by cases h), (fun x q hx h => by cases h)⟩, good_nil, fun k hk => by rw [hk]; simp⟩
theorem seek_none {g : Gh} {L : List Ac} {x : Nm} (h : fnd L x = none) : seekV g L x = .pointer none := by rw [seekV, if_neg (fnd_none h)]
theorem seek_some {g : Gh} {L : List Ac} {x : Nm} {a : Ac} (h : fnd L x = some a) : seekV g L x = ptr (g.nd x) := by
  obtain ⟨h1, h2⟩ := fnd_some h
  rw [seekV, if_pos ⟨a, h1, h2⟩]
theorem Ct.node {W : World} {d : Nat} {S : Nat → Prop} {L : List Ac} {g : Gh} (h : Ct W d S L g) {x : Nm} {a : Ac} (hf : fnd L x = some a) : W.heap[g.nd x]? = some (.cells (cellsA a (ksl g L a.nm)) 258) := by
  obtain ⟨h1, h2⟩ := fnd_some hf
  rw [← h2]
  exact h.ch.node a h1
def acV (a : Ac) : Value := .agg #[.string (txN a.nm), .int .i64 a.ty, .int .i64 a.dy, .bool a.cl]
def vals4 (a : Ac) : List Value := [.string (txN a.nm), .int .i64 a.ty, .int .i64 a.dy, .bool a.cl]
theorem sz41 : (Tryz.prog.info? 139).map (·.size) = some 4 := by kernel_rfl
theorem lv41 {w : World} {b o : Nat} {a : Ac} (h : w.rangeAt b o (vals4 a)) : (loadVar 139 ⟨b, o, none⟩).run Tryz.prog w = .ok (acV a) w := by
  have h1 := run_loadAt_mid (P := Tryz.prog) w b o 139 (vals4 a) _ h Tryz.underlying139 rfl sz41
  have h2 : acV a = .agg (vals4 a).toArray := rfl
  rw [h2]
  simpa only [Instr.loadAt, Instr.sureAddr, Sem.run_bind, Sem.run_pure, Result.andThen_ok] using h1
theorem results_ct {P : Program} {fn : Func} {a b : Nat} {t : TypeId} (h : fn.results = #[.cell a t, .tmp b]) {tmps : Array Value} {ad : Addr} {v u : Value} {w : World} (ha : tmps.getD a undef = .pointer (some ad)) (hb : tmps.getD b undef = u) (hl : (loadVar t ad).run P w = .ok v w) : (results fn tmps).run P w = .ok (.tuple #[v, u]) w := by
  unfold results
  simp only [Array.getD_eq_getD_getElem?] at ha hb
  simp [h, ha, hb, asAddr, hl, Result.andThen]
abbrev st4 (X : World) (b : Nat) (a : Ac) : World := (((X.setCell ⟨b, 0, none⟩ (.string (txN a.nm))).setCell ⟨b, 1, none⟩ (.int .i64 a.ty)).setCell ⟨b, 2, none⟩ (.int .i64 a.dy)).setCell ⟨b, 3, none⟩ (.bool a.cl)
theorem st4_is {X : World} {b : Nat} {c0 c1 c2 c3 : Value} (h : X.heap[b]? = some (.cells #[c0, c1, c2, c3] 139)) (a : Ac) : (st4 X b a).heap[b]? = some (.cells #[.string (txN a.nm), .int .i64 a.ty, .int .i64 a.dy, .bool a.cl] 139) := by
  exact heap_set (heap_set (heap_set (heap_set h _) _) _) _
theorem st4_below {W X : World} {b : Nat} (h : Below W.heap.size W X) (hb : W.heap.size ≤ b) (a : Ac) : Below W.heap.size W (st4 X b a) := (((h.setCell hb _).setCell hb _).setCell hb _).setCell hb _
theorem range4 {X : World} {b : Nat} {a : Ac} (h : X.heap[b]? = some (.cells #[.string (txN a.nm), .int .i64 a.ty, .int .i64 a.dy, .bool a.cl] 139)) : X.rangeAt b 0 (vals4 a) := fun j v hj => cell_of h (by rw [Nat.zero_add]; simpa [vals4] using hj)
def findA (L : List Ac) (x : Nm) : Ac := (fnd L x).getD top0
set_option maxRecDepth 100000 in
set_option maxHeartbeats 2000000 in
theorem find_any {W : World} {d : Nat} {S : Nat → Prop} {L : List Ac} {g : Gh} (h : Ct W d S L g) (t : ByteArray) (ht : t.size < 4611686018427387904) :
    Calls Tryz.prog 184 #[ptr d, .string t] W fun e w' => e = .returned (.tuple #[acV (findA L t.data.toList), .bool (fnd L t.data.toList).isSome]) ∧ Below W.heap.size W w' := by
  have dS0 : ∀ w1, Below W.heap.size W w1 → Calls Tryz.prog 218 #[ptr d, .string t] w1 fun e w' => e = .returned (seekV g L t.data.toList) ∧ Below w1.heap.size w1 w' := fun w1 hb =>
    seek_any (h.below hb).ch h.good (h.below hb).inh t ht
  have dS := hide dS0
  have HC := hide h
  obtain ⟨x, hx⟩ : ∃ x, x = t.data.toList := ⟨_, rfl⟩
  rw [← hx] at dS ⊢
  clear hx h dS0
  cases hf : fnd L x with
  | none =>
    rw [seek_none hf] at dS
    have e1 : findA L x = top0 := by rw [findA, hf]; rfl
    rw [e1]
    clear hf e1
    go_enter Tryz.func184, Tryz.ntmps184
    go_upto_region 2 with (go_at_call 218; refine (unhide dS _ ((Below.refl _ W).alloc (Nat.le_refl _) _)).mono ?_; rintro e X ⟨rfl, hb⟩)
    have r1 : X.heap[W.heap.size]? = some (.cells #[.string ⟨#[]⟩, .int .i64 0, .int .i64 0, .bool false] 139) := (hb.block W.heap.size (by simp)).trans (World.alloc_heap_new W _)
    have B1 : Hid (Below W.heap.size W X) := ((Below.refl _ W).alloc (Nat.le_refl _) _).trans (hb.mono (by simp))
    have k0 : X.cell? ⟨W.heap.size, 0, none⟩ = some (.string ⟨#[]⟩) := cell_of r1 rfl
    have k1 : X.cell? ⟨W.heap.size, 1, none⟩ = some (.int .i64 0) := cell_of r1 rfl
    have k2 : X.cell? ⟨W.heap.size, 2, none⟩ = some (.int .i64 0) := cell_of r1 rfl
    have k3 : X.cell? ⟨W.heap.size, 3, none⟩ = some (.bool false) := cell_of r1 rfl
    have f0 := froz_of r1 0; have f1 := froz_of r1 1; have f2 := froz_of r1 2; have f3 := froz_of r1 3
    have R1 := hide r1
    clear hb r1
    go_wp2
    refine bodyPost_ret (results_ct (v := acV top0) (u := .bool false) Tryz.results184 rfl rfl (lv41 (range4 (st4_is (unhide R1) top0)))) rfl ?_
    exact ⟨rfl, st4_below (unhide B1) (Nat.le_refl _) top0⟩
  | some a =>
    rw [seek_some hf] at dS
    have e1 : findA L x = a := by rw [findA, hf]; rfl
    rw [e1]
    have hnd := (unhide HC).node hf
    obtain ⟨nx, hnx⟩ : ∃ nx, nx = g.nd x := ⟨_, rfl⟩
    rw [← hnx] at hnd dS
    have HND := hide hnd
    clear hf e1 hnx hnd
    go_enter Tryz.func184, Tryz.ntmps184
    go_upto_region 2 with (go_at_call 218; refine (unhide dS _ ((Below.refl _ W).alloc (Nat.le_refl _) _)).mono ?_; rintro e X ⟨rfl, hb⟩)
    have r1 : X.heap[W.heap.size]? = some (.cells #[.string ⟨#[]⟩, .int .i64 0, .int .i64 0, .bool false] 139) := (hb.block W.heap.size (by simp)).trans (World.alloc_heap_new W _)
    have b1 : Below W.heap.size W X := ((Below.refl _ W).alloc (Nat.le_refl _) _).trans (hb.mono (by simp))
    have hX : X.heap[nx]? = some (.cells (cellsA a (ksl g L a.nm)) 258) := (b1.block nx (Array.getElem?_eq_some_iff.1 (unhide HND)).1).trans (unhide HND)
    have B1 := hide b1
    have n0 : X.cell? ⟨nx, 0, none⟩ = some (.string (txN a.nm)) := cell_of hX rfl
    have n1 : X.cell? ⟨nx, 1, none⟩ = some (.int .i64 a.ty) := cell_of hX rfl
    have n2 : X.cell? ⟨nx, 2, none⟩ = some (.int .i64 a.dy) := cell_of hX rfl
    have n3 : X.cell? ⟨nx, 3, none⟩ = some (.bool a.cl) := cell_of hX rfl
    have k0 : X.cell? ⟨W.heap.size, 0, none⟩ = some (.string ⟨#[]⟩) := cell_of r1 rfl
    have k1 : X.cell? ⟨W.heap.size, 1, none⟩ = some (.int .i64 0) := cell_of r1 rfl
    have k2 : X.cell? ⟨W.heap.size, 2, none⟩ = some (.int .i64 0) := cell_of r1 rfl
    have k3 : X.cell? ⟨W.heap.size, 3, none⟩ = some (.bool false) := cell_of r1 rfl
    have f0 := froz_of r1 0; have f1 := froz_of r1 1; have f2 := froz_of r1 2; have f3 := froz_of r1 3
    have R1 := hide r1
    clear hb r1 b1 hX
    go_wp2
    refine bodyPost_ret (results_ct (v := acV a) (u := .bool true) Tryz.results184 rfl rfl (lv41 (range4 (st4_is (unhide R1) a)))) rfl ?_
    exact ⟨rfl, st4_below (unhide B1) (Nat.le_refl _) a⟩
open Go Go.Shelf Go.ChangeShapes Go.WideShapes Go.ChangeAt Go.RowKit Go.Maps Go.Sort
set_option linter.unusedVariables false
def fitB (L : List Ac) (a : Ac) : Bool := nameL a.nm && decide (1 ≤ a.dy ∧ a.dy ≤ 3652059) && (match ups a.nm with
  | [] => decide (1 ≤ a.ty ∧ a.ty ≤ 5)
  | p :: _ => match fnd L p with
    | none => false
    | some b => (b.ty == a.ty) && decide (b.dy ≤ a.dy) && (a.cl || !b.cl))
set_option maxRecDepth 100000 in
set_option maxHeartbeats 4000000 in
theorem fits_any {W : World} {d : Nat} {S : Nat → Prop} {L : List Ac} {g : Gh} (h : Ct W d S L g) (a : Ac) (hsz : (txN a.nm).size < 4611686018427387904) :
    Calls Tryz.prog 182 #[ptr d, acV a] W fun e w' => e = .returned (.bool (fitB L a)) ∧ Below W.heap.size W w' := by
  obtain ⟨F, hF⟩ : ∃ F, F = fitB L a := ⟨_, rfl⟩
  rw [← hF]
  have dG := hide (good_any (txN a.nm) hsz)
  rw [txN_list] at dG
  have dD := hide (isDay_any a.dy)
  have dT := hide (isType_any a.ty)
  have dP := hide (parent_any (txN a.nm) hsz)
  rw [txN_list] at dP
  have HC := hide h
  clear h
  unfold acV
  have HBOX : Hid (∀ X, Below (W.heap.size + 1) (W.alloc (.cells #[.string (txN a.nm), .int .i64 a.ty, .int .i64 a.dy, .bool a.cl] 139)) X → (X.cell? ⟨W.heap.size, 0, none⟩ = some (.string (txN a.nm)) ∧ X.cell? ⟨W.heap.size, 1, none⟩ = some (.int .i64 a.ty) ∧ X.cell? ⟨W.heap.size, 2, none⟩ = some (.int .i64 a.dy) ∧ X.cell? ⟨W.heap.size, 3, none⟩ = some (.bool a.cl)) ∧ Below W.heap.size W X ∧ W.heap.size < X.heap.size) := fun X hb => by
    have r1 : X.heap[W.heap.size]? = some (.cells #[.string (txN a.nm), .int .i64 a.ty, .int .i64 a.dy, .bool a.cl] 139) := (hb.block W.heap.size (by omega)).trans (World.alloc_heap_new W _)
    exact ⟨⟨cell_of r1 rfl, cell_of r1 rfl, cell_of r1 rfl, cell_of r1 rfl⟩, ((Below.refl _ W).alloc (Nat.le_refl _) _).trans (hb.mono (by omega)), (Array.getElem?_eq_some_iff.1 r1).1⟩
  cases hn : nameL a.nm with
  | false =>
    have e1 : F = false := by rw [hF, fitB, hn]; rfl
    subst e1
    rw [hn] at dG
    clear hF hn
    go_enter Tryz.func182, Tryz.ntmps182
    go_upto_region 2 with (go_at_call 76; refine (unhide dG _).mono ?_; rintro e X ⟨rfl, hb⟩; have HB := hide (unhide HBOX X (by rw [World.size_alloc] at hb; exact hb)).2.1; clear hb)
    go_wp2
    go_ret
    exact ⟨rfl, unhide HB⟩
  | true =>
    rw [hn] at dG
    have hrest : F = (decide (1 ≤ a.dy ∧ a.dy ≤ 3652059) && (match ups a.nm with
      | [] => decide (1 ≤ a.ty ∧ a.ty ≤ 5)
      | p :: _ => match fnd L p with
        | none => false
        | some b => (b.ty == a.ty) && decide (b.dy ≤ a.dy) && (a.cl || !b.cl))) := by rw [hF, fitB, hn]; rfl
    clear hF
    cases hd : decide (1 ≤ a.dy ∧ a.dy ≤ 3652059) with
    | false =>
      have e1 : F = false := by rw [hrest, hd]; rfl
      subst e1
      rw [hd] at dD
      clear hrest hn hd
      go_enter Tryz.func182, Tryz.ntmps182
      go_upto_region 2 with (first | (go_at_call 76; refine (unhide dG _).mono ?_; rintro e X ⟨rfl, hb⟩; have hk := unhide HBOX X (by rw [World.size_alloc] at hb; exact hb); have k2 := hk.1.2.2.1; have HB := hide hk.2.1; clear hb hk) | (go_at_call 215; refine (unhide dD _).mono ?_; rintro e X2 ⟨rfl, hX2⟩; subst hX2))
      go_wp2
      go_ret
      exact ⟨rfl, unhide HB⟩
    | true =>
      rw [hd] at dD hrest
      rw [Bool.true_and] at hrest
      clear hd
      rcases ups_cases a.nm with e | ⟨p, e, _⟩
      · have e1 : parS a.nm = (⟨#[]⟩, false) := by rw [parS, if_pos hn, e]
        rw [e1] at dP
        rw [e] at hrest
        have hr2 : F = decide (1 ≤ a.ty ∧ a.ty ≤ 5) := hrest
        rw [← hr2] at dT
        clear hrest hn e e1 hr2
        go_enter Tryz.func182, Tryz.ntmps182
        go_upto_region 3 with (first | (go_at_call 76; refine (unhide dG _).mono ?_; rintro e X ⟨rfl, hb⟩; have hk := unhide HBOX X (by rw [World.size_alloc] at hb; exact hb); have k0 := hk.1.1; have k2 := hk.1.2.2.1; have HK := hide hk; have HX := hide hb; clear hb hk) | (go_at_call 215; refine (unhide dD _).mono ?_; rintro e X2 ⟨rfl, hX2⟩; subst hX2))
        go_upto_region 4 with (go_at_call 216; refine (unhide dP _).mono ?_; rintro e X3 ⟨rfl, hb3⟩)
        have b3 : Below (W.heap.size + 1) (W.alloc (.cells #[.string (txN a.nm), .int .i64 a.ty, .int .i64 a.dy, .bool a.cl] 139)) X3 := by
          have h1 := unhide HX
          rw [World.size_alloc] at h1
          exact h1.trans (hb3.mono (by have := (unhide HK).2.2; omega))
        have hk3 := unhide HBOX X3 b3
        have k1 := hk3.1.2.1
        have HB := hide hk3.2.1
        clear hb3 b3 hk3 k0 k2
        go_wp2_with (go_at_call 217; refine (unhide dT _).mono ?_; rintro e X4 ⟨rfl, hX4⟩; subst hX4)
        go_ret
        exact ⟨rfl, unhide HB⟩
      · have e1 : parS a.nm = (⟨p.toArray⟩, true) := by rw [parS, if_pos hn, e]
        rw [e1] at dP
        rw [e] at hrest
        have hps : (txN p).size < 4611686018427387904 := by
          have h1 : p.length < a.nm.length := by
            have := par_lt (name_ne hn)
            rw [par, e] at this
            exact this
          have h2 : (txN a.nm).size = a.nm.length := by show a.nm.toArray.size = _; simp
          show p.toArray.size < _
          simp
          omega
        have dF0 : ∀ X, Below W.heap.size W X → Calls Tryz.prog 184 #[ptr d, .string (txN p)] X fun e w' => e = .returned (.tuple #[acV (findA L p), .bool (fnd L p).isSome]) ∧ Below X.heap.size X w' := fun X hb => by
          have := find_any ((unhide HC).below hb) (txN p) hps
          rw [txN_list] at this
          exact this
        have dF := hide dF0
        change F = (match fnd L p with | none => false | some b => (b.ty == a.ty) && decide (b.dy ≤ a.dy) && (a.cl || !b.cl)) at hrest
        clear hn e e1 dF0
        cases hf : fnd L p with
        | none =>
          rw [hf] at hrest dF
          have hr2 : F = false := hrest
          subst hr2
          clear hrest hf
          unfold acV at dF
          obtain ⟨b, hb⟩ : ∃ b, b = findA L p := ⟨_, rfl⟩
          rw [← hb] at dF
          clear hb
          go_enter Tryz.func182, Tryz.ntmps182
          go_upto_region 3 with (first | (go_at_call 76; refine (unhide dG _).mono ?_; rintro e X ⟨rfl, hb⟩; have hk := unhide HBOX X (by rw [World.size_alloc] at hb; exact hb); have k0 := hk.1.1; have k2 := hk.1.2.2.1; have HK := hide hk; have HX := hide hb; clear hb hk) | (go_at_call 215; refine (unhide dD _).mono ?_; rintro e X2 ⟨rfl, hX2⟩; subst hX2))
          go_upto_region 4 with (go_at_call 216; refine (unhide dP _).mono ?_; rintro e X3 ⟨rfl, hb3⟩)
          have b3 : Below (W.heap.size + 1) (W.alloc (.cells #[.string (txN a.nm), .int .i64 a.ty, .int .i64 a.dy, .bool a.cl] 139)) X3 := by
            have h1 := unhide HX
            rw [World.size_alloc] at h1
            exact h1.trans (hb3.mono (by have := (unhide HK).2.2; omega))
          have hk3 := unhide HBOX X3 b3
          have dF3 := hide (unhide dF X3 hk3.2.1)
          have B3 := hide b3
          clear hb3 b3 hk3 k0 k2
          go_upto_region 7 with (go_at_call 184; refine (unhide dF3).mono ?_; rintro e X4 ⟨rfl, hb4⟩)
          have b4 := (unhide B3).trans (hb4.mono (by have := (unhide B3).size; rw [World.size_alloc] at this; omega))
          have HB := hide (unhide HBOX X4 b4).2.1
          clear hb4 b4
          go_wp2
          go_ret
          exact ⟨rfl, (unhide HB).alloc (unhide HB).size _⟩
        | some b =>
          have hfb : findA L p = b := by rw [findA, hf]; rfl
          rw [hf] at hrest dF
          rw [hfb] at dF
          have hr2 : F = ((b.ty == a.ty) && decide (b.dy ≤ a.dy) && (a.cl || !b.cl)) := hrest
          clear hrest hf hfb
          unfold acV at dF
          by_cases h1 : b.ty = a.ty
          · have h1b : (b.ty == a.ty) = true := by simp [h1]
            by_cases h2 : b.dy ≤ a.dy
            · rcases Bool.eq_false_or_eq_true a.cl with h3 | h3
              · have e1 : F = true := by rw [hr2, h1b, decide_eq_true h2, h3]; rfl
                subst e1
                have H3 := hide h3
                clear hr2 h3 h1
                go_enter Tryz.func182, Tryz.ntmps182
                go_upto_region 3 with (first | (go_at_call 76; refine (unhide dG _).mono ?_; rintro e X ⟨rfl, hb⟩; have hk := unhide HBOX X (by rw [World.size_alloc] at hb; exact hb); have k0 := hk.1.1; have k2 := hk.1.2.2.1; have HK := hide hk; have HX := hide hb; clear hb hk) | (go_at_call 215; refine (unhide dD _).mono ?_; rintro e X2 ⟨rfl, hX2⟩; subst hX2))
                go_upto_region 4 with (go_at_call 216; refine (unhide dP _).mono ?_; rintro e X3 ⟨rfl, hb3⟩)
                have b3 : Below (W.heap.size + 1) (W.alloc (.cells #[.string (txN a.nm), .int .i64 a.ty, .int .i64 a.dy, .bool a.cl] 139)) X3 := by
                  have h1 := unhide HX
                  rw [World.size_alloc] at h1
                  exact h1.trans (hb3.mono (by have := (unhide HK).2.2; omega))
                have hk3 := unhide HBOX X3 b3
                have dF3 := hide (unhide dF X3 hk3.2.1)
                have B3 := hide b3
                clear hb3 b3 hk3 k0 k2
                go_upto_region 7 with (go_at_call 184; refine (unhide dF3).mono ?_; rintro e X4 ⟨rfl, hb4⟩)
                have b4 := (unhide B3).trans (hb4.mono (by have := (unhide B3).size; rw [World.size_alloc] at this; omega))
                have hk4 := unhide HBOX X4 b4
                have HB := hide hk4.2.1
                have m1 : ∀ o, (X4.alloc o).cell? ⟨W.heap.size, 1, none⟩ = some (.int .i64 a.ty) := fun o => (World.cell?_alloc_lt X4 o ⟨W.heap.size, 1, none⟩ hk4.2.2).trans hk4.1.2.1
                have m2 : ∀ o, (X4.alloc o).cell? ⟨W.heap.size, 2, none⟩ = some (.int .i64 a.dy) := fun o => (World.cell?_alloc_lt X4 o ⟨W.heap.size, 2, none⟩ hk4.2.2).trans hk4.1.2.2.1
                have m3 : ∀ o, (X4.alloc o).cell? ⟨W.heap.size, 3, none⟩ = some (.bool a.cl) := fun o => (World.cell?_alloc_lt X4 o ⟨W.heap.size, 3, none⟩ hk4.2.2).trans hk4.1.2.2.2
                rw [unhide H3] at m3
                clear hb4 b4 hk4
                go_wp2
                go_ret
                exact ⟨rfl, (unhide HB).alloc (unhide HB).size _⟩
              · rcases Bool.eq_false_or_eq_true b.cl with h4 | h4
                · have e1 : F = false := by rw [hr2, h3, h4]; simp
                  subst e1
                  rw [h4] at dF
                  have H3 := hide h3
                  clear hr2 h3 h4 h1
                  go_enter Tryz.func182, Tryz.ntmps182
                  go_upto_region 3 with (first | (go_at_call 76; refine (unhide dG _).mono ?_; rintro e X ⟨rfl, hb⟩; have hk := unhide HBOX X (by rw [World.size_alloc] at hb; exact hb); have k0 := hk.1.1; have k2 := hk.1.2.2.1; have HK := hide hk; have HX := hide hb; clear hb hk) | (go_at_call 215; refine (unhide dD _).mono ?_; rintro e X2 ⟨rfl, hX2⟩; subst hX2))
                  go_upto_region 4 with (go_at_call 216; refine (unhide dP _).mono ?_; rintro e X3 ⟨rfl, hb3⟩)
                  have b3 : Below (W.heap.size + 1) (W.alloc (.cells #[.string (txN a.nm), .int .i64 a.ty, .int .i64 a.dy, .bool a.cl] 139)) X3 := by
                    have h1 := unhide HX
                    rw [World.size_alloc] at h1
                    exact h1.trans (hb3.mono (by have := (unhide HK).2.2; omega))
                  have hk3 := unhide HBOX X3 b3
                  have dF3 := hide (unhide dF X3 hk3.2.1)
                  have B3 := hide b3
                  clear hb3 b3 hk3 k0 k2
                  go_upto_region 7 with (go_at_call 184; refine (unhide dF3).mono ?_; rintro e X4 ⟨rfl, hb4⟩)
                  have b4 := (unhide B3).trans (hb4.mono (by have := (unhide B3).size; rw [World.size_alloc] at this; omega))
                  have hk4 := unhide HBOX X4 b4
                  have HB := hide hk4.2.1
                  have m1 : ∀ o, (X4.alloc o).cell? ⟨W.heap.size, 1, none⟩ = some (.int .i64 a.ty) := fun o => (World.cell?_alloc_lt X4 o ⟨W.heap.size, 1, none⟩ hk4.2.2).trans hk4.1.2.1
                  have m2 : ∀ o, (X4.alloc o).cell? ⟨W.heap.size, 2, none⟩ = some (.int .i64 a.dy) := fun o => (World.cell?_alloc_lt X4 o ⟨W.heap.size, 2, none⟩ hk4.2.2).trans hk4.1.2.2.1
                  have m3 : ∀ o, (X4.alloc o).cell? ⟨W.heap.size, 3, none⟩ = some (.bool a.cl) := fun o => (World.cell?_alloc_lt X4 o ⟨W.heap.size, 3, none⟩ hk4.2.2).trans hk4.1.2.2.2
                  rw [unhide H3] at m3
                  clear hb4 b4 hk4
                  go_wp2
                  go_ret
                  exact ⟨rfl, (unhide HB).alloc (unhide HB).size _⟩
                · have e1 : F = true := by rw [hr2, h1b, decide_eq_true h2, h3, h4]; rfl
                  subst e1
                  rw [h4] at dF
                  have H3 := hide h3
                  clear hr2 h3 h4 h1
                  go_enter Tryz.func182, Tryz.ntmps182
                  go_upto_region 3 with (first | (go_at_call 76; refine (unhide dG _).mono ?_; rintro e X ⟨rfl, hb⟩; have hk := unhide HBOX X (by rw [World.size_alloc] at hb; exact hb); have k0 := hk.1.1; have k2 := hk.1.2.2.1; have HK := hide hk; have HX := hide hb; clear hb hk) | (go_at_call 215; refine (unhide dD _).mono ?_; rintro e X2 ⟨rfl, hX2⟩; subst hX2))
                  go_upto_region 4 with (go_at_call 216; refine (unhide dP _).mono ?_; rintro e X3 ⟨rfl, hb3⟩)
                  have b3 : Below (W.heap.size + 1) (W.alloc (.cells #[.string (txN a.nm), .int .i64 a.ty, .int .i64 a.dy, .bool a.cl] 139)) X3 := by
                    have h1 := unhide HX
                    rw [World.size_alloc] at h1
                    exact h1.trans (hb3.mono (by have := (unhide HK).2.2; omega))
                  have hk3 := unhide HBOX X3 b3
                  have dF3 := hide (unhide dF X3 hk3.2.1)
                  have B3 := hide b3
                  clear hb3 b3 hk3 k0 k2
                  go_upto_region 7 with (go_at_call 184; refine (unhide dF3).mono ?_; rintro e X4 ⟨rfl, hb4⟩)
                  have b4 := (unhide B3).trans (hb4.mono (by have := (unhide B3).size; rw [World.size_alloc] at this; omega))
                  have hk4 := unhide HBOX X4 b4
                  have HB := hide hk4.2.1
                  have m1 : ∀ o, (X4.alloc o).cell? ⟨W.heap.size, 1, none⟩ = some (.int .i64 a.ty) := fun o => (World.cell?_alloc_lt X4 o ⟨W.heap.size, 1, none⟩ hk4.2.2).trans hk4.1.2.1
                  have m2 : ∀ o, (X4.alloc o).cell? ⟨W.heap.size, 2, none⟩ = some (.int .i64 a.dy) := fun o => (World.cell?_alloc_lt X4 o ⟨W.heap.size, 2, none⟩ hk4.2.2).trans hk4.1.2.2.1
                  have m3 : ∀ o, (X4.alloc o).cell? ⟨W.heap.size, 3, none⟩ = some (.bool a.cl) := fun o => (World.cell?_alloc_lt X4 o ⟨W.heap.size, 3, none⟩ hk4.2.2).trans hk4.1.2.2.2
                  rw [unhide H3] at m3
                  clear hb4 b4 hk4
                  go_wp2
                  go_ret
                  exact ⟨rfl, (unhide HB).alloc (unhide HB).size _⟩
            · have e1 : F = false := by rw [hr2, decide_eq_false h2]; simp
              subst e1
              clear hr2 h1
              go_enter Tryz.func182, Tryz.ntmps182
              go_upto_region 3 with (first | (go_at_call 76; refine (unhide dG _).mono ?_; rintro e X ⟨rfl, hb⟩; have hk := unhide HBOX X (by rw [World.size_alloc] at hb; exact hb); have k0 := hk.1.1; have k2 := hk.1.2.2.1; have HK := hide hk; have HX := hide hb; clear hb hk) | (go_at_call 215; refine (unhide dD _).mono ?_; rintro e X2 ⟨rfl, hX2⟩; subst hX2))
              go_upto_region 4 with (go_at_call 216; refine (unhide dP _).mono ?_; rintro e X3 ⟨rfl, hb3⟩)
              have b3 : Below (W.heap.size + 1) (W.alloc (.cells #[.string (txN a.nm), .int .i64 a.ty, .int .i64 a.dy, .bool a.cl] 139)) X3 := by
                have h1 := unhide HX
                rw [World.size_alloc] at h1
                exact h1.trans (hb3.mono (by have := (unhide HK).2.2; omega))
              have hk3 := unhide HBOX X3 b3
              have dF3 := hide (unhide dF X3 hk3.2.1)
              have B3 := hide b3
              clear hb3 b3 hk3 k0 k2
              go_upto_region 7 with (go_at_call 184; refine (unhide dF3).mono ?_; rintro e X4 ⟨rfl, hb4⟩)
              have b4 := (unhide B3).trans (hb4.mono (by have := (unhide B3).size; rw [World.size_alloc] at this; omega))
              have hk4 := unhide HBOX X4 b4
              have HB := hide hk4.2.1
              have m1 : ∀ o, (X4.alloc o).cell? ⟨W.heap.size, 1, none⟩ = some (.int .i64 a.ty) := fun o => (World.cell?_alloc_lt X4 o ⟨W.heap.size, 1, none⟩ hk4.2.2).trans hk4.1.2.1
              have m2 : ∀ o, (X4.alloc o).cell? ⟨W.heap.size, 2, none⟩ = some (.int .i64 a.dy) := fun o => (World.cell?_alloc_lt X4 o ⟨W.heap.size, 2, none⟩ hk4.2.2).trans hk4.1.2.2.1
              have m3 : ∀ o, (X4.alloc o).cell? ⟨W.heap.size, 3, none⟩ = some (.bool a.cl) := fun o => (World.cell?_alloc_lt X4 o ⟨W.heap.size, 3, none⟩ hk4.2.2).trans hk4.1.2.2.2
              skip
              clear hb4 b4 hk4
              go_wp2
              go_ret
              exact ⟨rfl, (unhide HB).alloc (unhide HB).size _⟩
          · have h1b : (b.ty == a.ty) = false := by simp [h1]
            have e1 : F = false := by rw [hr2, h1b]; simp
            subst e1
            clear hr2
            go_enter Tryz.func182, Tryz.ntmps182
            go_upto_region 3 with (first | (go_at_call 76; refine (unhide dG _).mono ?_; rintro e X ⟨rfl, hb⟩; have hk := unhide HBOX X (by rw [World.size_alloc] at hb; exact hb); have k0 := hk.1.1; have k2 := hk.1.2.2.1; have HK := hide hk; have HX := hide hb; clear hb hk) | (go_at_call 215; refine (unhide dD _).mono ?_; rintro e X2 ⟨rfl, hX2⟩; subst hX2))
            go_upto_region 4 with (go_at_call 216; refine (unhide dP _).mono ?_; rintro e X3 ⟨rfl, hb3⟩)
            have b3 : Below (W.heap.size + 1) (W.alloc (.cells #[.string (txN a.nm), .int .i64 a.ty, .int .i64 a.dy, .bool a.cl] 139)) X3 := by
              have h1 := unhide HX
              rw [World.size_alloc] at h1
              exact h1.trans (hb3.mono (by have := (unhide HK).2.2; omega))
            have hk3 := unhide HBOX X3 b3
            have dF3 := hide (unhide dF X3 hk3.2.1)
            have B3 := hide b3
            clear hb3 b3 hk3 k0 k2
            go_upto_region 7 with (go_at_call 184; refine (unhide dF3).mono ?_; rintro e X4 ⟨rfl, hb4⟩)
            have b4 := (unhide B3).trans (hb4.mono (by have := (unhide B3).size; rw [World.size_alloc] at this; omega))
            have hk4 := unhide HBOX X4 b4
            have HB := hide hk4.2.1
            have m1 : ∀ o, (X4.alloc o).cell? ⟨W.heap.size, 1, none⟩ = some (.int .i64 a.ty) := fun o => (World.cell?_alloc_lt X4 o ⟨W.heap.size, 1, none⟩ hk4.2.2).trans hk4.1.2.1
            have m2 : ∀ o, (X4.alloc o).cell? ⟨W.heap.size, 2, none⟩ = some (.int .i64 a.dy) := fun o => (World.cell?_alloc_lt X4 o ⟨W.heap.size, 2, none⟩ hk4.2.2).trans hk4.1.2.2.1
            have m3 : ∀ o, (X4.alloc o).cell? ⟨W.heap.size, 3, none⟩ = some (.bool a.cl) := fun o => (World.cell?_alloc_lt X4 o ⟨W.heap.size, 3, none⟩ hk4.2.2).trans hk4.1.2.2.2
            skip
            clear hb4 b4 hk4
            go_wp2
            go_ret
            exact ⟨rfl, (unhide HB).alloc (unhide HB).size _⟩
open Go Go.Shelf Go.ChangeShapes Go.WideShapes Go.ChangeAt Go.RowKit Go.Maps Go.Sort
set_option linter.unusedVariables false
open Go Go.Shelf Go.ChangeShapes Go.WideShapes Go.ChangeAt Go.RowKit Go.Maps Go.Sort
set_option linter.unusedVariables false
theorem fit_fits {L : List Ac} (hG : Good L) {a : Ac} (hf : fitB L a = true) (hr : ∀ b ∈ L, b.nm < a.nm) (hl : L.length < 100) : Fits L a := by
  unfold fitB at hf
  simp only [Bool.and_eq_true, decide_eq_true_eq] at hf
  obtain ⟨⟨hn, hd⟩, hu⟩ := hf
  have hnew : ¬ ∃ b ∈ L, b.nm = a.nm := fun ⟨b, hb, e⟩ => by
    have := hr b hb
    rw [e] at this
    exact slt_irrefl _ this
  rcases ups_cases a.nm with e | ⟨p, e, _⟩
  · rw [e] at hu
    refine ⟨hnew, hn, hd, by simpa using hu, fun p s e2 => ?_, hl⟩
    rw [e] at e2
    cases e2
  · rw [e] at hu
    change (match fnd L p with | none => false | some b => (b.ty == a.ty) && decide (b.dy ≤ a.dy) && (a.cl || !b.cl)) = true at hu
    cases hf : fnd L p with
    | none => rw [hf] at hu; cases hu
    | some b =>
      rw [hf] at hu
      simp only [Bool.and_eq_true, decide_eq_true_eq, beq_iff_eq, Bool.or_eq_true, Bool.not_eq_true'] at hu
      obtain ⟨⟨h1, h2⟩, h3⟩ := hu
      obtain ⟨hbL, hbp⟩ := fnd_some hf
      refine ⟨hnew, hn, hd, by rw [← h1]; exact hG.typ b hbL, fun q s e2 => ?_, hl⟩
      rw [e] at e2
      injection e2 with e3 e4
      refine ⟨b, hbL, hbp.trans e3, h1, h2, fun hc => ?_⟩
      rcases h3 with h3 | h3
      · exact h3
      · rw [hc] at h3; cases h3
theorem insA_last {L : List Ac} {a : Ac} (h : ∀ b ∈ L, b.nm < a.nm) : insA L a = L ++ [a] := by
  unfold insA
  have e1 : (L.filter fun b => decide (b.nm < a.nm)) = L := List.filter_eq_self.2 (fun b hb => by simpa using h b hb)
  have e2 : (L.filter fun b => decide (a.nm < b.nm)) = [] := List.filter_eq_nil_iff.2 (fun b hb hc => by
    have h1 := h b hb
    simp only [decide_eq_true_eq] at hc
    exact slt_irrefl _ (slt_trans h1 hc))
  rw [e1, e2]
def okTo (l : List Ac) (k : Nat) : Prop := ∀ i (h : i < l.length), i < k → (0 < i → (l[i - 1]'(by omega)).nm < l[i].nm) ∧ fitB (l.take i) l[i] = true
def fromOk (l : List Ac) : Prop := l.length ≤ 100 ∧ okTo l l.length
theorem rise_take {l : List Ac} {i : Nat} (hi : i < l.length) (hG : Good (l.take i)) (h : 0 < i → (l[i - 1]'(by omega)).nm < l[i].nm) : ∀ b ∈ l.take i, b.nm < l[i].nm := fun b hb => by
  obtain ⟨j, hj, rfl⟩ := List.getElem_of_mem hb
  rw [List.length_take] at hj
  have h0 := h (by omega)
  rw [List.getElem_take]
  by_cases e : j = i - 1
  · subst e; exact h0
  · have h1 := List.pairwise_iff_getElem.1 hG.rise j (i - 1) (by rw [List.length_take]; omega) (by rw [List.length_take]; omega) (by omega)
    rw [List.getElem_take, List.getElem_take] at h1
    exact slt_trans h1 h0
theorem ins_take {l : List Ac} {i : Nat} (hi : i < l.length) (h : ∀ b ∈ l.take i, b.nm < l[i].nm) : insA (l.take i) l[i] = l.take (i + 1) := by
  rw [insA_last h, List.take_append_getElem]
theorem good_ok {l : List Ac} (hG : Good l) : fromOk l := by
  refine ⟨hG.len, fun i hi _ => ⟨fun h0 => List.pairwise_iff_getElem.1 hG.rise (i - 1) i (by omega) hi (by omega), ?_⟩⟩
  obtain ⟨a, ha⟩ : ∃ a, a = l[i] := ⟨_, rfl⟩
  have haL : a ∈ l := by rw [ha]; exact List.getElem_mem hi
  rw [← ha]
  unfold fitB
  rw [hG.name a haL, decide_eq_true (hG.day a haL)]
  simp only [Bool.true_and]
  rcases ups_cases a.nm with e | ⟨p, e, hpl, _⟩
  · rw [e]
    exact decide_eq_true (hG.typ a haL)
  · rw [e]
    change (match fnd (l.take i) p with | none => false | some b => (b.ty == a.ty) && decide (b.dy ≤ a.dy) && (a.cl || !b.cl)) = true
    obtain ⟨b, hb, hbp, h1, h2, h3⟩ := hG.up a haL p _ e
    have hlt : b.nm < a.nm := by
      rw [hbp]
      have hpre : p <+: a.nm := by
        have hc : a.nm.contains 58 = true := by
          by_cases hc : a.nm.contains 58 = true
          · exact hc
          · rw [ups_none _ (by simpa using hc)] at e; cases e
        obtain ⟨j, _, _, hu, _⟩ := ups_some ⟨a.nm.toArray⟩ (by simpa using hc)
        have e5 : (⟨a.nm.toArray⟩ : ByteArray).data.toList = a.nm := by simp
        rw [e5, e] at hu
        injection hu with hu _
        rw [hu]
        exact List.take_prefix _ _
      obtain ⟨t, ht⟩ := hpre
      rw [← ht]
      cases t with
      | nil => exfalso; rw [← ht] at hpl; simp at hpl
      | cons c t =>
        have : ∀ (u v : Nm) (c : UInt8), u < u ++ c :: v := fun u v c => by
          induction u with
          | nil => exact List.Lex.nil
          | cons k u ih => exact List.Lex.cons ih
        exact this p t c
    obtain ⟨j, hj, hjb⟩ := List.getElem_of_mem hb
    have hji : j < i := by
      by_cases hji : j < i
      · exact hji
      · exfalso
        by_cases e6 : j = i
        · have : b = a := by rw [← hjb, ha]; simp only [e6]
          rw [this] at hlt
          exact slt_irrefl _ hlt
        · have := List.pairwise_iff_getElem.1 hG.rise i j hi hj (by omega)
          rw [hjb, ← ha] at this
          exact slt_irrefl _ (slt_trans hlt this)
    have hbt : b ∈ l.take i := by rw [← hjb]; exact List.mem_take_iff_getElem.2 ⟨j, by omega, rfl⟩
    have hf : fnd (l.take i) p = some b := by
      cases hf : fnd (l.take i) p with
      | none => exact absurd ⟨b, hbt, hbp⟩ (fnd_none hf)
      | some c =>
        obtain ⟨hc, hcp⟩ := fnd_some hf
        rw [hG.one (List.mem_of_mem_take hc) hb (hcp.trans hbp.symm)]
    rw [hf]
    simp only [Bool.and_eq_true, decide_eq_true_eq, beq_iff_eq, Bool.or_eq_true, Bool.not_eq_true']
    refine ⟨⟨h1, h2⟩, ?_⟩
    cases hc : b.cl with
    | true => exact .inl (h3 hc)
    | false => exact .inr rfl
def ld41 (x : Value) : Sem Value := Instr.loadAt 139 x
theorem ld41_is (x : Value) : Instr.loadAt 139 x = ld41 x := rfl
theorem run_ld41 {w : World} {b o : Nat} {a : Ac} (h : w.rangeAt b o (vals4 a)) : (ld41 (.pointer (some ⟨b, o, none⟩))).run Tryz.prog w = .ok (acV a) w :=
  run_loadAt_mid (P := Tryz.prog) w b o 139 (vals4 a) _ h Tryz.underlying139 rfl sz41
def FromOut (W : World) (l : List Ac) (e : Ending) (w' : World) : Prop :=
  ((fromOk l ∧ ∃ d S g, e = .returned (.tuple #[ptr d, .int .i64 0]) ∧ Ct w' d S l g ∧ ∀ k, S k → W.heap.size ≤ k) ∨ (¬ fromOk l ∧ e = .returned (.tuple #[.pointer none, .int .i64 67]))) ∧ Below W.heap.size W w'
structure Fm (W : World) (l : List Ac) (i : Nat) (X : World) (S : Nat → Prop) (g : Gh) : Prop where
  ct : Ct X W.heap.size S (l.take i) g
  new : ∀ k, S k → W.heap.size ≤ k
  bel : Below W.heap.size W X
  ok : okTo l i
section
attribute [local go_sem ↓] ld41_is
set_option maxRecDepth 100000 in
set_option maxHeartbeats 8000000 in
theorem from_any {W : World} {p : Option Addr} {n c : Nat} {l : List Ac} (hl : l.length = n) (hn : n ≤ 2305843009213693951) (hL : Lies kA W p l) (hsz : ∀ a ∈ l, (txN a.nm).size < 4611686018427387904) :
    Calls Tryz.prog 117 #[.slice p n c] W fun e w' => FromOut W l e w' := by
  by_cases hbig : n ≤ 100
  · have hb1 : ¬ (100 : Int) < (n : Int) := by omega
    have HL := hide hL; have HSZ := hide hsz; have HN := hide hl
    clear hL hsz hl
    have dN := hide (new_any W)
    have F0 : Hid (Fm W l 0 (W.alloc (.cells (cellsA top0 (.slice none 0 0)) 260)) (fun k => k = W.heap.size) (g0 W.heap.size)) := by
      exact ⟨by rw [List.take_zero]; exact new_ct W, fun k hk => by omega, (Below.refl _ W).alloc (Nat.le_refl _) _, fun i hi h => by omega⟩
    go_enter Tryz.func117, Tryz.ntmps117
    go_upto_region 4 with (go_at_call 181; refine (unhide dN).mono ?_; rintro e X0 ⟨rfl, hX0⟩; rw [hX0]; clear hX0 X0)
    go_wp2_with fail
    go_loopw [13] (fun v13 wr => ∃ i : Nat, i ≤ n ∧ v13 = .int .i64 i ∧ Hid (∃ S g, Fm W l i wr S g)) (fun v13 _ => n - (intOf' v13).toNat)
    case atStart => exact ⟨0, Nat.zero_le _, rfl, _, _, unhide F0⟩
    case round =>
      obtain ⟨i, hi, rfl, hrel⟩ := hrel
      by_cases hlt : i < n
      · have hil : i < l.length := by rw [unhide HN]; exact hlt
        obtain ⟨S, g, hfm⟩ := unhide hrel
        obtain ⟨b, off, hp, hbW, hcells⟩ := (unhide HL).2 i hil
        subst hp
        obtain ⟨a, ha⟩ : ∃ a, a = l[i] := ⟨_, rfl⟩
        rw [← ha] at hcells
        have hra : wr.rangeAt b (off + i * 4) (vals4 a) := fun j v hv => (hfm.bel.cell (p := ⟨b, off + i * 4 + j, none⟩) hbW).trans (hcells j v hv)
        have hld := run_ld41 hra
        have hld' : (ld41 (.pointer (some ⟨b, off + i * 4, none⟩))).run Tryz.prog wr = .ok (.agg #[.string (txN a.nm), .int .i64 a.ty, .int .i64 a.dy, .bool a.cl]) wr := hld
        have hkO : ∀ o, (wr.alloc o).heap.size = wr.heap.size + 1 := fun o => by simp
        obtain ⟨Y, hY⟩ : ∃ Y, Y = wr.alloc (.cells #[.string (txN a.nm), .int .i64 a.ty, .int .i64 a.dy, .bool a.cl] 139) := ⟨_, rfl⟩
        have yA : Y.heap[wr.heap.size]? = some (.cells #[.string (txN a.nm), .int .i64 a.ty, .int .i64 a.dy, .bool a.cl] 139) := by rw [hY]; exact World.alloc_heap_new wr _
        have yB : Below wr.heap.size wr Y.drew := by rw [hY]; exact ⟨rfl, rfl, rfl, by show _ ≤ (wr.alloc _).heap.size; simp, fun k hk => Below.heap_alloc wr _ k hk⟩
        have hY0 : Y.drew.cell? ⟨wr.heap.size, 0, none⟩ = some (.string (txN a.nm)) := cell_of (W := Y.drew) yA rfl
        have hY41 : ∀ X, X.heap[wr.heap.size]? = some (.cells #[.string (txN a.nm), .int .i64 a.ty, .int .i64 a.dy, .bool a.cl] 139) → (ld41 (.pointer (some ⟨wr.heap.size, 0, none⟩))).run Tryz.prog X = .ok (.agg #[.string (txN a.nm), .int .i64 a.ty, .int .i64 a.dy, .bool a.cl]) X := fun X hX => run_ld41 (range4 hX)
        have haL : a ∈ l := by rw [ha]; exact List.getElem_mem hil
        have dF := hide (fits_any (hfm.ct.below yB) a (unhide HSZ a haL))
        unfold acV at dF
        have hwi : IntKind.i64.wrap ((i : Int) + 1) = (i : Int) + 1 := wrapI (by omega) (by omega)
        have HFM := hide hfm; have HA := hide ha; have HY41 := hide hY41; have YA := hide yA; have YB := hide yB
        obtain ⟨F, hF⟩ : ∃ F, F = fitB (l.take i) a := ⟨_, rfl⟩
        rw [← hF] at dF
        have HF := hide hF
        have badd : ∀ (r : Prop), (okTo l (i + 1) → r) → True := fun _ _ => trivial
        have hbad : Hid (F = false → ¬ fromOk l) := fun hF0 hok => by
          have := (hok.2 i hil hil).2
          rw [← unhide HA, ← unhide HF, hF0] at this
          cases this
        clear hra hld hcells hfm ha hY41 yA yB hF badd hkO
        have dPut : Hid (F = true → (0 < i → (l[i - 1]'(by omega)).nm < l[i].nm) → ∀ X, Below Y.drew.heap.size Y.drew X → Calls Tryz.prog 183 #[ptr W.heap.size, .agg #[.string (txN a.nm), .int .i64 a.ty, .int .i64 a.dy, .bool a.cl]] X fun e w' => e = .returned (.tuple #[]) ∧ ∃ S' g', Fm W l (i + 1) w' S' g') := fun hF1 hris X hbX => by
          have hyX : Below wr.heap.size wr X := (unhide YB).trans (hbX.mono (unhide YB).size)
          have hctX := (unhide HFM).ct.below hyX
          have hfit : fitB (l.take i) a = true := by rw [← unhide HF]; exact hF1
          have hrt := rise_take hil hctX.good hris
          have hfts := fit_fits hctX.good hfit (by rw [unhide HA]; exact hrt) (by rw [List.length_take]; omega)
          refine (put_any hctX.ch hctX.good hctX.inh hfts).mono ?_
          rintro e w' ⟨he, S', g', hp⟩
          refine ⟨he, S', g', ?_⟩
          have hins : insA (l.take i) a = l.take (i + 1) := by rw [unhide HA]; exact ins_take hil hrt
          have hg2 := hctX.good.ins hfts
          have hch := hp.ch
          rw [hins] at hg2 hch
          have hWX : Below W.heap.size W X := (unhide HFM).bel.trans (hyX.mono (unhide HFM).bel.size)
          refine ⟨⟨hch, hg2, hp.inh⟩, fun k hk => ?_, ⟨hp.fr.os.trans hWX.os, hp.fr.tape.trans hWX.tape, hp.fr.output.trans hWX.output, Nat.le_trans hWX.size hp.fr.size, fun k hk => ?_⟩, fun j hj hji => ?_⟩
          · rcases hp.old k hk with h1 | h1
            · exact (unhide HFM).new k h1
            · exact Nat.le_trans hWX.size h1
          · refine (hp.fr.block k (Nat.lt_of_lt_of_le hk hWX.size) (fun hs => ?_)).trans (hWX.block k hk)
            have := (unhide HFM).new k hs
            omega
          · by_cases e2 : j = i
            · subst e2
              exact ⟨hris, by rw [← unhide HA]; exact hfit⟩
            · exact (unhide HFM).ok j hj (by omega)
        have HY := hide hY
        clear hY
        by_cases hi0 : i = 0
        · subst hi0
          rw [Nat.zero_mul, Nat.add_zero] at hld'
          cases F with
          | false =>
            have ld0 := unhide HY41 Y.drew (unhide YA)
            have HBAD := hide (unhide hbad rfl)
            clear hbad dPut
            go_upto_region 7 with fail
            rw [← unhide HY]
            refine wp_region_last (n := 19) (S := fun W' => (ld41 (.pointer (some ⟨wr.heap.size, 0, none⟩))).run Tryz.prog W' = .ok (.agg #[.string (txN a.nm), .int .i64 a.ty, .int .i64 a.dy, .bool a.cl]) W') (by kernel_rfl) (by exact (unhide HY41 Y.drew (unhide YA))) (fun hHeld => ?_)
            refine tkW 0 ?_; refine tkW 1 ?_; refine tkW 2 ?_; refine tkX 3 ?_; refine tkX 4 ?_; refine tkX 5 ?_; refine tkX 6 ?_; refine tkX 7 ?_; refine tkX 8 ?_; refine tkX 9 ?_; refine tkX 10 ?_; refine tkX 11 ?_; refine tkW 12 ?_; refine tkW 13 ?_; refine tkW 14 ?_; refine tkN 15 ?_
            clear hHeld
            refine wpAnyL_one (i := 16) (by kernel_rfl) rfl (fun KK hK => ?_)
            go_simp
            go_wp2_with (first | (go_at_call 182; refine (unhide dF).mono ?_; rintro e X ⟨rfl, hbX⟩))
            have xA : X.heap[wr.heap.size]? = some (.cells #[.string (txN a.nm), .int .i64 a.ty, .int .i64 a.dy, .bool a.cl] 139) := (hbX.block _ (Array.getElem?_eq_some_iff.1 (unhide YA)).1).trans (unhide YA)
            have xL := unhide HY41 X xA
            have XB := hide hbX
            have XW : Hid (Below W.heap.size W X) := (unhide HFM).bel.trans (((unhide YB).trans (hbX.mono (unhide YB).size)).mono (unhide HFM).bel.size)
            refine hK.out _ _ xL (fun hHeld => ?_)
            clear hK KK hbX
            refine tkW 17 ?_; refine tkW 18 ?_
            clear hHeld
            refine wpAnyL_done (by kernel_rfl) ?_
            go_wp2
            go_ret2
            exact ⟨.inr ⟨unhide HBAD, rfl⟩, unhide XW⟩
          | true =>
            have ld0 := unhide HY41 Y.drew (unhide YA)
            have dPut1 := hide (unhide dPut rfl (fun h => absurd h (by decide)))
            clear hbad dPut
            go_upto_region 7 with fail
            rw [← unhide HY]
            refine wp_region_last (n := 19) (S := fun W' => (ld41 (.pointer (some ⟨wr.heap.size, 0, none⟩))).run Tryz.prog W' = .ok (.agg #[.string (txN a.nm), .int .i64 a.ty, .int .i64 a.dy, .bool a.cl]) W') (by kernel_rfl) (by exact (unhide HY41 Y.drew (unhide YA))) (fun hHeld => ?_)
            refine tkW 0 ?_; refine tkW 1 ?_; refine tkW 2 ?_; refine tkX 3 ?_; refine tkX 4 ?_; refine tkX 5 ?_; refine tkX 6 ?_; refine tkX 7 ?_; refine tkX 8 ?_; refine tkX 9 ?_; refine tkX 10 ?_; refine tkX 11 ?_; refine tkW 12 ?_; refine tkW 13 ?_; refine tkW 14 ?_; refine tkN 15 ?_
            clear hHeld
            refine wpAnyL_one (i := 16) (by kernel_rfl) rfl (fun KK hK => ?_)
            go_simp
            go_wp2_with (first | (go_at_call 182; refine (unhide dF).mono ?_; rintro e X ⟨rfl, hbX⟩))
            have xA : X.heap[wr.heap.size]? = some (.cells #[.string (txN a.nm), .int .i64 a.ty, .int .i64 a.dy, .bool a.cl] 139) := (hbX.block _ (Array.getElem?_eq_some_iff.1 (unhide YA)).1).trans (unhide YA)
            have xL := unhide HY41 X xA
            have XB := hide hbX
            have XW : Hid (Below W.heap.size W X) := (unhide HFM).bel.trans (((unhide YB).trans (hbX.mono (unhide YB).size)).mono (unhide HFM).bel.size)
            refine hK.out _ _ xL (fun hHeld => ?_)
            clear hK KK hbX
            refine tkW 17 ?_; refine tkW 18 ?_
            clear hHeld
            refine wpAnyL_done (by kernel_rfl) ?_
            have dPut2 := hide (unhide dPut1 X (unhide XB))
            go_wp2_with (go_at_call 183; refine (unhide dPut2).mono ?_; rintro e X5 ⟨rfl, hfm5⟩; have HF5 := hide hfm5; clear hfm5)
            refine ⟨⟨0 + 1, by omega, rfl, unhide HF5⟩, ?_⟩
            show n - ((0 : Int) + 1).toNat < n - ((0 : Int)).toNat
            omega
        · have hpos : (0 : Int) < (i : Int) := by omega
          have hposN : 0 < i := by omega
          have hd1 : decide ((0 : Int) < (i : Int)) = true := decide_eq_true hpos
          have hd2 : decide (0 < i) = true := decide_eq_true hposN
          have hw1 : IntKind.i64.wrap ((i : Int) - 1) = ((i - 1 : Nat) : Int) := by rw [wrapI (by omega) (by omega)]; omega
          have hk1 : i - 1 < n := by omega
          obtain ⟨q, hq⟩ : ∃ q, q = (l[i - 1]'(by omega)).nm := ⟨_, rfl⟩
          have hcq : ∀ X, Below W.heap.size W X → X.cell? ⟨b, off + (i - 1) * 4, none⟩ = some (.string (txN q)) := fun X hbX => by
            obtain ⟨b2, off2, hp2, hbW2, hcells2⟩ := (unhide HL).2 (i - 1) (by omega)
            have e2 : b2 = b ∧ off2 = off := by
              injection hp2 with hp2
              injection hp2 with h1 h2
              exact ⟨h1.symm, h2.symm⟩
            obtain ⟨rfl, rfl⟩ := e2
            have := hcells2 0 (.string (txN q)) (by rw [hq]; rfl)
            exact (hbX.cell (p := ⟨b2, off2 + (i - 1) * 4, none⟩) hbW2).trans this
          have yW : Below W.heap.size W Y.drew := (unhide HFM).bel.trans ((unhide YB).mono (unhide HFM).bel.size)
          have hcY := hcq Y.drew yW
          have HCQ := hide hcq; have HQ := hide hq
          have ld0 := unhide HY41 Y.drew (unhide YA)
          have YW := hide yW
          clear hcq hq yW
          have bl1 : Op.bytesLess (txN q).toList (txN a.nm).toList = decide (q < a.nm) := by rw [Go.Proofs.bytesLess_eq, ByteArray.toList_eq, ByteArray.toList_eq, txN_list, txN_list]
          have bl2 : Op.bytesLess a.nm q = decide (a.nm < q) := by rw [Go.Proofs.bytesLess_eq]
          have bl3 : (a.nm == q) = decide (a.nm = q) := by exact Bool.eq_iff_iff.2 (by rw [beq_iff_eq, decide_eq_true_iff])
          by_cases hris : q < a.nm
          · have hris2 : ¬ a.nm < q := fun h => slt_irrefl _ (slt_trans h hris)
            have hris3 : ¬ a.nm = q := fun h => slt_irrefl q (by rw [h] at hris; exact hris)
            rw [decide_eq_true hris] at bl1
            rw [decide_eq_false hris2] at bl2
            rw [decide_eq_false hris3] at bl3
            have HRI : Hid (0 < i → (l[i - 1]'(by omega)).nm < l[i].nm) := fun _ => by rw [← unhide HQ, ← unhide HA]; exact hris
            clear hris hris2 hris3
            cases F with
            | false =>
              have HBAD := hide (unhide hbad rfl)
              clear hbad dPut
              go_upto_region 7 with fail
              rw [← unhide HY]
              refine wp_region_last (n := 19) (S := fun W' => (ld41 (.pointer (some ⟨wr.heap.size, 0, none⟩))).run Tryz.prog W' = .ok (.agg #[.string (txN a.nm), .int .i64 a.ty, .int .i64 a.dy, .bool a.cl]) W' ∧ W'.cell? ⟨wr.heap.size, 0, none⟩ = some (.string (txN a.nm)) ∧ W'.cell? ⟨b, off + (i - 1) * 4, none⟩ = some (.string (txN q))) (by kernel_rfl) (by exact ⟨ld0, hY0, hcY⟩) (fun hHeld => ?_)
              refine tkW 0 ?_; refine tkW 1 ?_; refine tkW 2 ?_; refine tkW 3 ?_; refine tkN 4 ?_; refine tkW 5 ?_; refine tkW 6 ?_; refine tkW 7 ?_; refine tkW 8 ?_; refine tkW 9 ?_; refine tkN 10 ?_; refine tkW 11 ?_; refine tkW 12 ?_; refine tkW 13 ?_; refine tkW 14 ?_; refine tkN 15 ?_
              clear hHeld
              refine wpAnyL_one (i := 16) (by kernel_rfl) rfl (fun KK hK => ?_)
              go_simp
              go_wp2_with (first | (go_at_call 182; refine (unhide dF).mono ?_; rintro e X ⟨rfl, hbX⟩))
              have xA : X.heap[wr.heap.size]? = some (.cells #[.string (txN a.nm), .int .i64 a.ty, .int .i64 a.dy, .bool a.cl] 139) := (hbX.block _ (Array.getElem?_eq_some_iff.1 (unhide YA)).1).trans (unhide YA)
              have xL := unhide HY41 X xA
              have XB := hide hbX
              have XW : Hid (Below W.heap.size W X) := (unhide HFM).bel.trans (((unhide YB).trans (hbX.mono (unhide YB).size)).mono (unhide HFM).bel.size)
              have xq := unhide HCQ X (unhide XW)
              refine hK.out _ _ ⟨xL, cell_of xA rfl, xq⟩ (fun hHeld => ?_)
              clear hK KK hbX
              refine tkW 17 ?_; refine tkW 18 ?_
              clear hHeld
              refine wpAnyL_done (by kernel_rfl) ?_
              go_wp2
              go_ret2
              exact ⟨.inr ⟨unhide HBAD, rfl⟩, unhide XW⟩
            | true =>
              have dPut1 := hide (unhide dPut rfl (unhide HRI))
              clear hbad dPut
              go_upto_region 7 with fail
              rw [← unhide HY]
              refine wp_region_last (n := 19) (S := fun W' => (ld41 (.pointer (some ⟨wr.heap.size, 0, none⟩))).run Tryz.prog W' = .ok (.agg #[.string (txN a.nm), .int .i64 a.ty, .int .i64 a.dy, .bool a.cl]) W' ∧ W'.cell? ⟨wr.heap.size, 0, none⟩ = some (.string (txN a.nm)) ∧ W'.cell? ⟨b, off + (i - 1) * 4, none⟩ = some (.string (txN q))) (by kernel_rfl) (by exact ⟨ld0, hY0, hcY⟩) (fun hHeld => ?_)
              refine tkW 0 ?_; refine tkW 1 ?_; refine tkW 2 ?_; refine tkW 3 ?_; refine tkN 4 ?_; refine tkW 5 ?_; refine tkW 6 ?_; refine tkW 7 ?_; refine tkW 8 ?_; refine tkW 9 ?_; refine tkN 10 ?_; refine tkW 11 ?_; refine tkW 12 ?_; refine tkW 13 ?_; refine tkW 14 ?_; refine tkN 15 ?_
              clear hHeld
              refine wpAnyL_one (i := 16) (by kernel_rfl) rfl (fun KK hK => ?_)
              go_simp
              go_wp2_with (first | (go_at_call 182; refine (unhide dF).mono ?_; rintro e X ⟨rfl, hbX⟩))
              have xA : X.heap[wr.heap.size]? = some (.cells #[.string (txN a.nm), .int .i64 a.ty, .int .i64 a.dy, .bool a.cl] 139) := (hbX.block _ (Array.getElem?_eq_some_iff.1 (unhide YA)).1).trans (unhide YA)
              have xL := unhide HY41 X xA
              have XB := hide hbX
              have XW : Hid (Below W.heap.size W X) := (unhide HFM).bel.trans (((unhide YB).trans (hbX.mono (unhide YB).size)).mono (unhide HFM).bel.size)
              have xq := unhide HCQ X (unhide XW)
              refine hK.out _ _ ⟨xL, cell_of xA rfl, xq⟩ (fun hHeld => ?_)
              clear hK KK hbX
              refine tkW 17 ?_; refine tkW 18 ?_
              clear hHeld
              refine wpAnyL_done (by kernel_rfl) ?_
              have dPut2 := hide (unhide dPut1 X (unhide XB))
              go_wp2_with (go_at_call 183; refine (unhide dPut2).mono ?_; rintro e X5 ⟨rfl, hfm5⟩; have HF5 := hide hfm5; clear hfm5)
              refine ⟨⟨i + 1, by omega, rfl, unhide HF5⟩, ?_⟩
              show n - ((i : Int) + 1).toNat < n - ((i : Int)).toNat
              omega
          · rw [decide_eq_false hris] at bl1
            have hno : Hid (¬ fromOk l) := fun hok => hris (by
              have := (hok.2 i hil hil).1 (by omega)
              rw [← unhide HQ, ← unhide HA] at this
              exact this)
            by_cases hr2 : a.nm < q
            · have hr3 : ¬ a.nm = q := fun h => slt_irrefl q (by rw [h] at hr2; exact hr2)
              rw [decide_eq_true hr2] at bl2
              rw [decide_eq_false hr3] at bl3
              clear hris hr2 hr3 hbad dPut
              go_upto_region 7 with fail
              rw [← unhide HY]
              refine wp_region_last (n := 19) (S := fun W' => (ld41 (.pointer (some ⟨wr.heap.size, 0, none⟩))).run Tryz.prog W' = .ok (.agg #[.string (txN a.nm), .int .i64 a.ty, .int .i64 a.dy, .bool a.cl]) W' ∧ W'.cell? ⟨wr.heap.size, 0, none⟩ = some (.string (txN a.nm)) ∧ W'.cell? ⟨b, off + (i - 1) * 4, none⟩ = some (.string (txN q))) (by kernel_rfl) (by exact ⟨ld0, hY0, hcY⟩) (fun hHeld => ?_)
              refine tkW 0 ?_; refine tkW 1 ?_; refine tkW 2 ?_; refine tkW 3 ?_; refine tkN 4 ?_; refine tkW 5 ?_; refine tkW 6 ?_; refine tkW 7 ?_; refine tkW 8 ?_; refine tkW 9 ?_; refine tkN 10 ?_; refine tkW 11 ?_; refine tkW 12 ?_; refine tkW 13 ?_; refine tkX 14 ?_; refine tkX 15 ?_; refine tkX 16 ?_; refine tkX 17 ?_; refine tkW 18 ?_
              clear hHeld
              refine wpAnyL_done (by kernel_rfl) ?_
              go_wp2
              go_ret2
              exact ⟨.inr ⟨unhide hno, rfl⟩, unhide YW⟩
            · have hr3 : a.nm = q := slt_tri hr2 hris
              rw [decide_eq_false hr2] at bl2
              rw [decide_eq_true hr3] at bl3
              clear hris hr2 hr3 hbad dPut
              go_upto_region 7 with fail
              rw [← unhide HY]
              refine wp_region_last (n := 19) (S := fun W' => (ld41 (.pointer (some ⟨wr.heap.size, 0, none⟩))).run Tryz.prog W' = .ok (.agg #[.string (txN a.nm), .int .i64 a.ty, .int .i64 a.dy, .bool a.cl]) W' ∧ W'.cell? ⟨wr.heap.size, 0, none⟩ = some (.string (txN a.nm)) ∧ W'.cell? ⟨b, off + (i - 1) * 4, none⟩ = some (.string (txN q))) (by kernel_rfl) (by exact ⟨ld0, hY0, hcY⟩) (fun hHeld => ?_)
              refine tkW 0 ?_; refine tkW 1 ?_; refine tkW 2 ?_; refine tkW 3 ?_; refine tkN 4 ?_; refine tkW 5 ?_; refine tkW 6 ?_; refine tkW 7 ?_; refine tkW 8 ?_; refine tkW 9 ?_; refine tkN 10 ?_; refine tkW 11 ?_; refine tkW 12 ?_; refine tkW 13 ?_; refine tkX 14 ?_; refine tkX 15 ?_; refine tkX 16 ?_; refine tkX 17 ?_; refine tkW 18 ?_
              clear hHeld
              refine wpAnyL_done (by kernel_rfl) ?_
              go_wp2
              go_ret2
              exact ⟨.inr ⟨unhide hno, rfl⟩, unhide YW⟩
      · have hin : i = n := by omega
        subst hin
        obtain ⟨S, g, hfm⟩ := unhide hrel
        have HF := hide hfm
        clear hfm
        go_wp2
        go_ret2
        refine ⟨.inl ⟨?_, W.heap.size, S, g, rfl, ?_, (unhide HF).new⟩, (unhide HF).bel⟩
        · refine ⟨by rw [unhide HN]; exact hbig, ?_⟩
          rw [unhide HN]
          exact (unhide HF).ok
        · have := (unhide HF).ct
          rw [List.take_of_length_le (by rw [unhide HN]; exact Nat.le_refl _)] at this
          exact this
  · have hb1 : (100 : Int) < (n : Int) := by omega
    have hno : ¬ fromOk l := fun h => by have := h.1; omega
    have HNO := hide hno
    clear hno hL hsz hl
    go_enter Tryz.func117, Tryz.ntmps117
    go_wp2
    go_ret2
    exact ⟨.inr ⟨unhide HNO, rfl⟩, Below.refl _ _⟩
end
open Go Go.Shelf Go.ChangeShapes Go.WideShapes Go.ChangeAt Go.RowKit Go.Maps Go.Sort
set_option linter.unusedVariables false
def KidsOut (W : World) (K : List Nm) (e : Ending) (w' : World) : Prop := Below W.heap.size W w' ∧ ∃ p, e = .returned (.slice p K.length K.length) ∧ ∀ k (hk : k < K.length), ∃ b, p = some ⟨b, 0, none⟩ ∧ W.heap.size ≤ b ∧ b < w'.heap.size ∧ w'.cell? ⟨b, k, none⟩ = some (.string (txN K[k]))
def KidsOwn (W : World) (K : List Nm) (e : Ending) (w' : World) : Prop := KidsOut W K e w' ∧ ∃ v, e = .returned v ∧ w'.ownsRow W.heap.size 9 1 v K.length (K.map fun x => .string (txN x))
structure Kdr (W X : World) (K : List Nm) (j : Nat) (wr : World) : Prop where
  below : Below X.heap.size X wr
  lt : X.heap.size < wr.heap.size
  fz : ∀ k, wr.frozen? ⟨X.heap.size, k, none⟩ = false
  any : ∀ k, k < K.length → ∃ v, wr.cell? ⟨X.heap.size, k, none⟩ = some v
  cells : ∀ k (hk : k < K.length), k < j → wr.cell? ⟨X.heap.size, k, none⟩ = some (.string (txN K[k]))
  blk : ∃ c, wr.heap[X.heap.size]? = some (.cells c 9) ∧ c.size = K.length
theorem Kdr.step {W X : World} {K : List Nm} {j : Nat} {wr : World} (h : Kdr W X K j wr) (hj : j < K.length) : Kdr W X K (j + 1) (wr.setCell ⟨X.heap.size, j, none⟩ (.string (txN K[j]))) := by
  obtain ⟨v0, hv0⟩ := h.any j hj
  refine ⟨h.below.setCell (Nat.le_refl _) _, by simpa using h.lt, fun k => by simpa using h.fz k, fun k hk => ?_, fun k hk hkj => ?_, ?_⟩
  · by_cases e : k = j
    · subst e
      exact ⟨_, World.cell?_setCell_same _ _ _ hv0⟩
    · rw [World.cell?_setCell_other _ _ _ _ (by intro h'; injection h' with _ h' _; omega)]
      exact h.any k hk
  · by_cases e : k = j
    · subst e
      exact World.cell?_setCell_same _ _ _ hv0
    · rw [World.cell?_setCell_other _ _ _ _ (by intro h'; injection h' with _ h' _; omega)]
      exact h.cells k hk (by omega)
  · obtain ⟨c, h1, h2⟩ := h.blk
    exact ⟨_, heap_set h1 _, by simpa using h2⟩
theorem kids_not {L : List Ac} (hG : Good L) {x : Nm} (h0 : x ≠ []) (hf : fnd L x = none) : kids L x = [] := by
  cases e : kids L x with
  | nil => rfl
  | cons y t =>
    obtain ⟨⟨a, ha, rfl⟩, hp⟩ := mem_kids.1 (show y ∈ kids L x by rw [e]; exact List.mem_cons_self ..)
    exfalso
    rcases ups_cases a.nm with e | ⟨p, e, _, _⟩
    · rw [par, e] at hp
      exact h0 hp.symm
    · rw [par, e] at hp
      have hx : p = x := hp
      obtain ⟨b, hb, hbp, _⟩ := hG.up a ha p _ e
      exact fnd_none hf ⟨b, hb, hbp.trans hx⟩
theorem made48 (X : World) (K : List Nm) (h : K.length ≤ 100) : ∃ W1, (Instr.makeSlice 93 (.int .i64 (K.length : Int)) (.int .i64 (K.length : Int))).run Tryz.prog X = .ok (.slice (some ⟨X.heap.size, 0, none⟩) K.length K.length) W1 ∧ ∀ W, Kdr W X K 0 W1 := by
  obtain ⟨i0, hi, hz0, hz1, hz2⟩ := info_parts info9
  have hmk0 := run_make (P := Tryz.prog) X 93 9 i0 _ Tryz.underlying93 hi hz0 .i64 .i64 (K.length : Int) (K.length : Int) (by omega) (by omega) (by rw [hz2]; omega) (by omega)
  have ec : ((K.length : Int)).toNat = K.length := by omega
  rw [ec] at hmk0
  refine ⟨_, hmk0, fun W => ⟨(Below.refl _ _).alloc (Nat.le_refl _) _, by simp, fun k => by simp, fun k hk => ?_, (fun k hk hk2 => by omega), ⟨_, World.alloc_heap_new _ _, by rw [size_madeCells, hz1]; omega⟩⟩⟩
  rw [World.cell?_alloc_mark]
  exact ⟨_, Array.getElem?_eq_getElem (by rw [size_madeCells, hz1]; omega)⟩
theorem Kdr.out {W X : World} {K : List Nm} {wr : World} (h : Kdr W X K K.length wr) (hk1 : K.length ≤ 100) (hb : Below W.heap.size W X) : KidsOwn W K (.returned (.slice (some ⟨X.heap.size, 0, none⟩) K.length K.length)) wr := by
  refine ⟨⟨hb.trans (h.below.mono hb.size), _, rfl, fun k hk => ⟨_, rfl, hb.size, h.lt, h.cells k hk hk⟩⟩, _, rfl, by simp, .inr ?_⟩
  obtain ⟨c, h1, h2⟩ := h.blk
  refine ⟨_, _, c, rfl, hb.size, h1, Nat.le_refl _, by unfold maxLen; omega, by omega, ?_⟩
  rw [List.take_of_length_le (by simp [h2])]
  refine List.ext_getElem (by simp [h2]) fun k k1 k2 => ?_
  have hk : k < K.length := by simpa using k2
  have hc := h.cells k hk hk
  unfold World.cell? at hc
  simp only [h1] at hc
  have hk3 : k < c.size := by omega
  simp [hk3] at hc
  simp [hc]
set_option maxRecDepth 100000 in
set_option maxHeartbeats 4000000 in
theorem kids_own {W : World} {d : Nat} {S : Nat → Prop} {L : List Ac} {g : Gh} (h : Ct W d S L g) (t : ByteArray) (ht : t.size < 4611686018427387904) :
    Calls Tryz.prog 185 #[ptr d, .string t] W fun e w' => KidsOwn W (kids L t.data.toList) e w' := by
  have dS := hide (seek_any h.ch h.good h.inh t ht)
  have HC := hide h
  obtain ⟨x, hx⟩ : ∃ x, x = t.data.toList := ⟨_, rfl⟩
  rw [← hx] at dS ⊢
  obtain ⟨K, hK⟩ : ∃ K, K = kids L x := ⟨_, rfl⟩
  have hK1 : K.length ≤ 100 := by rw [hK]; exact Nat.le_trans (kids_len L x) h.good.len
  rw [← hK]
  by_cases h0 : x = []
  · have hN : isN L x := .inl h0
    have htx : t = ⟨#[]⟩ := by
      apply empty_of_size
      have := congrArg List.length (hx.symm.trans h0)
      simpa using this
    have hf : fnd L x = none := by
      cases hf : fnd L x with
      | none => rfl
      | some a =>
        obtain ⟨h1, h2⟩ := fnd_some hf
        exact absurd (h2.trans h0) (name_ne (h.good.name a h1))
    rw [seek_none hf] at dS
    have hnd : g.nd x = d := by rw [h0]; exact h.ch.top
    subst htx
    clear h hf h0 hx ht
    go_enter Tryz.func185, Tryz.ntmps185
    go_upto_region 2 with (go_at_call 218; refine (unhide dS).mono ?_; rintro e X ⟨rfl, hb⟩)
    have hCX : Ct X d S L g := (unhide HC).below hb
    have c4 := hCX.ch.kids4 hN
    rw [hnd] at c4
    obtain ⟨W1, hmk, hkd⟩ := made48 X K hK1
    have KD := hide (hkd W)
    have HB := hide hb
    have hz := (unhide HC).inh
    have hrow : Hid (∀ i (hi : i < K.length), ∃ q y, ksl g L x = .slice (some ⟨q, 0, none⟩) K.length (g.kc x) ∧ K[i] = y ∧ X.cell? ⟨q, i, none⟩ = some (ptr (g.nd y)) ∧ X.cell? ⟨g.nd y, 0, none⟩ = some (.string (txN y))) := by
      subst hK
      intro i hi
      rcases hCX.ch.rowK hN with e | ⟨q, e, hr⟩
      · rw [e] at hi
        exact absurd hi (by simp)
      · exact ⟨q, _, e, rfl, hr.row i hi, hr.nam _ (List.getElem_mem hi)⟩
    have hks : ∃ p c, ksl g L x = .slice p K.length c ∧ g.kc x = c := by
      subst hK
      exact ⟨_, _, rfl, rfl⟩
    obtain ⟨p, c, hks, hkc⟩ := hks
    rw [hks] at c4 hrow
    rw [hkc] at hrow
    obtain ⟨n, hn⟩ : ∃ n, K.length = n := ⟨_, rfl⟩
    rw [hn] at c4 hmk hK1
    have HN := hide hn
    have c41 : W1.cell? ⟨d, 4, none⟩ = some (.slice p n c) := ((unhide KD).below.cell (p := ⟨d, 4, none⟩) (World.block_lt_of_cell? X _ c4)).trans c4
    clear hCX hb hkd hz hks hkc hn hK hN hnd
    go_wp2_with fail
    go_loopw [30] (fun v30 wr => ∃ i : Nat, i ≤ n ∧ v30 = .int .i64 i ∧ Hid (Kdr W X K i wr)) (fun v30 _ => n - (intOf' v30).toNat)
    case atStart => exact ⟨0, Nat.zero_le _, rfl, unhide KD⟩
    case round =>
      obtain ⟨i, hi, rfl, hrel⟩ := hrel
      by_cases hlt : i < n
      · have hil : i < K.length := by rw [unhide HN]; exact hlt
        obtain ⟨q, y, hq, hy, hqc, hyc⟩ := unhide hrow i hil
        injection hq with hq _ _
        subst hq
        have bw := (unhide hrel).below
        have hq1 := (bw.cell (p := ⟨q, i, none⟩) (World.block_lt_of_cell? X _ hqc)).trans hqc
        obtain ⟨b, hb⟩ : ∃ b, b = g.nd y := ⟨_, rfl⟩
        rw [← hb] at hq1 hyc
        have hy1 := (bw.cell (p := ⟨b, 0, none⟩) (World.block_lt_of_cell? X _ hyc)).trans hyc
        obtain ⟨v0, hv0⟩ := (unhide hrel).any i hil
        have hfz := (unhide hrel).fz i
        have HST := hide ((unhide hrel).step hil)
        rw [hy] at HST
        obtain ⟨Y, hY⟩ : ∃ Y, Y = txN y := ⟨_, rfl⟩
        rw [← hY] at HST hy1
        have hwi : IntKind.i64.wrap ((i : Int) + 1) = (i : Int) + 1 := wrapI (by omega) (by omega)
        clear hqc hyc bw hb hy hY c4 c41 hil hmk
        go_wp2_with fail
        refine ⟨⟨i + 1, by omega, by simp, unhide HST⟩, ?_⟩
        show n - ((i : Int) + 1).toNat < n - ((i : Int)).toNat
        omega
      · have hin : i = n := by omega
        subst hin
        have hall : Hid (Kdr W X K K.length wr) := by
          rw [unhide HN]
          exact unhide hrel
        clear c4 c41 hmk
        go_wp2_with fail
        go_ret
        have := (unhide hall).out (by rw [unhide HN]; exact hK1) (unhide HB)
        rw [unhide HN] at this
        exact this
  · by_cases hf0 : fnd L x = none
    · rw [seek_none hf0] at dS
      have hK0 : K = [] := by rw [hK]; exact kids_not h.good h0 hf0
      have hne := ne_of_size (s := t) (fun e => h0 (by rw [hx, empty_of_size e]))
      rw [hK0]
      clear hK hK0 hK1 h hf0 h0 hx ht
      go_enter Tryz.func185, Tryz.ntmps185
      go_wp2_with (go_at_call 218; refine (unhide dS).mono ?_; rintro e X ⟨rfl, hb⟩; have HB := hide hb; clear hb)
      go_ret
      exact ⟨⟨unhide HB, none, rfl, fun k hk => absurd hk (by simp)⟩, _, rfl, rfl, .inl ⟨rfl, rfl⟩⟩
    · have hN : isN L x := by
        cases hf : fnd L x with
        | none => exact absurd hf hf0
        | some a =>
          obtain ⟨h1, h2⟩ := fnd_some hf
          exact .inr ⟨a, h1, h2⟩
      have hsk : seekV g L x = ptr (g.nd x) := by
        cases hf : fnd L x with
        | none => exact absurd hf hf0
        | some a => exact seek_some hf
      rw [hsk] at dS
      obtain ⟨d', hnd⟩ : ∃ d', g.nd x = d' := ⟨_, rfl⟩
      rw [hnd] at dS
      have hne := ne_of_size (s := t) (fun e => h0 (by rw [hx, empty_of_size e]))
      clear hsk h hf0 h0 hx ht
      go_enter Tryz.func185, Tryz.ntmps185
      go_upto_region 2 with (go_at_call 218; refine (unhide dS).mono ?_; rintro e X ⟨rfl, hb⟩)
      have hCX : Ct X d S L g := (unhide HC).below hb
      have c4 := hCX.ch.kids4 hN
      rw [hnd] at c4
      obtain ⟨W1, hmk, hkd⟩ := made48 X K hK1
      have KD := hide (hkd W)
      have HB := hide hb
      have hz := (unhide HC).inh
      have hrow : Hid (∀ i (hi : i < K.length), ∃ q y, ksl g L x = .slice (some ⟨q, 0, none⟩) K.length (g.kc x) ∧ K[i] = y ∧ X.cell? ⟨q, i, none⟩ = some (ptr (g.nd y)) ∧ X.cell? ⟨g.nd y, 0, none⟩ = some (.string (txN y))) := by
        subst hK
        intro i hi
        rcases hCX.ch.rowK hN with e | ⟨q, e, hr⟩
        · rw [e] at hi
          exact absurd hi (by simp)
        · exact ⟨q, _, e, rfl, hr.row i hi, hr.nam _ (List.getElem_mem hi)⟩
      have hks : ∃ p c, ksl g L x = .slice p K.length c ∧ g.kc x = c := by
        subst hK
        exact ⟨_, _, rfl, rfl⟩
      obtain ⟨p, c, hks, hkc⟩ := hks
      rw [hks] at c4 hrow
      rw [hkc] at hrow
      obtain ⟨n, hn⟩ : ∃ n, K.length = n := ⟨_, rfl⟩
      rw [hn] at c4 hmk hK1
      have HN := hide hn
      have c41 : W1.cell? ⟨d', 4, none⟩ = some (.slice p n c) := ((unhide KD).below.cell (p := ⟨d', 4, none⟩) (World.block_lt_of_cell? X _ c4)).trans c4
      clear hCX hb hkd hz hks hkc hn hK hN hnd
      go_wp2_with fail
      go_loopw [30] (fun v30 wr => ∃ i : Nat, i ≤ n ∧ v30 = .int .i64 i ∧ Hid (Kdr W X K i wr)) (fun v30 _ => n - (intOf' v30).toNat)
      case atStart => exact ⟨0, Nat.zero_le _, rfl, unhide KD⟩
      case round =>
        obtain ⟨i, hi, rfl, hrel⟩ := hrel
        by_cases hlt : i < n
        · have hil : i < K.length := by rw [unhide HN]; exact hlt
          obtain ⟨q, y, hq, hy, hqc, hyc⟩ := unhide hrow i hil
          injection hq with hq _ _
          subst hq
          have bw := (unhide hrel).below
          have hq1 := (bw.cell (p := ⟨q, i, none⟩) (World.block_lt_of_cell? X _ hqc)).trans hqc
          obtain ⟨b, hb⟩ : ∃ b, b = g.nd y := ⟨_, rfl⟩
          rw [← hb] at hq1 hyc
          have hy1 := (bw.cell (p := ⟨b, 0, none⟩) (World.block_lt_of_cell? X _ hyc)).trans hyc
          obtain ⟨v0, hv0⟩ := (unhide hrel).any i hil
          have hfz := (unhide hrel).fz i
          have HST := hide ((unhide hrel).step hil)
          rw [hy] at HST
          obtain ⟨Y, hY⟩ : ∃ Y, Y = txN y := ⟨_, rfl⟩
          rw [← hY] at HST hy1
          have hwi : IntKind.i64.wrap ((i : Int) + 1) = (i : Int) + 1 := wrapI (by omega) (by omega)
          clear hqc hyc bw hb hy hY c4 c41 hil hmk
          go_wp2_with fail
          refine ⟨⟨i + 1, by omega, by simp, unhide HST⟩, ?_⟩
          show n - ((i : Int) + 1).toNat < n - ((i : Int)).toNat
          omega
        · have hin : i = n := by omega
          subst hin
          have hall : Hid (Kdr W X K K.length wr) := by
            rw [unhide HN]
            exact unhide hrel
          clear c4 c41 hmk
          go_wp2_with fail
          go_ret
          have := (unhide hall).out (by rw [unhide HN]; exact hK1) (unhide HB)
          rw [unhide HN] at this
          exact this
end Go.Proofs.YtcafhmlpmbkhkaaGreatDoor.Ch
