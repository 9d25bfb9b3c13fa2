import Derived.Test.YtdeibifjiefapaaGreatDoorW22
/- The document's chart: Open (17). -/
namespace Go.Proofs.YtdeibifjiefapaaGreatDoor
open Go Go.Shelf Go.ChangeShapes Go.WideShapes Go.ChangeAt Go.RowKit Go.Maps Go.Sort
set_option linter.unusedVariables false
theorem rat_none {W : World} {d : Nat} {S : Nat → Prop} {L : List Ac} (h : Rc W d S L) {t : ByteArray} (hf : fnd L t.data.toList = none) :
    Calls Tryz.prog 88 #[ptr d, .string t] W fun e w' => e = .returned (.int .i64 (-1)) ∧ w' = W := by
  refine (rat_any h t).mono ?_
  rintro e w' ⟨⟨r, rfl, ho⟩, hw⟩
  rcases ho with ⟨i, hi, rfl, h1⟩ | ⟨rfl, _⟩
  · rw [hf] at h1; cases h1
  · exact ⟨rfl, hw⟩
theorem rat_some {W : World} {d : Nat} {S : Nat → Prop} {L : List Ac} (h : Rc W d S L) {t : ByteArray} {a : Ac} (hf : fnd L t.data.toList = some a) : ∃ (i : Nat) (hi : i < L.length), L[i] = a ∧
    Calls Tryz.prog 88 #[ptr d, .string t] W fun e w' => e = .returned (.int .i64 (i : Int)) ∧ w' = W := by
  obtain ⟨hm, hx⟩ := fnd_some hf
  obtain ⟨i, hi, rfl⟩ := List.mem_iff_getElem.1 hm
  refine ⟨i, hi, rfl, (rat_any h t).mono ?_⟩
  rintro e w' ⟨⟨r, rfl, ho⟩, hw⟩
  rcases ho with ⟨j, hj, rfl, h1⟩ | ⟨rfl, h1⟩
  · rw [hf] at h1
    have h2 : L[i] = L[j] := Option.some.inj h1
    have h3 := List.pairwise_iff_getElem.1 h.isGood.rise
    rcases Nat.lt_trichotomy i j with h4 | h4 | h4
    · have h5 := h3 i j hi hj h4
      rw [h2] at h5
      exact absurd h5 (slt_irrefl _)
    · subst h4
      exact ⟨rfl, hw⟩
    · have h5 := h3 j i hj hi h4
      rw [h2] at h5
      exact absurd h5 (slt_irrefl _)
  · rw [hf] at h1; cases h1
theorem filter_snoc (L : List Ac) {i : Nat} (hi : i < L.length) (q : Ac → Bool) : (L.take (i + 1)).filter q = if q L[i] = true then (L.take i).filter q ++ [L[i]] else (L.take i).filter q := by
  rw [← List.take_append_getElem hi, List.filter_append]
  by_cases h : q L[i] = true
  · rw [if_pos h, List.filter_cons_of_pos h]
    rfl
  · rw [if_neg h, List.filter_cons_of_neg h]
    simp
/-- a list that is being made, behind a world -/
def Mkl (Y : World) (K : List Ac) (v : Value) (m : Nat) (wr : World) : Prop := Below Y.heap.size Y wr ∧ K.length = m ∧ wr.ownsRow Y.heap.size 65 4 v m (kA.flat K)
theorem Mkl.nil (Y : World) : Mkl Y [] (.slice none 0 0) 0 Y := ⟨Below.refl _ _, rfl, World.ownsRow_nil _ _ _ _⟩
/-- one account more -/
theorem Mkl.more {Y wr : World} {K : List Ac} {p : Option Addr} {m c : Nat} (h : Mkl Y K (.slice p m c) m wr) (a : Ac) (hm : m ≤ 1000) : ∃ p' c' w', (Builtin.append_ #[22, 22] 22 #[.slice p m c, .slice (some ⟨wr.heap.size, 0, none⟩) 1 1]).run Tryz.prog (wr.alloc (.cells #[.string (txN a.nm), .int .i64 a.ty, .int .i64 a.dy, .bool a.cl] 65)) = .ok (.slice p' (m + 1) c') w' ∧ Mkl Y (K ++ [a]) (.slice p' (m + 1) c') (m + 1) w' := by
  obtain ⟨h1, h2, h3⟩ := h
  obtain ⟨p', c', w', hr, ho, hb, _⟩ := run_app kA_ok (L := K) (M := [a]) (n := m) 22 (h3.alloc (.cells #[.string (txN a.nm), .int .i64 a.ty, .int .i64 a.dy, .bool a.cl] 65)) (by rw [World.size_alloc]; have := h1.size; omega) (some ⟨wr.heap.size, 0, none⟩) 1 (fun h => by cases h) (one_lies wr a 65 _ rfl) (by simp; omega)
  exact ⟨p', c', w', hr, (h1.alloc h1.size _).trans hb, by rw [List.length_append, h2]; rfl, ho⟩
/-- the new list put into the chart -/
theorem Rc.put {W Y wr : World} {d : Nat} {S : Nat → Prop} {L M : List Ac} {p : Option Addr} {m c : Nat} (h : Rc W d S L) (hY : Below W.heap.size W Y) (hm : Mkl Y M (.slice p m c) m wr) (hG : Good M) : RChg W d S M (wr.setCell ⟨d, 0, none⟩ (.slice p m c)) := by
  obtain ⟨v, h⟩ := h
  obtain ⟨h1, h2, h3⟩ := hm
  have hd : d < W.heap.size := h.inh d h.sd
  have hWr := hY.trans (h1.mono hY.size)
  have hb := (hWr.block d hd).trans h.blk
  have hown : ∀ g, (Value.slice p m c).ownBlock = some g → Y.heap.size ≤ g ∧ g < wr.heap.size := fun g hg => ⟨(row_block h3 hg).1, (row_block h3 hg).2.1⟩
  have hYs := hY.size
  refine ⟨fun k => k = d ∨ (Value.slice p m c).ownBlock = some k, ⟨.slice p m c, heap_set hb _, ?_, hG, .inl rfl, fun g hg => ⟨.inr hg, fun e => ?_⟩, fun k hk => ?_⟩, fun k hk => ?_, ⟨hWr.os, hWr.tape, hWr.output, by simpa using hWr.size, fun k hk hs => (Below.heap_setCell _ _ _ _ (fun e => hs (by rw [e]; exact h.sd))).trans (hWr.block k hk)⟩⟩
  · rw [h2]
    exact row_keep (row_le h3 (Nat.zero_le _)) (fun g hg => Below.heap_setCell _ _ _ _ (fun e => by
      have h4 := (hown g hg).1
      have e2 : g = d := e
      omega))
  · have := (hown g hg).1
    omega
  · have := hWr.size
    rcases hk with rfl | hk
    · simp; omega
    · have := (hown k hk).2
      simpa using this
  · rcases hk with rfl | hk
    · exact .inl h.sd
    · have := (hown k hk).1
      exact .inr (by omega)
section
attribute [local go_sem ↓] ld41_is
set_option maxRecDepth 100000 in
set_option maxHeartbeats 16000000 in
theorem ropen_any {W : World} {d : Nat} {S : Nat → Prop} {L : List Ac} (h : Rc W d S L) (tx : ByteArray) (htx : tx.size < 4611686018427387904) (t z : Int) :
    Calls Tryz.prog 17 #[ptr d, .string tx, .int .i64 t, .int .i64 z] W fun e w' => e = .returned (.int .i64 (openE L tx.data.toList t z)) ∧ RChg W d S (openL L tx.data.toList t z) w' := by
  obtain ⟨x, hx⟩ : ∃ x, x = tx.data.toList := ⟨_, rfl⟩
  have HX := hide hx
  have dG := hide (rgood_any tx htx)
  have dD := hide (ris_any z)
  have dP := hide (rparent_any tx htx)
  rw [← hx] at dG dP ⊢
  have HC := hide h
  have HG := hide h.isGood
  have hlen := h.isGood.len
  obtain ⟨pl, cl, hc, hfz, hl, _, _⟩ := h.open
  have HL := hide hl
  have hdW : d < W.heap.size := World.block_lt_of_cell? _ _ hc
  obtain ⟨n, hn⟩ : ∃ n, n = L.length := ⟨_, rfl⟩
  rw [← hn] at hc hlen
  have HN := hide hn
  obtain ⟨E, hE⟩ : ∃ E, E = openE L x t z := ⟨_, rfl⟩
  obtain ⟨M, hM⟩ : ∃ M, M = openL L x t z := ⟨_, rfl⟩
  have HEO := hide hE
  rw [← hE, ← hM]
  have HM0 : Hid (E ≠ 0 → ∀ Y, Below W.heap.size W Y → RChg W d S M Y) := fun h0 Y hY => by
    rw [hM, openL, if_neg (by rw [← hE]; exact h0)]
    exact RChg.below (unhide HC) hY
  have HM1 : Hid (E = 0 → M = insA L (opA L x t z)) := fun h0 => by rw [hM, openL, if_pos (by rw [← hE]; exact h0)]
  unfold openE at hE
  clear h hl hn hM
  by_cases h1 : nameL x = false
  · rw [if_pos h1] at hE
    rw [h1] at dG
    subst hE
    have HF := hide (unhide HM0 (by decide) _ (Below.refl _ _))
    clear HM0 HM1 h1
    as_aux_lemma =>
      go_enter Tryz.func17, Tryz.ntmps17
      go_wp2_with (go_at_call 86; refine (unhide dG _).mono ?_; rintro e X ⟨rfl, hX⟩; rw [hX]; clear hX)
      go_ret
      exact ⟨rfl, unhide HF⟩
  rw [if_neg h1] at hE
  have h1t : nameL x = true := by simpa using h1
  rw [h1t] at dG
  by_cases h2 : 1 ≤ z ∧ z ≤ 3652059
  case neg =>
    rw [if_pos (.inl h2)] at hE
    rw [decide_eq_false h2] at dD
    subst hE
    have HF := hide (unhide HM0 (by decide) _ (Below.refl _ _))
    clear HM0 HM1 h1 h1t h2
    as_aux_lemma =>
      go_enter Tryz.func17, Tryz.ntmps17
      go_wp2_with (first | (go_at_call 86; refine (unhide dG _).mono ?_; rintro e X ⟨rfl, hX⟩; rw [hX]; clear hX) | (go_at_call 87; refine (unhide dD _).mono ?_; rintro e X2 ⟨rfl, hX⟩; rw [hX]; clear hX))
      go_ret
      exact ⟨rfl, unhide HF⟩
  rw [decide_eq_true h2] at dD
  by_cases h3 : t < 0
  · rw [if_pos (.inr ⟨by omega, by omega⟩)] at hE
    subst hE
    have HF := hide (unhide HM0 (by decide) _ (Below.refl _ _))
    clear HM0 HM1 h1 h1t h2
    as_aux_lemma =>
      go_enter Tryz.func17, Tryz.ntmps17
      go_wp2_with (first | (go_at_call 86; refine (unhide dG _).mono ?_; rintro e X ⟨rfl, hX⟩; rw [hX]; clear hX) | (go_at_call 87; refine (unhide dD _).mono ?_; rintro e X2 ⟨rfl, hX⟩; rw [hX]; clear hX))
      go_ret
      exact ⟨rfl, unhide HF⟩
  by_cases h4 : 5 < t
  · rw [if_pos (.inr ⟨by omega, by omega⟩)] at hE
    subst hE
    have HF := hide (unhide HM0 (by decide) _ (Below.refl _ _))
    clear HM0 HM1 h1 h1t h2
    as_aux_lemma =>
      go_enter Tryz.func17, Tryz.ntmps17
      go_wp2_with (first | (go_at_call 86; refine (unhide dG _).mono ?_; rintro e X ⟨rfl, hX⟩; rw [hX]; clear hX) | (go_at_call 87; refine (unhide dD _).mono ?_; rintro e X2 ⟨rfl, hX⟩; rw [hX]; clear hX))
      go_ret
      exact ⟨rfl, unhide HF⟩
  rw [if_neg (by omega)] at hE
  cases hf : fnd L x with
  | some a0 =>
    rw [hf, if_pos (show (some a0).isSome = true from rfl)] at hE
    obtain ⟨i0, hi0, _, hA0⟩ := rat_some (unhide HC) (t := tx) (by rw [← unhide HX]; exact hf)
    have dA := hide hA0
    subst hE
    have HF := hide (unhide HM0 (by decide) _ (Below.refl _ _))
    have hi1 : (0 : Int) ≤ (i0 : Int) := by omega
    clear HM0 HM1 h1 h1t h2 hf hA0
    as_aux_lemma =>
      go_enter Tryz.func17, Tryz.ntmps17
      go_wp2_with (first | (go_at_call 86; refine (unhide dG _).mono ?_; rintro e X ⟨rfl, hX⟩; rw [hX]; clear hX) | (go_at_call 87; refine (unhide dD _).mono ?_; rintro e X2 ⟨rfl, hX⟩; rw [hX]; clear hX) | (go_at_call 88; refine (unhide dA).mono ?_; rintro e X3 ⟨rfl, hX⟩; rw [hX]; clear hX))
      go_ret
      exact ⟨rfl, unhide HF⟩
  | none =>
    rw [hf, if_neg (by simp)] at hE
    have dA := hide (rat_none (unhide HC) (t := tx) (by rw [← unhide HX]; exact hf))
    have HFN := hide hf
    clear hf
    by_cases h5 : 100 ≤ n
    · rw [if_pos (by rw [← unhide HN]; exact h5)] at hE
      subst hE
      have HF := hide (unhide HM0 (by decide) _ (Below.refl _ _))
      have h5i : (100 : Int) ≤ (n : Int) := by omega
      clear HM0 HM1 h1 h1t h2
      as_aux_lemma =>
        go_enter Tryz.func17, Tryz.ntmps17
        go_wp2_with (first | (go_at_call 86; refine (unhide dG _).mono ?_; rintro e X ⟨rfl, hX⟩; rw [hX]; clear hX) | (go_at_call 87; refine (unhide dD _).mono ?_; rintro e X2 ⟨rfl, hX⟩; rw [hX]; clear hX) | (go_at_call 88; refine (unhide dA).mono ?_; rintro e X3 ⟨rfl, hX⟩; rw [hX]; clear hX))
        go_ret
        exact ⟨rfl, unhide HF⟩
    rw [if_neg (by rw [← unhide HN]; exact h5)] at hE
    have h5i : ¬ (100 : Int) ≤ (n : Int) := by omega
    have HCY : Hid (∀ Y, Below W.heap.size W Y → Y.cell? ⟨d, 0, none⟩ = some (.slice pl n cl)) := fun Y hY => (hY.cell (p := ⟨d, 0, none⟩) hdW).trans hc
    have HFZ : Hid (∀ Y, Below W.heap.size W Y → Y.frozen? ⟨d, 0, none⟩ = false) := fun Y hY => (hY.frozen (p := ⟨d, 0, none⟩) hdW).trans hfz
    rcases ups_cases x with e | ⟨p, e, hp, _⟩
    · rw [e] at hE
      have hps : parS x = (⟨#[]⟩, false) := by rw [parS, if_pos h1t, e]
      rw [hps] at dP
      by_cases h6 : t = 0
      · have hE2 : E = 64 := by rw [hE]; exact if_pos h6
        subst hE2 h6
        have HF := hide (unhide HM0 (by decide))
        clear HM0 HM1 h1 h1t h2 e hps hE
        as_aux_lemma =>
          go_enter Tryz.func17, Tryz.ntmps17
          go_wp2_with (first | (go_at_call 86; refine (unhide dG _).mono ?_; rintro e X ⟨rfl, hX⟩; rw [hX]; clear hX) | (go_at_call 87; refine (unhide dD _).mono ?_; rintro e X2 ⟨rfl, hX⟩; rw [hX]; clear hX) | (go_at_call 88; refine (unhide dA).mono ?_; rintro e X3 ⟨rfl, hX⟩; rw [hX]; clear hX) | (go_at_call 89; refine (unhide dP _).mono ?_; rintro e Y ⟨rfl, hb⟩; have HFY := hide (unhide HF Y hb); clear hb))
          go_ret
          exact ⟨rfl, unhide HFY⟩
      · have hE2 : E = 0 := by rw [hE]; exact if_neg h6
        have hM2 := unhide HM1 hE2
        have hop : opA L x t z = ⟨x, t, z, false⟩ := by rw [opA, e]
        rw [hop] at hM2
        have hfit := open_fits (unhide HG) (show openE L x t z = 0 by rw [← unhide HEO]; exact hE2)
        rw [hop] at hfit
        have HFIT := hide hfit
        have HM2 := hide hM2
        subst hE2
        have h6b : (t != 0) = true := by simpa using h6
        have h6c : (t == 0) = false := by simpa using h6
        clear HM0 HM1 h1 h1t h2 e hps hE hop hM2 hfit
        as_aux_lemma =>
          go_enter Tryz.func17, Tryz.ntmps17
          go_upto_region 12 with (first | (go_at_call 86; refine (unhide dG _).mono ?_; rintro e X ⟨rfl, hX⟩; rw [hX]; clear hX) | (go_at_call 87; refine (unhide dD _).mono ?_; rintro e X2 ⟨rfl, hX⟩; rw [hX]; clear hX) | (go_at_call 88; refine (unhide dA).mono ?_; rintro e X3 ⟨rfl, hX⟩; rw [hX]; clear hX) | (go_at_call 89; refine (unhide dP _).mono ?_; rintro e Y ⟨rfl, hb⟩; have BY := hide hb; clear hb))
          have cdY := unhide HCY _ (unhide BY)
          go_upto_region 24 with fail
          have hTx : txN x = tx := txt_eq (unhide HX)
          obtain ⟨Y1, hY1⟩ : ∃ Y1, Y1 = Y.alloc (.cells #[.string tx, .int .i64 t, .int .i64 z, .bool false] 65) := ⟨_, rfl⟩
          rw [← hY1]
          have BY1 : Hid (Below W.heap.size W Y1) := by rw [hY1]; exact (unhide BY).alloc (unhide BY).size _
          have RA : Hid (Y1.heap[Y.heap.size]? = some (.cells #[.string tx, .int .i64 t, .int .i64 z, .bool false] 65) ∧ Y.heap.size < Y1.heap.size) := by rw [hY1]; exact ⟨World.alloc_heap_new Y _, by simp⟩
          have HTX := hide hTx
          clear hY1 hTx dG dD dA dP cdY
          go_wp2_with fail
          go_loopw [15, 16] (fun v15 v16 wr => ∃ (i m c : Nat) (p : Option Addr), i ≤ n ∧ m ≤ i ∧ v15 = .slice p m c ∧ v16 = .int .i64 i ∧ Hid (Mkl Y1 ((L.take i).filter fun b => decide (b.nm < x)) (.slice p m c) m wr)) (fun _ v16 _ => n - (intOf' v16).toNat)
          case atStart => exact ⟨0, 0, 0, none, Nat.zero_le _, Nat.le_refl _, rfl, rfl, Mkl.nil _⟩
          case round =>
            obtain ⟨i, m, c, p9, hi, hmi, rfl, rfl, hrel⟩ := hrel
            obtain ⟨w7, hw7⟩ : ∃ w7, w7 = wr := ⟨_, rfl⟩
            rw [← hw7] at hrel ⊢
            clear hw7
            have hB7 := (unhide BY1).trans ((unhide hrel).1.mono (unhide BY1).size)
            have cd7 := unhide HCY _ hB7
            by_cases hlt : i < n
            · have hiL : i < L.length := by rw [← unhide HN]; exact hlt
              obtain ⟨b, off, hp7, hbW, hr7⟩ := (unhide HL).2 i hiL
              cases hp7
              have c0 := (acc_cells4 (unhide HL) hiL hB7).1
              have hld := run_ld41 (w := w7) (b := b) (o := off + i * 4) (a := L[i]) (fun j v hv => (hB7.cell (p := ⟨b, off + i * 4 + j, none⟩) hbW).trans (hr7 j v hv))
              have hsn := filter_snoc L hiL (fun b => decide (b.nm < x))
              have hwi : IntKind.i64.wrap ((i : Int) + 1) = (i : Int) + 1 := wrapI (by omega) (by omega)
              obtain ⟨a, ha⟩ : ∃ a, a = L[i] := ⟨_, rfl⟩
              rw [← ha] at c0 hld hsn
              have bl1 : Op.bytesLess (txN a.nm).toList tx.toList = decide (a.nm < x) := by rw [Go.Proofs.bytesLess_eq, ByteArray.toList_eq, ByteArray.toList_eq, txN_list, ← unhide HX]
              unfold acV at hld
              by_cases hlx : a.nm < x
              · rw [decide_eq_true hlx] at bl1
                rw [if_pos (by simpa using hlx)] at hsn
                obtain ⟨p8, c8, w8, hr8, hf8⟩ := (unhide hrel).more a (by omega)
                have HF8 : Hid (Mkl Y1 ((L.take (i + 1)).filter fun b => decide (b.nm < x)) (.slice p8 (m + 1) c8) (m + 1) w8) := by rw [hsn]; exact hf8
                have HR8 := hide hr8
                obtain ⟨T, hT⟩ : ∃ T, T = txN a.nm := ⟨_, rfl⟩
                rw [← hT] at c0 hld bl1 HR8
                clear hlx hsn hr8 hf8 hT ha hr7 hbW hB7 hrel
                as_aux_lemma =>
                  go_wp2_with (at_builtin; refine wpList_append_run rfl _ _ 22 rfl _ _ _ _ rfl rfl (unhide HR8) ?_)
                  refine ⟨⟨i + 1, m + 1, c8, p8, by omega, by omega, by first | rfl | simp, by simp, unhide HF8⟩, ?_⟩
                  show n - ((i : Int) + 1).toNat < n - ((i : Int)).toNat
                  omega
              · rw [decide_eq_false hlx] at bl1
                rw [if_neg (by simpa using hlx)] at hsn
                have HF8 : Hid (Mkl Y1 ((L.take (i + 1)).filter fun b => decide (b.nm < x)) (.slice p9 m c) m w7) := by rw [hsn]; exact unhide hrel
                obtain ⟨T, hT⟩ : ∃ T, T = txN a.nm := ⟨_, rfl⟩
                rw [← hT] at c0 hld bl1
                clear hlx hsn hT ha hr7 hbW hB7 hrel
                as_aux_lemma =>
                  go_wp2_with fail
                  refine ⟨⟨i + 1, m, c, p9, by omega, by omega, rfl, by simp, unhide HF8⟩, ?_⟩
                  show n - ((i : Int) + 1).toNat < n - ((i : Int)).toNat
                  omega
            · have hin7 : i = n := by omega
              subst hin7
              have hra : w7.heap[Y.heap.size]? = some (.cells #[.string (txN x), .int .i64 t, .int .i64 z, .bool false] 65) := by rw [unhide HTX]; exact ((unhide hrel).1.block _ (unhide RA).2).trans (unhide RA).1
              have hldA := run_ld41 (a := ⟨x, t, z, false⟩) (range4 hra)
              obtain ⟨p8, c8, w8, hr8, hf8⟩ := (unhide hrel).more ⟨x, t, z, false⟩ (by omega)
              rw [List.take_of_length_le (by rw [← unhide HN]; exact Nat.le_refl _)] at hf8
              unfold acV at hldA
              rw [unhide HTX] at hr8 hldA
              have HR8 := hide hr8; have HF8 := hide hf8
              clear hr8 hf8 hra hB7 hrel
              go_upto_region 31 with (at_builtin; refine wpList_append_run rfl _ _ 22 rfl _ _ _ _ rfl rfl (unhide HR8) ?_)
              clear hldA HR8 cd7
              go_wp2_with fail
              go_loopw [15, 17] (fun v15 v17 wr => ∃ (k m c : Nat) (p : Option Addr), k ≤ i ∧ m ≤ 101 + k ∧ v15 = .slice p m c ∧ v17 = .int .i64 k ∧ Hid (Mkl Y1 (((L.filter fun b => decide (b.nm < x)) ++ [⟨x, t, z, false⟩]) ++ (L.take k).filter fun b => decide (x < b.nm)) (.slice p m c) m wr)) (fun _ v17 _ => i - (intOf' v17).toNat)
              case atStart => exact ⟨0, m + 1, c8, p8, Nat.zero_le _, by omega, rfl, rfl, by rw [List.take_zero]; show Mkl _ (_ ++ []) _ _ _; rw [List.append_nil]; exact unhide HF8⟩
              case round =>
                obtain ⟨k, m2, c2, p2, hk, hmk, rfl, rfl, hrel⟩ := hrel
                obtain ⟨w9, hw9⟩ : ∃ w9, w9 = wr := ⟨_, rfl⟩
                rw [← hw9] at hrel ⊢
                clear hw9 HF8
                have hB9 := (unhide BY1).trans ((unhide hrel).1.mono (unhide BY1).size)
                have cd9 := unhide HCY _ hB9
                by_cases hlt2 : k < i
                · have hkL : k < L.length := by rw [← unhide HN]; exact hlt2
                  obtain ⟨b, off, hp7, hbW, hr7⟩ := (unhide HL).2 k hkL
                  cases hp7
                  have c0 := (acc_cells4 (unhide HL) hkL hB9).1
                  have hld := run_ld41 (w := w9) (b := b) (o := off + k * 4) (a := L[k]) (fun j v hv => (hB9.cell (p := ⟨b, off + k * 4 + j, none⟩) hbW).trans (hr7 j v hv))
                  have hsn := filter_snoc L hkL (fun b => decide (x < b.nm))
                  have hnx : L[k].nm ≠ x := fun e2 => fnd_none (unhide HFN) ⟨_, List.getElem_mem hkL, e2⟩
                  have hwi : IntKind.i64.wrap ((k : Int) + 1) = (k : Int) + 1 := wrapI (by omega) (by omega)
                  obtain ⟨a, ha⟩ : ∃ a, a = L[k] := ⟨_, rfl⟩
                  rw [← ha] at c0 hld hsn hnx
                  have bl1 : Op.bytesLess (txN a.nm).toList tx.toList = decide (a.nm < x) := by rw [Go.Proofs.bytesLess_eq, ByteArray.toList_eq, ByteArray.toList_eq, txN_list, ← unhide HX]
                  have bl2 : Op.bytesLess tx.toList (txN a.nm).toList = decide (x < a.nm) := by rw [Go.Proofs.bytesLess_eq, ByteArray.toList_eq, ByteArray.toList_eq, txN_list, ← unhide HX]
                  obtain ⟨z1, z2⟩ := txt_ne (x := a.nm) (t := tx) (by rw [← unhide HX]; exact hnx)
                  unfold acV at hld
                  by_cases hlx : x < a.nm
                  · have hlx2 : ¬ a.nm < x := fun h => slt_irrefl _ (slt_trans h hlx)
                    rw [decide_eq_true hlx] at bl2
                    rw [decide_eq_false hlx2] at bl1
                    rw [if_pos (by simpa using hlx)] at hsn
                    obtain ⟨p8', c8', w8', hr8, hf8⟩ := (unhide hrel).more a (by omega)
                    have HF8 : Hid (Mkl Y1 (((L.filter fun b => decide (b.nm < x)) ++ [⟨x, t, z, false⟩]) ++ (L.take (k + 1)).filter fun b => decide (x < b.nm)) (.slice p8' (m2 + 1) c8') (m2 + 1) w8') := by rw [hsn, ← List.append_assoc]; exact hf8
                    have HR8 := hide hr8
                    obtain ⟨T, hT⟩ : ∃ T, T = txN a.nm := ⟨_, rfl⟩
                    rw [← hT] at c0 hld bl1 bl2 HR8 z1 z2
                    clear hlx hlx2 hsn hr8 hf8 hT ha hr7 hbW hB9 hrel hnx
                    as_aux_lemma =>
                      go_wp2_with (at_builtin; refine wpList_append_run rfl _ _ 22 rfl _ _ _ _ rfl rfl (unhide HR8) ?_)
                      refine ⟨⟨k + 1, m2 + 1, c8', p8', by omega, by omega, by first | rfl | simp, by simp, unhide HF8⟩, ?_⟩
                      show i - ((k : Int) + 1).toNat < i - ((k : Int)).toNat
                      omega
                  · have hlx2 : a.nm < x := by
                      by_cases h9 : a.nm < x
                      · exact h9
                      · exact absurd (slt_tri h9 hlx) hnx
                    rw [decide_eq_false hlx] at bl2
                    rw [decide_eq_true hlx2] at bl1
                    rw [if_neg (by simpa using hlx)] at hsn
                    have HF8 : Hid (Mkl Y1 (((L.filter fun b => decide (b.nm < x)) ++ [⟨x, t, z, false⟩]) ++ (L.take (k + 1)).filter fun b => decide (x < b.nm)) (.slice p2 m2 c2) m2 w9) := by rw [hsn]; exact unhide hrel
                    obtain ⟨T, hT⟩ : ∃ T, T = txN a.nm := ⟨_, rfl⟩
                    rw [← hT] at c0 hld bl1 bl2 z1 z2
                    clear hlx hlx2 hsn hT ha hr7 hbW hB9 hrel hnx
                    as_aux_lemma =>
                      go_wp2_with fail
                      refine ⟨⟨k + 1, m2, c2, p2, by omega, by omega, rfl, by simp, unhide HF8⟩, ?_⟩
                      show i - ((k : Int) + 1).toNat < i - ((k : Int)).toNat
                      omega
                · have hki : k = i := by omega
                  have hfz9 := unhide HFZ _ hB9
                  have HF : Hid (RChg W d S M (w9.setCell ⟨d, 0, none⟩ (.slice p2 m2 c2))) := by
                    have h1 := unhide hrel
                    rw [List.take_of_length_le (by rw [← unhide HN, hki]; exact Nat.le_refl _), List.append_assoc] at h1
                    rw [unhide HM2]
                    exact (unhide HC).put (unhide BY1) h1 ((unhide HG).ins (unhide HFIT))
                  subst hki
                  clear hrel hB9
                  as_aux_lemma =>
                    go_wp2_with fail
                    go_ret
                    exact ⟨rfl, unhide HF⟩
    · rw [e] at hE
      have hps : parS x = (txN p, true) := by rw [parS, if_pos h1t, e]
      rw [hps] at dP
      have hE3 : E = if t ≠ 0 then 64 else mayE L p z := hE
      by_cases h6 : t = 0
      case neg =>
        have hE2 : E = 64 := by rw [hE3]; exact if_pos h6
        subst hE2
        have HF := hide (unhide HM0 (by decide))
        have h6b : (t != 0) = true := by simpa using h6
        have h6c : (t == 0) = false := by simpa using h6
        clear HM0 HM1 h1 h1t h2 e hps hE hE3
        as_aux_lemma =>
          go_enter Tryz.func17, Tryz.ntmps17
          go_wp2_with (first | (go_at_call 86; refine (unhide dG _).mono ?_; rintro e X ⟨rfl, hX⟩; rw [hX]; clear hX) | (go_at_call 87; refine (unhide dD _).mono ?_; rintro e X2 ⟨rfl, hX⟩; rw [hX]; clear hX) | (go_at_call 88; refine (unhide dA).mono ?_; rintro e X3 ⟨rfl, hX⟩; rw [hX]; clear hX) | (go_at_call 89; refine (unhide dP _).mono ?_; rintro e Y ⟨rfl, hb⟩; have HFY := hide (unhide HF Y hb); clear hb))
          go_ret
          exact ⟨rfl, unhide HFY⟩
      have hE4 : E = mayE L p z := by rw [hE3]; exact if_neg (fun h => h h6)
      have HOP : Hid (opA L x t z = ⟨x, (findA L p).ty, z, false⟩) := by show _ = _; rw [opA, e]
      subst h6
      clear hE hE3 hps
      cases hfp : fnd L p with
      | none =>
        rw [mayE, hfp] at hE4
        have hE2 : E = 61 := hE4
        subst hE2
        have HF := hide (unhide HM0 (by decide))
        have dA2 : Hid (∀ Y, Below W.heap.size W Y → Calls Tryz.prog 88 #[ptr d, .string (txN p)] Y fun e w' => e = .returned (.int .i64 (-1)) ∧ w' = Y) := fun Y hY => rat_none ((unhide HC).below hY) (by rw [txN_list]; exact hfp)
        clear HM0 HM1 h1 h1t h2 e hE4 hfp HOP
        as_aux_lemma =>
          go_enter Tryz.func17, Tryz.ntmps17
          go_upto_region 12 with (first | (go_at_call 86; refine (unhide dG _).mono ?_; rintro e X ⟨rfl, hX⟩; rw [hX]; clear hX) | (go_at_call 87; refine (unhide dD _).mono ?_; rintro e X2 ⟨rfl, hX⟩; rw [hX]; clear hX) | (go_at_call 88; refine (unhide dA).mono ?_; rintro e X3 ⟨rfl, hX⟩; rw [hX]; clear hX) | (go_at_call 89; refine (unhide dP _).mono ?_; rintro e Y ⟨rfl, hb⟩; have BY := hide hb; clear hb))
          have HFY := hide (unhide HF _ (unhide BY))
          go_wp2_with (go_at_call 88; refine (unhide dA2 _ (unhide BY)).mono ?_; rintro e X4 ⟨rfl, hX⟩; rw [hX]; clear hX)
          go_ret
          exact ⟨rfl, unhide HFY⟩
      | some q =>
        rw [mayE, hfp] at hE4
        have hE5 : E = if q.cl = true then 63 else if z < q.dy then 66 else 0 := hE4
        obtain ⟨hqm, hqx⟩ := fnd_some hfp
        have dA20 : ∀ Y, Below W.heap.size W Y → ∃ (i : Nat) (hi : i < L.length), L[i] = q ∧ Calls Tryz.prog 88 #[ptr d, .string (txN p)] Y fun e w' => e = .returned (.int .i64 (i : Int)) ∧ w' = Y := fun Y hY => rat_some ((unhide HC).below hY) (by rw [txN_list]; exact hfp)
        have DA2 := hide dA20
        have hfa : findA L p = q := by rw [findA, hfp]; rfl
        rw [hfa] at HOP
        clear hE4 hfp hfa dA20 hqm hqx e
        cases hqc : q.cl with
        | true =>
          rw [hqc] at hE5
          have hE2 : E = 63 := hE5
          subst hE2
          have HF := hide (unhide HM0 (by decide))
          clear HM0 HM1 h1 h1t h2 hE5 HOP
          as_aux_lemma =>
            go_enter Tryz.func17, Tryz.ntmps17
            go_upto_region 12 with (first | (go_at_call 86; refine (unhide dG _).mono ?_; rintro e X ⟨rfl, hX⟩; rw [hX]; clear hX) | (go_at_call 87; refine (unhide dD _).mono ?_; rintro e X2 ⟨rfl, hX⟩; rw [hX]; clear hX) | (go_at_call 88; refine (unhide dA).mono ?_; rintro e X3 ⟨rfl, hX⟩; rw [hX]; clear hX) | (go_at_call 89; refine (unhide dP _).mono ?_; rintro e Y ⟨rfl, hb⟩; have BY := hide hb; clear hb))
            have HFY := hide (unhide HF _ (unhide BY))
            have cdY := unhide HCY _ (unhide BY)
            obtain ⟨i, hi, hiq, hA⟩ := unhide DA2 _ (unhide BY)
            obtain ⟨b, off, hp2, _, _⟩ := (unhide HL).2 i hi
            subst hp2
            have c3 := (acc_cells4 (unhide HL) hi (unhide BY)).2.2.2
            rw [hiq, hqc] at c3
            have hin : i < n := by rw [unhide HN]; exact hi
            have HA := hide hA
            clear hiq hA
            go_wp2_with (go_at_call 88; refine (unhide HA).mono ?_; rintro e X4 ⟨rfl, hX⟩; rw [hX]; clear hX)
            go_ret
            exact ⟨rfl, unhide HFY⟩
        | false =>
          rw [hqc] at hE5
          have hE6 : E = if z < q.dy then 66 else 0 := hE5
          by_cases hz : z < q.dy
          · have hE2 : E = 66 := by rw [hE6, if_pos hz]
            subst hE2
            have HF := hide (unhide HM0 (by decide))
            clear HM0 HM1 h1 h1t h2 hE5 hE6 HOP
            as_aux_lemma =>
              go_enter Tryz.func17, Tryz.ntmps17
              go_upto_region 12 with (first | (go_at_call 86; refine (unhide dG _).mono ?_; rintro e X ⟨rfl, hX⟩; rw [hX]; clear hX) | (go_at_call 87; refine (unhide dD _).mono ?_; rintro e X2 ⟨rfl, hX⟩; rw [hX]; clear hX) | (go_at_call 88; refine (unhide dA).mono ?_; rintro e X3 ⟨rfl, hX⟩; rw [hX]; clear hX) | (go_at_call 89; refine (unhide dP _).mono ?_; rintro e Y ⟨rfl, hb⟩; have BY := hide hb; clear hb))
              have HFY := hide (unhide HF _ (unhide BY))
              have cdY := unhide HCY _ (unhide BY)
              obtain ⟨i, hi, hiq, hA⟩ := unhide DA2 _ (unhide BY)
              obtain ⟨b, off, hp2, _, _⟩ := (unhide HL).2 i hi
              subst hp2
              have c3 := (acc_cells4 (unhide HL) hi (unhide BY)).2.2.2
              have c2 := (acc_cells4 (unhide HL) hi (unhide BY)).2.2.1
              rw [hiq] at c2
              rw [hiq, hqc] at c3
              have hin : i < n := by rw [unhide HN]; exact hi
              have HA := hide hA
              clear hiq hA
              go_wp2_with (go_at_call 88; refine (unhide HA).mono ?_; rintro e X4 ⟨rfl, hX⟩; rw [hX]; clear hX)
              go_ret
              exact ⟨rfl, unhide HFY⟩
          · have hE2 : E = 0 := by rw [hE6, if_neg hz]
            have hM2 := unhide HM1 hE2
            have hfit := open_fits (unhide HG) (show openE L x 0 z = 0 by rw [← unhide HEO]; exact hE2)
            rw [unhide HOP] at hM2 hfit
            have HFIT := hide hfit
            have HM2 := hide hM2
            subst hE2
            obtain ⟨tq, htq⟩ : ∃ tq, tq = q.ty := ⟨_, rfl⟩
            rw [← htq] at HFIT HM2
            clear HM0 HM1 h1 h1t h2 hE5 hE6 HOP hM2 hfit
            as_aux_lemma =>
              go_enter Tryz.func17, Tryz.ntmps17
              go_upto_region 12 with (first | (go_at_call 86; refine (unhide dG _).mono ?_; rintro e X ⟨rfl, hX⟩; rw [hX]; clear hX) | (go_at_call 87; refine (unhide dD _).mono ?_; rintro e X2 ⟨rfl, hX⟩; rw [hX]; clear hX) | (go_at_call 88; refine (unhide dA).mono ?_; rintro e X3 ⟨rfl, hX⟩; rw [hX]; clear hX) | (go_at_call 89; refine (unhide dP _).mono ?_; rintro e Y ⟨rfl, hb⟩; have BY := hide hb; clear hb))
              have cdY := unhide HCY _ (unhide BY)
              obtain ⟨i, hi, hiq, hA⟩ := unhide DA2 _ (unhide BY)
              obtain ⟨b, off, hp2, _, _⟩ := (unhide HL).2 i hi
              subst hp2
              have c3 := (acc_cells4 (unhide HL) hi (unhide BY)).2.2.2
              have c2 := (acc_cells4 (unhide HL) hi (unhide BY)).2.2.1
              have c1 := (acc_cells4 (unhide HL) hi (unhide BY)).2.1
              rw [hiq] at c2
              rw [hiq, ← htq] at c1
              rw [hiq, hqc] at c3
              have hin : i < n := by rw [unhide HN]; exact hi
              have HA := hide hA
              clear hiq hA htq
              go_upto_region 24 with (go_at_call 88; refine (unhide HA).mono ?_; rintro e X4 ⟨rfl, hX⟩; rw [hX]; clear hX)
              clear c1 c2 c3 hin
              have hTx : txN x = tx := txt_eq (unhide HX)
              obtain ⟨Y1, hY1⟩ : ∃ Y1, Y1 = Y.alloc (.cells #[.string tx, .int .i64 tq, .int .i64 z, .bool false] 65) := ⟨_, rfl⟩
              rw [← hY1]
              have BY1 : Hid (Below W.heap.size W Y1) := by rw [hY1]; exact (unhide BY).alloc (unhide BY).size _
              have RA : Hid (Y1.heap[Y.heap.size]? = some (.cells #[.string tx, .int .i64 tq, .int .i64 z, .bool false] 65) ∧ Y.heap.size < Y1.heap.size) := by rw [hY1]; exact ⟨World.alloc_heap_new Y _, by simp⟩
              have HTX := hide hTx
              clear hY1 hTx dG dD dA dP cdY
              go_wp2_with fail
              go_loopw [15, 16] (fun v15 v16 wr => ∃ (i m c : Nat) (p : Option Addr), i ≤ n ∧ m ≤ i ∧ v15 = .slice p m c ∧ v16 = .int .i64 i ∧ Hid (Mkl Y1 ((L.take i).filter fun b => decide (b.nm < x)) (.slice p m c) m wr)) (fun _ v16 _ => n - (intOf' v16).toNat)
              case atStart => exact ⟨0, 0, 0, none, Nat.zero_le _, Nat.le_refl _, rfl, rfl, Mkl.nil _⟩
              case round =>
                obtain ⟨i, m, c, p9, hi, hmi, rfl, rfl, hrel⟩ := hrel
                obtain ⟨w7, hw7⟩ : ∃ w7, w7 = wr := ⟨_, rfl⟩
                rw [← hw7] at hrel ⊢
                clear hw7
                have hB7 := (unhide BY1).trans ((unhide hrel).1.mono (unhide BY1).size)
                have cd7 := unhide HCY _ hB7
                by_cases hlt : i < n
                · have hiL : i < L.length := by rw [← unhide HN]; exact hlt
                  obtain ⟨b, off, hp7, hbW, hr7⟩ := (unhide HL).2 i hiL
                  cases hp7
                  have c0 := (acc_cells4 (unhide HL) hiL hB7).1
                  have hld := run_ld41 (w := w7) (b := b) (o := off + i * 4) (a := L[i]) (fun j v hv => (hB7.cell (p := ⟨b, off + i * 4 + j, none⟩) hbW).trans (hr7 j v hv))
                  have hsn := filter_snoc L hiL (fun b => decide (b.nm < x))
                  have hwi : IntKind.i64.wrap ((i : Int) + 1) = (i : Int) + 1 := wrapI (by omega) (by omega)
                  obtain ⟨a, ha⟩ : ∃ a, a = L[i] := ⟨_, rfl⟩
                  rw [← ha] at c0 hld hsn
                  have bl1 : Op.bytesLess (txN a.nm).toList tx.toList = decide (a.nm < x) := by rw [Go.Proofs.bytesLess_eq, ByteArray.toList_eq, ByteArray.toList_eq, txN_list, ← unhide HX]
                  unfold acV at hld
                  by_cases hlx : a.nm < x
                  · rw [decide_eq_true hlx] at bl1
                    rw [if_pos (by simpa using hlx)] at hsn
                    obtain ⟨p8, c8, w8, hr8, hf8⟩ := (unhide hrel).more a (by omega)
                    have HF8 : Hid (Mkl Y1 ((L.take (i + 1)).filter fun b => decide (b.nm < x)) (.slice p8 (m + 1) c8) (m + 1) w8) := by rw [hsn]; exact hf8
                    have HR8 := hide hr8
                    obtain ⟨T, hT⟩ : ∃ T, T = txN a.nm := ⟨_, rfl⟩
                    rw [← hT] at c0 hld bl1 HR8
                    clear hlx hsn hr8 hf8 hT ha hr7 hbW hB7 hrel
                    as_aux_lemma =>
                      go_wp2_with (at_builtin; refine wpList_append_run rfl _ _ 22 rfl _ _ _ _ rfl rfl (unhide HR8) ?_)
                      refine ⟨⟨i + 1, m + 1, c8, p8, by omega, by omega, by first | rfl | simp, by simp, unhide HF8⟩, ?_⟩
                      show n - ((i : Int) + 1).toNat < n - ((i : Int)).toNat
                      omega
                  · rw [decide_eq_false hlx] at bl1
                    rw [if_neg (by simpa using hlx)] at hsn
                    have HF8 : Hid (Mkl Y1 ((L.take (i + 1)).filter fun b => decide (b.nm < x)) (.slice p9 m c) m w7) := by rw [hsn]; exact unhide hrel
                    obtain ⟨T, hT⟩ : ∃ T, T = txN a.nm := ⟨_, rfl⟩
                    rw [← hT] at c0 hld bl1
                    clear hlx hsn hT ha hr7 hbW hB7 hrel
                    as_aux_lemma =>
                      go_wp2_with fail
                      refine ⟨⟨i + 1, m, c, p9, by omega, by omega, rfl, by simp, unhide HF8⟩, ?_⟩
                      show n - ((i : Int) + 1).toNat < n - ((i : Int)).toNat
                      omega
                · have hin7 : i = n := by omega
                  subst hin7
                  have hra : w7.heap[Y.heap.size]? = some (.cells #[.string (txN x), .int .i64 tq, .int .i64 z, .bool false] 65) := by rw [unhide HTX]; exact ((unhide hrel).1.block _ (unhide RA).2).trans (unhide RA).1
                  have hldA := run_ld41 (a := ⟨x, tq, z, false⟩) (range4 hra)
                  obtain ⟨p8, c8, w8, hr8, hf8⟩ := (unhide hrel).more ⟨x, tq, z, false⟩ (by omega)
                  rw [List.take_of_length_le (by rw [← unhide HN]; exact Nat.le_refl _)] at hf8
                  unfold acV at hldA
                  rw [unhide HTX] at hr8 hldA
                  have HR8 := hide hr8; have HF8 := hide hf8
                  clear hr8 hf8 hra hB7 hrel
                  go_upto_region 31 with (at_builtin; refine wpList_append_run rfl _ _ 22 rfl _ _ _ _ rfl rfl (unhide HR8) ?_)
                  clear hldA HR8 cd7
                  go_wp2_with fail
                  go_loopw [15, 17] (fun v15 v17 wr => ∃ (k m c : Nat) (p : Option Addr), k ≤ i ∧ m ≤ 101 + k ∧ v15 = .slice p m c ∧ v17 = .int .i64 k ∧ Hid (Mkl Y1 (((L.filter fun b => decide (b.nm < x)) ++ [⟨x, tq, z, false⟩]) ++ (L.take k).filter fun b => decide (x < b.nm)) (.slice p m c) m wr)) (fun _ v17 _ => i - (intOf' v17).toNat)
                  case atStart => exact ⟨0, m + 1, c8, p8, Nat.zero_le _, by omega, rfl, rfl, by rw [List.take_zero]; show Mkl _ (_ ++ []) _ _ _; rw [List.append_nil]; exact unhide HF8⟩
                  case round =>
                    obtain ⟨k, m2, c2, p2, hk, hmk, rfl, rfl, hrel⟩ := hrel
                    obtain ⟨w9, hw9⟩ : ∃ w9, w9 = wr := ⟨_, rfl⟩
                    rw [← hw9] at hrel ⊢
                    clear hw9 HF8
                    have hB9 := (unhide BY1).trans ((unhide hrel).1.mono (unhide BY1).size)
                    have cd9 := unhide HCY _ hB9
                    by_cases hlt2 : k < i
                    · have hkL : k < L.length := by rw [← unhide HN]; exact hlt2
                      obtain ⟨b, off, hp7, hbW, hr7⟩ := (unhide HL).2 k hkL
                      cases hp7
                      have c0 := (acc_cells4 (unhide HL) hkL hB9).1
                      have hld := run_ld41 (w := w9) (b := b) (o := off + k * 4) (a := L[k]) (fun j v hv => (hB9.cell (p := ⟨b, off + k * 4 + j, none⟩) hbW).trans (hr7 j v hv))
                      have hsn := filter_snoc L hkL (fun b => decide (x < b.nm))
                      have hnx : L[k].nm ≠ x := fun e2 => fnd_none (unhide HFN) ⟨_, List.getElem_mem hkL, e2⟩
                      have hwi : IntKind.i64.wrap ((k : Int) + 1) = (k : Int) + 1 := wrapI (by omega) (by omega)
                      obtain ⟨a, ha⟩ : ∃ a, a = L[k] := ⟨_, rfl⟩
                      rw [← ha] at c0 hld hsn hnx
                      have bl1 : Op.bytesLess (txN a.nm).toList tx.toList = decide (a.nm < x) := by rw [Go.Proofs.bytesLess_eq, ByteArray.toList_eq, ByteArray.toList_eq, txN_list, ← unhide HX]
                      have bl2 : Op.bytesLess tx.toList (txN a.nm).toList = decide (x < a.nm) := by rw [Go.Proofs.bytesLess_eq, ByteArray.toList_eq, ByteArray.toList_eq, txN_list, ← unhide HX]
                      obtain ⟨z1, z2⟩ := txt_ne (x := a.nm) (t := tx) (by rw [← unhide HX]; exact hnx)
                      unfold acV at hld
                      by_cases hlx : x < a.nm
                      · have hlx2 : ¬ a.nm < x := fun h => slt_irrefl _ (slt_trans h hlx)
                        rw [decide_eq_true hlx] at bl2
                        rw [decide_eq_false hlx2] at bl1
                        rw [if_pos (by simpa using hlx)] at hsn
                        obtain ⟨p8', c8', w8', hr8, hf8⟩ := (unhide hrel).more a (by omega)
                        have HF8 : Hid (Mkl Y1 (((L.filter fun b => decide (b.nm < x)) ++ [⟨x, tq, z, false⟩]) ++ (L.take (k + 1)).filter fun b => decide (x < b.nm)) (.slice p8' (m2 + 1) c8') (m2 + 1) w8') := by rw [hsn, ← List.append_assoc]; exact hf8
                        have HR8 := hide hr8
                        obtain ⟨T, hT⟩ : ∃ T, T = txN a.nm := ⟨_, rfl⟩
                        rw [← hT] at c0 hld bl1 bl2 HR8 z1 z2
                        clear hlx hlx2 hsn hr8 hf8 hT ha hr7 hbW hB9 hrel hnx
                        as_aux_lemma =>
                          go_wp2_with (at_builtin; refine wpList_append_run rfl _ _ 22 rfl _ _ _ _ rfl rfl (unhide HR8) ?_)
                          refine ⟨⟨k + 1, m2 + 1, c8', p8', by omega, by omega, by first | rfl | simp, by simp, unhide HF8⟩, ?_⟩
                          show i - ((k : Int) + 1).toNat < i - ((k : Int)).toNat
                          omega
                      · have hlx2 : a.nm < x := by
                          by_cases h9 : a.nm < x
                          · exact h9
                          · exact absurd (slt_tri h9 hlx) hnx
                        rw [decide_eq_false hlx] at bl2
                        rw [decide_eq_true hlx2] at bl1
                        rw [if_neg (by simpa using hlx)] at hsn
                        have HF8 : Hid (Mkl Y1 (((L.filter fun b => decide (b.nm < x)) ++ [⟨x, tq, z, false⟩]) ++ (L.take (k + 1)).filter fun b => decide (x < b.nm)) (.slice p2 m2 c2) m2 w9) := by rw [hsn]; exact unhide hrel
                        obtain ⟨T, hT⟩ : ∃ T, T = txN a.nm := ⟨_, rfl⟩
                        rw [← hT] at c0 hld bl1 bl2 z1 z2
                        clear hlx hlx2 hsn hT ha hr7 hbW hB9 hrel hnx
                        as_aux_lemma =>
                          go_wp2_with fail
                          refine ⟨⟨k + 1, m2, c2, p2, by omega, by omega, rfl, by simp, unhide HF8⟩, ?_⟩
                          show i - ((k : Int) + 1).toNat < i - ((k : Int)).toNat
                          omega
                    · have hki : k = i := by omega
                      have hfz9 := unhide HFZ _ hB9
                      have HF : Hid (RChg W d S M (w9.setCell ⟨d, 0, none⟩ (.slice p2 m2 c2))) := by
                        have h1 := unhide hrel
                        rw [List.take_of_length_le (by rw [← unhide HN, hki]; exact Nat.le_refl _), List.append_assoc] at h1
                        rw [unhide HM2]
                        exact (unhide HC).put (unhide BY1) h1 ((unhide HG).ins (unhide HFIT))
                      subst hki
                      clear hrel hB9
                      as_aux_lemma =>
                        go_wp2_with fail
                        go_ret
                        exact ⟨rfl, unhide HF⟩
end
end Go.Proofs.YtdeibifjiefapaaGreatDoor
