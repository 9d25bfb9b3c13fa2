import Derived.Test.YtfclknlpdcanpaaGreatDoorW11
import Derived.Test.YtfclknlpdcanpaaGreatDoorW12
/- aged: keep (45), the first claim. -/
namespace Go.Proofs.YtfclknlpdcanpaaGreatDoor
open Go Go.Shelf Go.ChangeShapes Go.WideShapes Go.ChangeAt Go.RowKit Go.Maps
set_option linter.unusedVariables false
theorem KeepOut.up {W M w' : World} {d p : Nat} {G G' : Gh} {mb ma : Option Nat} (h : KeepOut M w' d p { G with mb := mb, ma := ma } G') (hn : Next W M d G { G with mb := mb, ma := ma }) : KeepOut W w' d p G G' := ⟨hn.trans h.next, h.bs, h.cl, h.lf, h.pt, h.pv, h.al, h.inv, h.gone, h.ps, h.kf, h.qa, h.ls, h.sh, h.nw, h.tm, h.mb, h.ma, h.nk, h.na⟩
set_option maxRecDepth 100000 in
set_option maxHeartbeats 8000000 in
theorem keep_first {W : World} {d p : Nat} {G : Gh} (HI : KeepIn W d p G) (hb0 : G.mb = none) :
    Calls Tryz.prog 103 #[ptr d, ptr p] W fun e w' => e = .returned (.tuple #[]) ∧ KeptOut W w' d p G := by
  have hb00 : G.ma = none := HI.km.1 hb0
  have c1 : W.cell? ⟨d, 1, none⟩ = some (.map none) := by simp [World.cell?, HI.raw.ob, Gh.agV, hb0]
  have f1 : W.frozen? ⟨d, 1, none⟩ = false := by simp [World.frozen?, HI.raw.ob]
  have f2 : W.frozen? ⟨d, 2, none⟩ = false := by simp [World.frozen?, HI.raw.ob]
  have c2 : W.cell? ⟨d, 2, none⟩ = some (.map none) := by simp [World.cell?, HI.raw.ob, Gh.agV, hb00]
  have hdl := heap_lt HI.raw.ob
  have hmk1 := fun W => run_makeMap (P := Tryz.prog) 95 W
  have hmk2 := fun W => run_makeMap (P := Tryz.prog) 96 W
  have he1 := eqm_none
  obtain ⟨X, hX⟩ : ∃ X, X = (W.setCell ⟨d, 1, none⟩ (.map (some W.heap.size))).setCell ⟨d, 2, none⟩ (.map (some (W.heap.size + 1))) := ⟨_, rfl⟩
  have hXs : X.heap.size = W.heap.size := by rw [hX]; simp
  obtain ⟨M, hM⟩ : ∃ M, M = (((W.setCell ⟨d, 1, none⟩ (.map (some W.heap.size))).setCell ⟨d, 2, none⟩ (.map (some (W.heap.size + 1)))).alloc (.map #[] 0)).alloc (.map #[] 0) := ⟨_, rfl⟩
  have hM2 : M = (X.alloc (.map #[] 0)).alloc (.map #[] 0) := by rw [hM, hX]
  obtain ⟨b1, hb1e⟩ : ∃ b, b = W.heap.size := ⟨_, rfl⟩
  obtain ⟨b2, hb2e⟩ : ∃ b, b = W.heap.size + 1 := ⟨_, rfl⟩
  obtain ⟨Gm, hGm⟩ : ∃ Gm : Gh, Gm = { G with mb := some b1, ma := some b2 } := ⟨_, rfl⟩
  have NM : Next W M d G Gm := by
    rw [hGm]
    refine HI.raw.maps hb0 hb00 ?_ ?_ ?_ ?_ (by omega) (by omega) (by omega)
    · rw [hM2, hX]
      exact ((Fr.setCell (X := fun b => b = d) (Fr.setCell (X := fun b => b = d) (Fr.refl W _) (p := ⟨d, 1, none⟩) (.inl rfl) _) (p := ⟨d, 2, none⟩) (.inl rfl) _).alloc _).alloc _
    · rw [hM2, Below.heap_alloc _ _ _ (by simp; omega), Below.heap_alloc _ _ _ (by omega), hX, Go.heap_setCell_same _ _ _ _ _ _ (Go.heap_setCell_same _ _ _ _ _ _ HI.raw.ob), hb1e, hb2e]
      rfl
    · have h1 := (PMAt.made X).keep (w' := M) (by rw [hM2]; exact Below.heap_alloc _ _ _ (by simp))
      rw [hXs, ← hb1e] at h1
      exact h1.mono (Nat.zero_le _)
    · have h1 := PMAt.made (X.alloc (.map #[] 0))
      rw [← hM2] at h1
      have e : (X.alloc (.map #[] 0)).heap.size = b2 := by rw [hb2e]; simp [hXs]
      rw [e] at h1
      exact h1.mono (Nat.zero_le _)
  have hb1 : Gm.mb = some b1 := by rw [hGm]
  have eqa : Gm.qa = fun _ => none := by rw [hGm]; exact funext (HI.raw.an hb00)
  have HI2 : KeepIn M d p Gm := by
    refine ⟨NM.raw, by rw [hGm]; exact HI.mem, ?_, by rw [hGm]; exact HI.no, by rw [hGm]; exact HI.ok.of rfl rfl rfl rfl rfl, HI.st.keep (NM.fr.block 0 HI.st.lt HI.z), fun hx => (NM.own 0 hx).elim HI.z (fun h => by have := HI.st.lt; omega), by rw [hGm]; exact HI.hp, by rw [hGm]; exact HI.l1, by rw [hGm]; exact HI.l2, by rw [hGm]; exact HI.l3, by rw [hGm]; exact HI.l4, by rw [hGm]; exact HI.l5, by rw [hGm]; exact HI.ksz⟩
    rw [hGm]
    exact ⟨(fun h => by cases h), (fun h => by cases h)⟩
  have hq : Gm.qa (Gm.key p) = none := by rw [eqa]
  have HUP : Hid (∀ w', KeptOut M w' d p Gm → KeptOut W w' d p G) := fun w' ⟨G', h⟩ => by
    subst hGm
    exact ⟨G', h.up NM⟩
  have HM := hide hM; have HI0 := hide HI; have HGM := hide hGm
  clear hM hM2 hX hXs hb1e hGm NM eqa HI hb0 hb00 X
  have hb2 : Gm.ma = some b2 := by rw [unhide HGM]
  obtain ⟨k, hk⟩ : ∃ k, k = Gm.key p := ⟨_, rfl⟩
  have d2 : M.drew.cell? ⟨d, 2, none⟩ = some (.map (some b2)) := by
    show M.cell? _ = _
    simp [World.cell?, HI2.raw.ob, Gh.agV, hb2]
  have hcb := HI2.raw.cb p HI2.mem
  have p1 : M.drew.cell? ⟨p, 1, none⟩ = some (.string (Gm.cl p).acc) := by
    show M.cell? _ = _
    simp [World.cell?, hcb, Gh.clV]
  have hlk : (Instr.lookup 96 (.map (some b2)) (.string (Gm.cl p).acc) false).run Tryz.prog M.drew = .ok (.pointer none) M.drew := by
    have h1 := ((HI2.raw.am b2 hb2).keep (w' := M.drew) rfl).look (t := 96) und79 (zero89 _) HI2.ok.sz
    have h2 : Gm.qa (Gm.cl p).acc.data.toList = none := hq
    rw [h2] at h1
    exact h1
  have hrD : Raw M.drew d Gm := HI2.raw.keep (fun _ _ => rfl)
  have NW0 : Next M M.drew d Gm Gm := ⟨hrD, (Fr.refl M _).drew, fun b hb => .inl hb⟩
  obtain ⟨Q, hQ⟩ : ∃ Q, Q = M.heap.size := ⟨_, rfl⟩
  obtain ⟨w5, r5, hn5⟩ := step5 (s := (Gm.cl p).acc) hrD hb2 HI2.l5 HI2.ok.sz hq
  have hn5 : Next M.drew w5 d Gm (Gm.acct k Q) := by rw [hk, hQ]; exact hn5
  have hpd : p ≠ d := fun e => by have h1 := HI2.raw.tyB HI2.mem; rw [e, HI2.raw.tyD] at h1; cases h1
  have r5 : (Instr.mapUpdate 96 (.map (some b2)) (.string (Gm.cl p).acc) (.pointer (some ⟨Q, 0, none⟩))).run Tryz.prog (M.drew.alloc (.cells #[.slice none 0 0, .int .i64 0, .int .i64 0, .int .i64 0, .int .i64 0, .int .i64 0] 120)).drew = .ok () w5 := by rw [hQ]; exact r5
  obtain ⟨A5, hA5⟩ : ∃ A5, A5 = (M.drew.alloc (.cells #[.slice none 0 0, .int .i64 0, .int .i64 0, .int .i64 0, .int .i64 0, .int .i64 0] 120)).drew := ⟨_, rfl⟩
  have e2 : A5.cell? ⟨d, 2, none⟩ = some (.map (some b2)) := by
    rw [hA5]
    show (M.alloc _).cell? _ = _
    simp [World.cell?, Below.heap_alloc _ _ _ (heap_lt HI2.raw.ob), HI2.raw.ob, Gh.agV, hb2]
  have e1 : A5.cell? ⟨p, 1, none⟩ = some (.string (Gm.cl p).acc) := by
    rw [hA5]
    show (M.alloc _).cell? _ = _
    simp [World.cell?, Below.heap_alloc _ _ _ (heap_lt hcb), hcb, Gh.clV]
  have HENW : Hid ((Gm.acct k Q).nw = Gm.nw) := by
    show _ = _
    funext y j
    show (if y = k then 0 else Gm.nw y j) = _
    by_cases e : y = k
    · rw [if_pos e, e, hk, (HI2.no _ hq).2 j]
    · rw [if_neg e]
  have hls0 : (Gm.acct k Q).ls k = [] := by simp [Gh.acct]
  have HQ : Hid ((Gm.acct k Q).qa k = some Q) := by show _ = _; simp [Gh.acct]
  obtain ⟨p6, c6, n6, w6, p7, c7, n7, w7, w8, G8, T8⟩ := tail8 (p := p) (k := k) hn5.raw (unhide HQ) hb1 HI2.mem (by rw [hls0]; simp) HI2.l1 HI2.l4 HI2.ksz
  have K8 := T8.kept
  have N8 : Next M w8 d Gm G8 := NW0.trans (hn5.trans T8.next)
  have hz8 : Stp w8 := HI2.st.keep (N8.fr.block 0 HI2.st.lt HI2.z)
  have dT := hide (turns_any (W := w8) (p := p) (c := Gm.cl p) (x5 := .int .i64 (G8.lf p)) (x6 := G8.pv p) (x7 := .int .i64 (G8.sh p).1) (x8 := .int .i64 (G8.sh p).2) (by
    rw [N8.raw.cb p (by rw [K8.bs]; exact HI2.mem)]
    unfold Gh.clV
    rw [K8.cl]
    rfl) hz8 HI2.ok.due)
  have HQAP : Hid (∀ y, (Gm.acct k Q).qa y ≠ none ↔ Gm.qa y ≠ none ∨ y = k) := fun y => by
    show (if y = k then some Q else Gm.qa y) ≠ none ↔ _
    by_cases e : y = k
    · rw [if_pos e]; exact ⟨fun _ => .inr e, fun _ h => by cases h⟩
    · rw [if_neg e]; exact ⟨.inl, fun h => h.elim id (fun h => absurd h e)⟩
  have HLSP : Hid ((fun y => if y = k then (Gm.acct k Q).ls k ++ [p] else (Gm.acct k Q).ls y) = fun y => if y = k then Gm.ls y ++ [p] else Gm.ls y) := by
    show _ = _
    funext y
    by_cases e : y = k
    · rw [if_pos e, if_pos e, hls0, e, hk, (HI2.no _ hq).1]
    · rw [if_neg e, if_neg e]
      show (if y = k then [] else Gm.ls y) = _
      rw [if_neg e]
  have HMB : Hid ((Gm.acct k Q).mb ≠ none) := ne_none hb1
  have HMA : Hid ((Gm.acct k Q).ma ≠ none) := ne_none hb2
  unfold ptr at dT ⊢
  have he2 := fun w => eqp_none w 118 (.inl rfl)
  clear hb2e
  go_enter Tryz.func103, Tryz.ntmps103
  go_wp2_with fail
  rw [← unhide HM]
  clear HM c1 f1 f2 c2 hmk1 hmk2
  refine wp_region_last (n := 11) (S := fun M' => M'.cell? ⟨d, 2, none⟩ = some (.map (some b2)) ∧ M'.cell? ⟨p, 1, none⟩ = some (.string (Gm.cl p).acc) ∧ (Instr.lookup 96 (.map (some b2)) (.string (Gm.cl p).acc) false).run Tryz.prog M' = .ok (.pointer none) M') (by kernel_rfl) (by exact ⟨d2, p1, hlk⟩) (fun hHeld => ?_)
  refine tkW 0 ?_; refine tkW 1 ?_; refine tkW 2 ?_; refine tkN 3 ?_; refine tkW 4 ?_; refine tkW 5 ?_; refine tkW 6 ?_; refine tkW 7 ?_; refine tkN 8 ?_; refine tkN 9 ?_; refine tkW 10 ?_
  refine wpAnyL_done (by kernel_rfl) ?_
  clear hHeld d2 p1 hlk
  clear hpd hls0
  rw [← hA5] at r5
  go_wp2_with fail
  have hWW : (M.alloc (.cells #[.slice none 0 0, .int .i64 0, .int .i64 0, .int .i64 0, .int .i64 0, .int .i64 0] 120)).drew.drew = A5 := hA5.symm
  have HWW := hide hWW; have HA5 := hide hA5; have HQQ := hide hQ
  clear hWW hA5 hQ
  refine wp_region_last (n := 10) (S := fun M' => M'.cell? ⟨d, 2, none⟩ = some (.map (some b2)) ∧ M'.cell? ⟨p, 1, none⟩ = some (.string (Gm.cl p).acc) ∧ M' = A5) (by kernel_rfl) (by rw [unhide HWW]; exact ⟨e2, e1, rfl⟩) (fun hHeld => ?_)
  refine tkW 0 ?_; refine tkW 1 ?_; refine tkW 2 ?_; refine tkS 3 ?_; refine tkW 4 ?_; refine tkW 5 ?_; refine tkW 6 ?_; refine tkW 7 ?_; refine tkS 8 ?_; refine tkW 9 ?_
  clear hHeld
  rw [unhide HWW, ← unhide HQQ]
  refine wpAnyL_past (i := 10) (by kernel_rfl) rfl (by kernel_rfl) (fun KK hK => ?_)
  go_simp
  refine hK.out _ _ ?_
  clear hK KK
  refine wpAnyL_done (by kernel_rfl) ?_
  clear e1 e2
  have r6 := T8.r6; have l6 := T8.l6; have m6 := T8.m6; have f6 := T8.f6; have r7 := T8.r7; have l7 := T8.l7; have m7 := T8.m7; have f7 := T8.f7; have m1 := T8.m1; have m0 := T8.m0; have r8 := T8.r8
  have HK8 := hide K8; have HN8 := hide N8; have HII := hide HI2; have HST8 := hide hz8; have HHK := hide hk
  obtain ⟨V, hV⟩ : ∃ V, V = w5 := ⟨_, rfl⟩
  rw [← hV] at r6 l6 ⊢
  clear hV
  clear T8 K8 N8 HI2 hz8 hk NW0 hrD hq hb1 hb2 hcb hn5 r5
  go_upto_region 7 with (refine wpList_append_run rfl _ _ _ rfl _ _ _ _ rfl rfl r6 ?_)
  clear r6 l6 m6 f6
  obtain ⟨V6, hV6⟩ : ∃ V6, V6 = w6.setCell ⟨Q, 0, none⟩ (.slice p6 n6 c6) := ⟨_, rfl⟩
  have hV6s : w6.heap.size = V6.heap.size := by rw [hV6]; simp
  rw [← hV6] at r7 l7 ⊢
  rw [hV6s] at r7
  clear hV6 hV6s
  go_upto_region 8 with (refine wpList_append_run rfl _ _ _ rfl _ _ _ _ rfl rfl r7 ?_)
  clear r7 l7 m7 f7
  refine wp_region_last (n := 10) (S := fun M' => M'.cell? ⟨d, 1, none⟩ = some (.map (some b1)) ∧ M'.cell? ⟨p, 0, none⟩ = some (.string ((Gm.acct k Q).cl p).key) ∧ M' = (w7.setCell ⟨d, 0, none⟩ (.slice p7 n7 c7)).drew) (by kernel_rfl) (by exact ⟨m1, m0, rfl⟩) (fun hHeld => ?_)
  refine tkW 0 ?_; refine tkW 1 ?_; refine tkW 2 ?_; refine tkS 3 ?_; refine tkW 4 ?_; refine tkW 5 ?_; refine tkW 6 ?_; refine tkW 7 ?_; refine tkS 8 ?_; refine tkW 9 ?_
  clear hHeld
  obtain ⟨V7, hV7⟩ : ∃ V7, V7 = (w7.setCell ⟨d, 0, none⟩ (.slice p7 n7 c7)).drew := ⟨_, rfl⟩
  rw [← hV7] at r8 m1 m0 ⊢
  clear hV7
  refine wpAnyL_past (i := 10) (by kernel_rfl) rfl (by kernel_rfl) (fun KK hK => ?_)
  go_simp
  refine hK.out _ _ ?_
  clear hK KK
  refine wpAnyL_done (by kernel_rfl) ?_
  clear r8 m1 m0
  go_wp2_with fail
  refine (unhide dT).mono ?_
  rintro e w9 ⟨v9, rfl, hT9⟩
  obtain ⟨p9, c9, rfl, hn9, hs9⟩ := row_slice hT9.row
  have hN8 := unhide HN8; have hK8 := unhide HK8; have hII := unhide HII
  have hr9 : Raw w9 d G8 := hN8.raw.below hT9.bel
  have dF := hide (follow_any (W := w9) (d := d) (p := p) (q := Q) (G := G8) hr9 (by rw [hK8.bs]; exact hII.mem) (by
    have e : G8.key p = Gm.key p := by unfold Gh.key; rw [hK8.cl]; rfl
    rw [e, hK8.qa, ← unhide HHK]; exact unhide HQ) ((unhide HST8).below hT9.bel) (fun hx => (hN8.own 0 hx).elim hII.z (fun h => by have := hII.st.lt; omega)) (hII.ok.of (by rw [hK8.cl]; rfl) (by rw [hK8.pt]; rfl) (by rw [hK8.sh]; rfl) (by rw [hK8.gone]; rfl) (by rw [hK8.nw]; exact unhide HENW)) (by rw [hK8.tn]; exact hII.hp) (pd := p9) (nd := 5) (cd := c9) (L := trn5 (Gm.cl p)) (own_lies kI_ok rfl hT9.row) rfl (fun b off e hx => by
    have h1 := (hs9 _ e).2.2.1
    have h2 := hN8.raw.lt hx
    have h3 : w8.heap.size ≤ b := h1
    omega) (by rw [hK8.tn]; have := hII.l3; show Gm.tn.length + 5 ≤ 1000000; omega))
  unfold ptr at dF
  have HB9 := hide hT9.bel
  clear hT9 hn9 hs9 hr9 hN8 hK8 hII dT
  go_wp2_with fail
  refine (unhide dF).mono ?_
  rintro e w10 ⟨rfl, hF⟩
  have HFIN : Hid (KeptOut M w10 d p Gm) := by
    have hN8 := unhide HN8; have hK8 := unhide HK8
    obtain ⟨vt', H', hM, hNx⟩ := hF
    have eC : G8.cl = Gm.cl := by rw [hK8.cl]; rfl
    have eP : G8.pt = Gm.pt := by rw [hK8.pt]; rfl
    have eG : G8.gone = Gm.gone := by rw [hK8.gone]; rfl
    have eS : G8.sh = Gm.sh := by rw [hK8.sh]; rfl
    have eN : G8.nw = Gm.nw := by rw [hK8.nw]; exact unhide HENW
    have eT : G8.tn = Gm.tn := by rw [hK8.tn]; rfl
    have eK : G8.key p = Gm.key p := by unfold Gh.key; rw [eC]
    refine ⟨_, { next := (hN8.below (unhide HB9)).trans hNx, bs := by show G8.bs = _; rw [hK8.bs]; rfl, cl := eC, lf := by show G8.lf = _; rw [hK8.lf]; rfl, pt := eP, pv := by show G8.pv = _; rw [hK8.pv]; rfl, al := by show G8.al = _; rw [hK8.al]; rfl, inv := by show G8.inv = _; rw [hK8.inv]; rfl, gone := eG, ps := by show G8.ps = _; rw [hK8.ps]; rfl, kf := by show G8.kf = _; rw [hK8.kf]; rfl, qa := fun y => by show G8.qa y ≠ none ↔ _; rw [hK8.qa, ← unhide HHK]; exact unhide HQAP y, ls := by show G8.ls = _; rw [hK8.ls, ← unhide HHK]; exact unhide HLSP, sh := ?_, nw := ?_, tm := ?_, mb := by show G8.mb ≠ none; rw [hK8.mb]; exact unhide HMB, ma := by show G8.ma ≠ none; rw [hK8.ma]; exact unhide HMA, nk := by show G8.nk ≤ _; rw [hK8.nk]; exact Nat.le_refl _, na := by show G8.na ≤ _; rw [hK8.na]; exact Nat.le_refl _ }⟩
    · show (fun x => if x = p then shr (G8.cl p) (G8.pt p) (1 + G8.gone) else G8.sh x) = _
      rw [eC, eP, eG, eS]
    · unfold Gh.shown
      simp only [Gh.key, eC, eP, eG, eS, eN]
      rfl
    · refine ⟨fun x => ?_, hM.2.1, ?_⟩
      · have := hM.1 x
        rw [eT, eG] at this
        exact this
      · have := hM.2.2
        rw [eT] at this
        exact this
  clear hF dF
  go_wp2_with fail
  go_end0
  exact ⟨rfl, unhide HUP _ (unhide HFIN)⟩
end Go.Proofs.YtfclknlpdcanpaaGreatDoor
/- aged: Invoice (60). -/
namespace Go.Proofs.YtfclknlpdcanpaaGreatDoor
open Go Go.Shelf Go.ChangeShapes Go.WideShapes Go.ChangeAt Go.RowKit Go.Maps
set_option linter.unusedVariables false
theorem keep_any {W : World} {d p : Nat} {G : Gh} (HI : KeepIn W d p G) : Calls Tryz.prog 103 #[ptr d, ptr p] W fun e w' => e = .returned (.tuple #[]) ∧ KeptOut W w' d p G := by
  cases h1 : G.mb with
  | none => exact keep_first HI h1
  | some b =>
    cases h2 : G.qa (G.key p) with
    | none => exact keep_new HI h1 h2
    | some q => exact keep_has HI h2
theorem Raw.lookK {W : World} {d : Nat} {G : Gh} (h : Raw W d G) {s : ByteArray} (hs : s.size ≤ maxLen) : (Instr.lookup 95 (.map G.mb) (.string s) false).run Tryz.prog W = .ok (optp (G.kf s.data.toList)) W := by
  cases hb : G.mb with
  | none =>
    rw [h.mn hb]
    exact Maps.look_nil false (string_keyed Tryz.underlying9) und78 (zero84 W) (keyM hs)
  | some b => exact (h.mm b hb).look und78 (zero84 W) hs
theorem Raw.lookA {W : World} {d : Nat} {G : Gh} (h : Raw W d G) {s : ByteArray} (hs : s.size ≤ maxLen) : (Instr.lookup 96 (.map G.ma) (.string s) false).run Tryz.prog W = .ok (optp (G.qa s.data.toList)) W := by
  cases hb : G.ma with
  | none =>
    rw [h.an hb]
    exact Maps.look_nil false (string_keyed Tryz.underlying9) und79 (zero89 W) (keyM hs)
  | some b => exact (h.am b hb).look und79 (zero89 W) hs
def ld37 (x : Value) : Sem Value := Instr.loadAt 56 x
theorem ld37_is (x : Value) : Instr.loadAt 56 x = ld37 x := rfl
theorem size37 : (Tryz.prog.info? 56).map (·.size) = some 5 := by kernel_rfl
theorem run_ld37 {w : World} {b o : Nat} {c : Cl} (h : w.rangeAt b o c.vals) : (ld37 (.pointer (some ⟨b, o, none⟩))).run Tryz.prog w = .ok (.agg #[.string c.key, .string c.acc, .int .i64 c.day, .int .i64 c.due, .int .i64 c.amt]) w :=
  run_loadAt_mid (P := Tryz.prog) w b o 56 c.vals _ h Tryz.underlying56 rfl size37
attribute [local go_sem ↓] ld37_is
/-- what Invoice leaves -/
def InvOut (W w' : World) (d : Nat) (S : Nat → Prop) (C : List Cl) (A : List Al) (g : Int) (c : Cl) : Prop := (invS C c ≠ 0 → Below W.heap.size W w') ∧ (invS C c = 0 → VwNext W w' d S (C ++ [c]) A g)
theorem InvOut.bad {W w' : World} {d : Nat} {S : Nat → Prop} {C : List Cl} {A : List Al} {g : Int} {c : Cl} (x : Int) (h : invS C c = x) (h0 : x ≠ 0) (hb : Below W.heap.size W w') : InvOut W w' d S C A g c := ⟨fun _ => hb, fun e => absurd (h.symm.trans e) h0⟩
theorem retx {a b : Int} (h : a = b) : Ending.returned (.int .i64 a) = .returned (.int .i64 b) := by rw [h]
set_option maxRecDepth 100000 in
set_option maxHeartbeats 8000000 in
theorem invoice_arg {W : World} {d : Nat} {S : Nat → Prop} {C : List Cl} {A : List Al} {g : Int} {c : Cl} (hx : ¬ (dayB c.day = true ∧ dayB c.due = true ∧ ¬ c.due < c.day ∧ ¬ c.amt < 1)) :
    Calls Tryz.prog 17 #[ptr d, .agg #[.string c.key, .string c.acc, .int .i64 c.day, .int .i64 c.due, .int .i64 c.amt]] W fun e w' => e = .returned (.int .i64 (invS C c)) ∧ InvOut W w' d S C A g c := by
  have hv : invS C c = 1 := by unfold invS; rw [if_pos hx]
  have HO : Hid (∀ w', Below W.heap.size W w' → InvOut W w' d S C A g c) := fun w' => InvOut.bad 1 hv (by decide)
  rw [hv]
  have d1 := hide (isDay_any c.day)
  have d2 := hide (isDay_any c.due)
  have HB := hide ((Below.refl W.heap.size W).alloc (Nat.le_refl _) (.cells #[.string c.key, .string c.acc, .int .i64 c.day, .int .i64 c.due, .int .i64 c.amt] 56))
  unfold ptr
  clear hv
  cases h1 : dayB c.day with
  | false =>
    rw [h1] at d1
    clear hx h1
    go_enter Tryz.func17, Tryz.ntmps17
    go_wp2_with (first | (go_at_call 101; refine (unhide d1 _).mono ?_; rintro e w1 ⟨rfl, hw⟩; rw [hw]; clear hw w1))
    go_ret
    exact ⟨rfl, unhide HO _ (unhide HB)⟩
  | true =>
    cases h2 : dayB c.due with
    | false =>
      rw [h1] at d1
      rw [h2] at d2
      clear hx h1 h2
      go_enter Tryz.func17, Tryz.ntmps17
      go_wp2_with fail
      refine (unhide d1 _).mono ?_
      rintro e w1 ⟨rfl, hw⟩
      rw [hw]
      clear hw w1
      go_wp2_with fail
      refine (unhide d2 _).mono ?_
      rintro e w1 ⟨rfl, hw⟩
      rw [hw]
      clear hw w1
      go_wp2_with fail
      go_ret
      exact ⟨rfl, unhide HO _ (unhide HB)⟩
    | true =>
      rw [h1] at d1
      rw [h2] at d2
      by_cases h3 : c.due < c.day
      · clear hx h1 h2
        go_enter Tryz.func17, Tryz.ntmps17
        go_wp2_with fail
        refine (unhide d1 _).mono ?_
        rintro e w1 ⟨rfl, hw⟩
        rw [hw]
        clear hw w1
        go_wp2_with fail
        refine (unhide d2 _).mono ?_
        rintro e w1 ⟨rfl, hw⟩
        rw [hw]
        clear hw w1
        go_wp2_with fail
        go_ret
        exact ⟨rfl, unhide HO _ (unhide HB)⟩
      · have h4 : c.amt < 1 := by
          by_cases h4 : c.amt < 1
          · exact h4
          · exact absurd ⟨h1, h2, h3, h4⟩ hx
        clear hx h1 h2
        go_enter Tryz.func17, Tryz.ntmps17
        go_wp2_with fail
        refine (unhide d1 _).mono ?_
        rintro e w1 ⟨rfl, hw⟩
        rw [hw]
        clear hw w1
        go_wp2_with fail
        refine (unhide d2 _).mono ?_
        rintro e w1 ⟨rfl, hw⟩
        rw [hw]
        clear hw w1
        go_wp2_with fail
        go_ret
        exact ⟨rfl, unhide HO _ (unhide HB)⟩
theorem neqn (w : World) : (binOp .neq 101 (.pointer none) (.pointer none)).run Tryz.prog w = .ok (.bool false) w := by kernel_rfl
theorem own_more {G : Gh} {d p b : Nat} {c : Cl} (hp : p ∉ G.bs) (h : (G.more p c).own d b) : b = p ∨ G.own d b := own_reg (G := ({ G with inv := G.inv + c.amt } : Gh)) (c := c) hp h
theorem cells_eq (c : Cl) : (#[.string c.key, .string c.acc, .int .i64 c.day, .int .i64 c.due, .int .i64 c.amt] : Array Value).toList = c.vals := rfl
set_option maxRecDepth 100000 in
set_option maxHeartbeats 16000000 in
theorem invoice_any {W : World} {d : Nat} {S : Nat → Prop} {C : List Cl} {A : List Al} {g : Int} (hV : Vw W d S C A g) (hS : Stp W) {c : Cl} (hk : c.key.size ≤ maxLen) (ha : c.acc.size ≤ maxLen) (hm : c.amt ≤ 9223372036854775807) :
    Calls Tryz.prog 17 #[ptr d, .agg #[.string c.key, .string c.acc, .int .i64 c.day, .int .i64 c.due, .int .i64 c.amt]] W fun e w' => e = .returned (.int .i64 (invS C c)) ∧ InvOut W w' d S C A g c := by
  by_cases hx : dayB c.day = true ∧ dayB c.due = true ∧ ¬ c.due < c.day ∧ ¬ c.amt < 1
  case neg => exact invoice_arg hx
  case pos =>
  obtain ⟨h1, h2, h3, h4⟩ := hx
  obtain ⟨G, hI, hR, hC, hA, hg, hown⟩ := hV.ex
  have hlen : C.length = G.ps.length := by rw [← hC]; simp
  have d1 := hide (isDay_any c.day)
  have d2 := hide (isDay_any c.due)
  rw [h1] at d1
  rw [h2] at d2
  have hd1 : 1 ≤ c.day := by unfold dayB at h1; simp at h1; omega
  have hd2 : c.due ≤ 3652059 := by unfold dayB at h2; simp at h2; omega
  obtain ⟨bx, hbx⟩ : ∃ bx, bx = W.heap.size := ⟨_, rfl⟩
  obtain ⟨X, hX⟩ : ∃ X, X = W.alloc (.cells #[.string c.key, .string c.acc, .int .i64 c.day, .int .i64 c.due, .int .i64 c.amt] 56) := ⟨_, rfl⟩
  have hbX : Below W.heap.size W X := by rw [hX]; exact (Below.refl _ _).alloc (Nat.le_refl _) _
  have hRX : Raw X d G := hR.below hbX
  have hXb : X.heap[bx]? = some (.cells #[.string c.key, .string c.acc, .int .i64 c.day, .int .i64 c.due, .int .i64 c.amt] 56 (0, 0)) := by rw [hX, hbx]; exact heap_new _ _
  obtain ⟨pc, cc, hvc, _, _⟩ := row_slice hR.rc
  have c0 : X.cell? ⟨d, 0, none⟩ = some (.slice pc G.ps.length cc) := by rw [cell_at hRX.ob]; show some G.vc = _; rw [hvc]
  have x2 : X.cell? ⟨bx, 2, none⟩ = some (.int .i64 c.day) := by rw [cell_at hXb]; rfl
  have x3 : X.cell? ⟨bx, 3, none⟩ = some (.int .i64 c.due) := by rw [cell_at hXb]; rfl
  have x4 : X.cell? ⟨bx, 4, none⟩ = some (.int .i64 c.amt) := by rw [cell_at hXb]; rfl
  have HSTART : Hid (∀ (T : Ending → World → Prop), Calls Tryz.prog 17 #[ptr d, .agg #[.string c.key, .string c.acc, .int .i64 c.day, .int .i64 c.due, .int .i64 c.amt]] W T → Calls Tryz.prog 17 #[ptr d, .agg #[.string c.key, .string c.acc, .int .i64 c.day, .int .i64 c.due, .int .i64 c.amt]] W T) := fun T h => h
  by_cases hl : C.length = 1000
  · have hv : invS C c = 2 := by unfold invS; rw [if_neg (fun h => h ⟨h1, h2, h3, h4⟩), if_pos hl]
    have HO := hide (InvOut.bad (W := W) (w' := X) (d := d) (S := S) (A := A) (g := g) 2 hv (by decide) hbX)
    have hl2 : ((G.ps.length : Int) == 1000) = true := by rw [beq_iff_eq]; omega
    have hl3 : (G.ps.length : Int) = 1000 := by omega
    rw [hv]
    unfold ptr
    have HXX := hide hX
    clear hv hV hI hR hC hA hg hown hRX hXb hvc hlen hl hbX h1 h2 hd1 hd2 hX
    go_enter Tryz.func17, Tryz.ntmps17
    go_wp2_with fail
    rw [← unhide HXX, ← hbx]
    clear hbx HXX
    refine (unhide d1 _).mono ?_
    rintro e w1 ⟨rfl, hw⟩
    rw [hw]
    clear hw w1
    go_wp2_with fail
    refine (unhide d2 _).mono ?_
    rintro e w1 ⟨rfl, hw⟩
    rw [hw]
    clear hw w1
    go_wp2_with fail
    go_ret
    exact ⟨rfl, unhide HO⟩
  have hlt : G.ps.length < 1000 := by have := hI.l1; omega
  have hl2 : ((G.ps.length : Int) == 1000) = false := by rw [beq_eq_false_iff_ne]; omega
  have hl3 : ¬ (G.ps.length : Int) = 1000 := by omega
  have hRD : Raw X.drew d G := hRX.keep (fun _ _ => rfl)
  have y1 : X.drew.cell? ⟨d, 1, none⟩ = some (.map G.mb) := by rw [cell_at hRD.ob]; rfl
  have y0 : X.drew.cell? ⟨bx, 0, none⟩ = some (.string c.key) := by
    show X.cell? _ = _
    rw [cell_at hXb]; rfl
  have hlk := hRD.lookK hk
  have HXX := hide hX; have HBX := hide hbx
  cases hkf : G.kf c.key.data.toList with
  | some p0 =>
    have hv : invS C c = 70 := by
      unfold invS
      rw [if_neg (fun h => h ⟨h1, h2, h3, h4⟩), if_neg hl, if_pos]
      rw [← hC, hI.toInv0.has, hkf]
      exact fun e => by cases e
    have HO := hide (InvOut.bad (W := W) (w' := X.drew) (d := d) (S := S) (A := A) (g := g) 70 hv (by decide) hbX.drew)
    rw [hkf] at hlk
    unfold optp ptr at hlk
    rw [hv]
    unfold ptr
    clear hv hV hI hR hC hA hg hown hRX hXb hvc hlen hl hbX h1 h2 hd1 hd2 hX hbx hRD hkf hlt
    go_enter Tryz.func17, Tryz.ntmps17
    go_wp2_with fail
    rw [← unhide HXX, ← unhide HBX]
    clear HXX HBX
    refine (unhide d1 _).mono ?_
    rintro e w1 ⟨rfl, hw⟩
    rw [hw]
    clear hw w1
    go_wp2_with fail
    refine (unhide d2 _).mono ?_
    rintro e w1 ⟨rfl, hw⟩
    rw [hw]
    clear hw w1
    go_wp2_with fail
    refine wp_region_last (n := 8) (S := fun W' => W'.cell? ⟨d, 1, none⟩ = some (.map G.mb) ∧ W'.cell? ⟨bx, 0, none⟩ = some (.string c.key) ∧ (Instr.lookup 95 (.map G.mb) (.string c.key) false).run Tryz.prog W' = .ok (.pointer (some ⟨p0, 0, none⟩)) W') (by kernel_rfl) (by exact ⟨y1, y0, hlk⟩) (fun hHeld => ?_)
    refine tkW 0 ?_; refine tkW 1 ?_; refine tkW 2 ?_; refine tkN 3 ?_; refine tkW 4 ?_; refine tkN 5 ?_; refine tkN 6 ?_; refine tkW 7 ?_
    refine wpAnyL_done (by kernel_rfl) ?_
    clear hHeld hlk y1 y0
    go_wp2_with fail
    go_ret
    exact ⟨rfl, unhide HO⟩
  | none =>
    rw [hkf] at hlk
    unfold optp at hlk
    have hnn := neqn
    have hinv := hI.toInv0.total
    rw [hC] at hinv
    have hin0 : 0 ≤ G.inv := by rw [hI.inv]; exact sumL_nonneg hI.toInv0.amt_nonneg
    have hin1 := hI.invm
    have hhas : has C c.key.data.toList = false := by
      rw [Bool.eq_false_iff]
      intro e
      rw [← hC, hI.toInv0.has] at e
      exact e hkf
    have z4 : X.drew.drew.cell? ⟨d, 4, none⟩ = some (.int .i64 G.inv) := by
      show X.cell? _ = _
      rw [cell_at hRX.ob]; rfl
    have z5 : X.drew.drew.cell? ⟨bx, 4, none⟩ = some (.int .i64 c.amt) := x4
    by_cases hov : G.inv + c.amt > 9223372036854775807
    · have hv : invS C c = 11 := by
        unfold invS
        rw [if_neg (fun h => h ⟨h1, h2, h3, h4⟩), if_neg hl, hhas, if_neg (by simp), if_pos (by rw [← hinv]; exact hov)]
      have HO := hide (InvOut.bad (W := W) (w' := X.drew.drew) (d := d) (S := S) (A := A) (g := g) 11 hv (by decide) hbX.drew.drew)
      have dA := hide (add_over G.inv c.amt ⟨hin0, hin1⟩ ⟨by omega, hm⟩ hov)
      rw [hv]
      unfold ptr
      clear hv hV hI hR hC hA hg hown hRX hXb hvc hlen hl hbX h1 h2 hd1 hd2 hX hbx hRD hkf hlt hinv hin0 hin1 hhas hov
      go_enter Tryz.func17, Tryz.ntmps17
      go_wp2_with fail
      rw [← unhide HXX, ← unhide HBX]
      clear HXX HBX
      refine (unhide d1 _).mono ?_
      rintro e w1 ⟨rfl, hw⟩
      rw [hw]
      clear hw w1
      go_wp2_with fail
      refine (unhide d2 _).mono ?_
      rintro e w1 ⟨rfl, hw⟩
      rw [hw]
      clear hw w1
      go_wp2_with fail
      refine wp_region_last (n := 8) (S := fun W' => W'.cell? ⟨d, 1, none⟩ = some (.map G.mb) ∧ W'.cell? ⟨bx, 0, none⟩ = some (.string c.key) ∧ (Instr.lookup 95 (.map G.mb) (.string c.key) false).run Tryz.prog W' = .ok (.pointer none) W') (by kernel_rfl) (by exact ⟨y1, y0, hlk⟩) (fun hHeld => ?_)
      refine tkW 0 ?_; refine tkW 1 ?_; refine tkW 2 ?_; refine tkN 3 ?_; refine tkW 4 ?_; refine tkN 5 ?_; refine tkN 6 ?_; refine tkW 7 ?_
      refine wpAnyL_done (by kernel_rfl) ?_
      clear hHeld hlk y1 y0
      go_wp2_with fail
      refine wp_region_last (n := 12) (S := fun W' => W'.cell? ⟨d, 4, none⟩ = some (.int .i64 G.inv) ∧ W'.cell? ⟨bx, 4, none⟩ = some (.int .i64 c.amt) ∧ W' = X.drew.drew) (by kernel_rfl) (by exact ⟨z4, z5, rfl⟩) (fun hHeld => ?_)
      refine tkW 0 ?_; refine tkW 1 ?_; refine tkW 2 ?_; refine tkN 3 ?_; refine tkW 4 ?_; refine tkN 5 ?_
      refine wpAnyL_one (i := 6) (by kernel_rfl) rfl (fun KK hK => ?_)
      go_simp
      go_wp2_with (first | (go_at_call 102; refine (unhide dA _).mono ?_; rintro e w2 ⟨rfl, hw⟩; rw [hw]; clear hw w2))
      refine hK.out _ _ (by exact ⟨z4, z5, rfl⟩) (fun hHeld => ?_)
      clear hK KK
      refine tkW 7 ?_; refine tkW 8 ?_; refine tkW 9 ?_; refine tkW 10 ?_; refine tkW 11 ?_
      refine wpAnyL_done (by kernel_rfl) ?_
      clear hHeld
      go_wp2_with fail
      go_ret
      exact ⟨rfl, unhide HO⟩
    · have hv : invS C c = 0 := by
        unfold invS
        rw [if_neg (fun h => h ⟨h1, h2, h3, h4⟩), if_neg hl, hhas, if_neg (by simp), if_neg (by rw [← hinv]; exact hov)]
      have dA := hide (add_ok G.inv c.amt ⟨hin0, hin1⟩ ⟨by omega, hm⟩ (by omega))
      have hOk : OkC c := ⟨hd1, hd2, by omega, by omega, hm, hk, ha⟩
      obtain ⟨X2, hX2⟩ : ∃ X2, X2 = X.drew.drew.setCell ⟨d, 4, none⟩ (.int .i64 (G.inv + c.amt)) := ⟨_, rfl⟩
      have hbd : bx ≠ d := fun e => by have := hR.lt (G := G) (d := d) own_d; omega
      have n2 : Next X X2 d G { G with inv := G.inv + c.amt } := by
        refine hRX.scalar rfl rfl rfl rfl rfl rfl rfl rfl rfl rfl rfl rfl rfl rfl rfl rfl rfl ?_ ?_ (fun p hp => ?_) (fun k q hq => ?_)
        · rw [hX2]; exact (Fr.refl X _).drew.drew.setCell (.inl (.inl rfl)) _
        · rw [hX2, Go.heap_setCell_same _ _ _ _ _ _ (show X.drew.drew.heap[d]? = _ from hRX.ob)]; rfl
        · rw [hX2, Below.heap_setCell _ _ _ _ (fun e => by have h5 := hRX.tyB hp; rw [e, hRX.tyD] at h5; cases h5)]; exact hRX.cb p hp
        · rw [hX2, Below.heap_setCell _ _ _ _ (fun e => by have h5 := hRX.tyQ hq; rw [e, hRX.tyD] at h5; cases h5)]; exact hRX.ac k q hq
      obtain ⟨p, hp⟩ : ∃ p, p = X2.heap.size := ⟨_, rfl⟩
      obtain ⟨X3, hX3⟩ : ∃ X3, X3 = X2.alloc (.cells c.cells 109) := ⟨_, rfl⟩
      have hpW : W.heap.size ≤ p := by rw [hp]; exact Nat.le_trans hbX.size n2.fr.size
      have hpn : p ∉ G.bs := fun hb => by
        have := hR.lt (own_bs (d := d) hb)
        omega
      have hps : p ∉ G.ps := by rw [hI.pb]; exact hpn
      have hpo : ¬ G.own d p := fun hb => by
        have := hR.lt hb
        omega
      have hR3 : Raw X3 d (G.more p c) := by
        refine Raw.reg (n2.raw.below (by rw [hX3]; exact (Below.refl _ _).alloc (Nat.le_refl _) _)) hpn ?_
        rw [hX3, hp]
        exact heap_new _ _
      have fr3 : Fr W X3 S := by
        have f1 : Fr W X S := Fr.of_below hbX S
        have f2 : Fr X X2 S := n2.fr.mono (fun i _ hx => hown i hx)
        rw [hX3]
        exact (f1.trans f2 (fun _ _ h => h)).alloc _
      have hz : ¬ G.own d 0 := fun h => hV.z (hown 0 h)
      have hst3 : Stp X3 := hS.keep (fr3.block 0 hS.lt hV.z)
      have HKI : KeepIn X3 d p (G.more p c) := by
        refine ⟨hR3, by show p ∈ G.bs ++ [p]; simp, hI.km, fun y hy => hI.toInv0.no hy, hI.toInv0.moreOK hOk (by omega), hst3, fun h => ?_, hI.hp, hI.l1, ?_, ?_, ?_, ?_, ?_⟩
        · rcases own_more hpn h with h | h
          · have := hS.lt; omega
          · exact hz h
        · rw [more_key]
          show (G.ls _).length ≤ 1000
          exact Nat.le_trans (ls_len hI.toInv0 _) hI.l1
        · show G.tn.length ≤ 100000
          have h5 := hI.l3; have h6 := hI.l1; have h7 := hI.l2
          omega
        · exact Nat.le_trans hI.l4 hI.l1
        · exact Nat.le_trans hI.l5 hI.l1
        · rw [more_new.1]; exact hk
      have dK := hide (keep_any HKI)
      have HOUT : Hid (∀ w', KeptOut X3 w' d p (G.more p c) → InvOut W w' d S C A g c) := fun w' ⟨G', ho⟩ => by
        refine ⟨fun e => absurd hv e, fun _ => ?_⟩
        obtain ⟨i1, i2, i3, i4⟩ := hI.kept hps hOk (by omega) hkf hlt ho
        have hfr : Fr W w' S := fr3.trans ho.next.fr (fun i hi hx => by
          rcases own_more hpn hx with h | h
          · omega
          · exact hown i h)
        refine ⟨G'.own d, ⟨⟨G', i1, ho.next.raw, by rw [i2, hC], by rw [i3, hA], by rw [i4, hg], fun b hb => hb⟩, fun b hb => ho.next.raw.lt hb, fun hb => ?_⟩, hfr, fun b hb => ?_⟩
        · rcases ho.next.own 0 hb with h | h
          · rcases own_more hpn h with h | h
            · have := hS.lt; omega
            · exact hz h
          · have := hst3.lt; omega
        · rcases ho.next.own b hb with h | h
          · rcases own_more hpn h with h | h
            · exact .inr (by omega)
            · exact .inl (hown b h)
          · exact .inr (Nat.le_trans fr3.size h)
      have hX2b : X2.heap[bx]? = some (.cells #[.string c.key, .string c.acc, .int .i64 c.day, .int .i64 c.due, .int .i64 c.amt] 56 (0, 0)) := by rw [hX2, Below.heap_setCell _ _ _ _ hbd]; exact hXb
      have hld := run_ld37 (w := X2) (b := bx) (o := 0) (c := c) (fun i v hv => by
        rw [Nat.zero_add, cell_at hX2b]; simpa [Cl.vals] using hv)
      have z6 : X2.cell? ⟨bx, 4, none⟩ = some (.int .i64 c.amt) := by rw [cell_at hX2b]; rfl
      have z4f : X.drew.drew.frozen? ⟨d, 4, none⟩ = false := by
        show X.frozen? _ = _
        exact froz_at hRX.ob
      unfold Cl.cells at hX3
      rw [hv]
      unfold ptr at dK ⊢
      have HX2 := hide hX2; have HX3 := hide hX3; have HPP := hide hp
      clear hv hV hI hR hC hA hg hown hRX hXb hvc hlen hl hbX h1 h2 hd1 hd2 hX hbx hRD hkf hlt hinv hin0 hin1 hhas hov n2 hX2b hR3 fr3 hz hst3 HKI hps hpo hpn hpW hOk hX2 hX3 hp
      go_enter Tryz.func17, Tryz.ntmps17
      go_wp2_with fail
      rw [← unhide HXX, ← unhide HBX]
      clear HXX HBX
      refine (unhide d1 _).mono ?_
      rintro e w1 ⟨rfl, hw⟩
      rw [hw]
      clear hw w1
      go_wp2_with fail
      refine (unhide d2 _).mono ?_
      rintro e w1 ⟨rfl, hw⟩
      rw [hw]
      clear hw w1
      go_wp2_with fail
      refine wp_region_last (n := 8) (S := fun W' => W'.cell? ⟨d, 1, none⟩ = some (.map G.mb) ∧ W'.cell? ⟨bx, 0, none⟩ = some (.string c.key) ∧ (Instr.lookup 95 (.map G.mb) (.string c.key) false).run Tryz.prog W' = .ok (.pointer none) W') (by kernel_rfl) (by exact ⟨y1, y0, hlk⟩) (fun hHeld => ?_)
      refine tkW 0 ?_; refine tkW 1 ?_; refine tkW 2 ?_; refine tkN 3 ?_; refine tkW 4 ?_; refine tkN 5 ?_; refine tkN 6 ?_; refine tkW 7 ?_
      refine wpAnyL_done (by kernel_rfl) ?_
      clear hHeld hlk y1 y0
      go_wp2_with fail
      refine wp_region_last (n := 12) (S := fun W' => W'.cell? ⟨d, 4, none⟩ = some (.int .i64 G.inv) ∧ W'.cell? ⟨bx, 4, none⟩ = some (.int .i64 c.amt) ∧ W' = X.drew.drew) (by kernel_rfl) (by exact ⟨z4, z5, rfl⟩) (fun hHeld => ?_)
      refine tkW 0 ?_; refine tkW 1 ?_; refine tkW 2 ?_; refine tkN 3 ?_; refine tkW 4 ?_; refine tkN 5 ?_
      refine wpAnyL_one (i := 6) (by kernel_rfl) rfl (fun KK hK => ?_)
      go_simp
      go_wp2_with (first | (go_at_call 102; refine (unhide dA _).mono ?_; rintro e w2 ⟨rfl, hw⟩; rw [hw]; clear hw w2))
      refine hK.out _ _ (by exact ⟨z4, z5, rfl⟩) (fun hHeld => ?_)
      clear hK KK
      refine tkW 7 ?_; refine tkW 8 ?_; refine tkW 9 ?_; refine tkW 10 ?_; refine tkW 11 ?_
      refine wpAnyL_done (by kernel_rfl) ?_
      clear hHeld
      obtain ⟨Z, hZ⟩ : ∃ Z, Z = X.drew.drew := ⟨_, rfl⟩
      rw [← hZ] at z4 z4f ⊢
      have HX2' : Hid (X2 = Z.setCell ⟨d, 4, none⟩ (.int .i64 (G.inv + c.amt))) := by show _ = _; rw [hZ]; exact unhide HX2
      clear hZ
      go_upto_region 11 with fail
      rw [← unhide HX2']
      go_wp2_with fail
      rw [← unhide HX3, ← unhide HPP]
      refine (unhide dK).mono ?_
      rintro e w9 ⟨rfl, hko⟩
      have HFIN := hide (unhide HOUT w9 hko)
      clear hko
      go_wp2_with fail
      go_ret
      exact ⟨rfl, unhide HFIN⟩
end Go.Proofs.YtfclknlpdcanpaaGreatDoor
