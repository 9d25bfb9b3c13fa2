/- aged: keep (45), the first claim. -/
import Derived.Test.YtildpgfhahmgmaaDoorKeA
namespace Go.Proofs.YtildpgfhahmgmaaDoor
open Go Go.Shelf Go.ChangeShapes Go.WideShapes Go.ChangeAt Go.RowKit Go.Maps
set_option linter.unusedVariables false
theorem KeepOut.up {W M w' : World} {d p : Nat} {G G' : Gh} {mb ma : Option Nat} (h : KeepOut M w' d p { G with mb := mb, ma := ma } G') (hn : Next W M d G { G with mb := mb, ma := ma }) : KeepOut W w' d p G G' := ⟨hn.trans h.next, h.bs, h.cl, h.lf, h.pt, h.pv, h.al, h.inv, h.gone, h.ps, h.kf, h.qa, h.ls, h.sh, h.nw, h.tm, h.mb, h.ma, h.nk, h.na⟩
set_option maxRecDepth 100000 in
set_option maxHeartbeats 8000000 in
theorem keep_first {W : World} {d p : Nat} {G : Gh} (HI : KeepIn W d p G) (hb0 : G.mb = none) :
    Calls Tryd.prog 45 #[ptr d, ptr p] W fun e w' => e = .returned (.tuple #[]) ∧ KeptOut W w' d p G := by
  have hb00 : G.ma = none := HI.km.1 hb0
  have c1 : W.cell? ⟨d, 1, none⟩ = some (.map none) := by simp [World.cell?, HI.raw.ob, Gh.agV, hb0]
  have f1 : W.frozen? ⟨d, 1, none⟩ = false := by simp [World.frozen?, HI.raw.ob]
  have f2 : W.frozen? ⟨d, 2, none⟩ = false := by simp [World.frozen?, HI.raw.ob]
  have c2 : W.cell? ⟨d, 2, none⟩ = some (.map none) := by simp [World.cell?, HI.raw.ob, Gh.agV, hb00]
  have hdl := heap_lt HI.raw.ob
  have hmk1 := fun W => run_makeMap (P := Tryd.prog) 78 W
  have hmk2 := fun W => run_makeMap (P := Tryd.prog) 79 W
  have he1 := eqm_none
  obtain ⟨X, hX⟩ : ∃ X, X = (W.setCell ⟨d, 1, none⟩ (.map (some W.heap.size))).setCell ⟨d, 2, none⟩ (.map (some (W.heap.size + 1))) := ⟨_, rfl⟩
  have hXs : X.heap.size = W.heap.size := by rw [hX]; simp
  obtain ⟨M, hM⟩ : ∃ M, M = (((W.setCell ⟨d, 1, none⟩ (.map (some W.heap.size))).setCell ⟨d, 2, none⟩ (.map (some (W.heap.size + 1)))).alloc (.map #[] 0)).alloc (.map #[] 0) := ⟨_, rfl⟩
  have hM2 : M = (X.alloc (.map #[] 0)).alloc (.map #[] 0) := by rw [hM, hX]
  obtain ⟨b1, hb1e⟩ : ∃ b, b = W.heap.size := ⟨_, rfl⟩
  obtain ⟨b2, hb2e⟩ : ∃ b, b = W.heap.size + 1 := ⟨_, rfl⟩
  obtain ⟨Gm, hGm⟩ : ∃ Gm : Gh, Gm = { G with mb := some b1, ma := some b2 } := ⟨_, rfl⟩
  have NM : Next W M d G Gm := by
    rw [hGm]
    refine HI.raw.maps hb0 hb00 ?_ ?_ ?_ ?_ (by omega) (by omega) (by omega)
    · rw [hM2, hX]
      exact ((Fr.setCell (X := fun b => b = d) (Fr.setCell (X := fun b => b = d) (Fr.refl W _) (p := ⟨d, 1, none⟩) (.inl rfl) _) (p := ⟨d, 2, none⟩) (.inl rfl) _).alloc _).alloc _
    · rw [hM2, Below.heap_alloc _ _ _ (by simp; omega), Below.heap_alloc _ _ _ (by omega), hX, Go.heap_setCell_same _ _ _ _ _ _ (Go.heap_setCell_same _ _ _ _ _ _ HI.raw.ob), hb1e, hb2e]
      rfl
    · have h1 := (PMAt.made X).keep (w' := M) (by rw [hM2]; exact Below.heap_alloc _ _ _ (by simp))
      rw [hXs, ← hb1e] at h1
      exact h1.mono (Nat.zero_le _)
    · have h1 := PMAt.made (X.alloc (.map #[] 0))
      rw [← hM2] at h1
      have e : (X.alloc (.map #[] 0)).heap.size = b2 := by rw [hb2e]; simp [hXs]
      rw [e] at h1
      exact h1.mono (Nat.zero_le _)
  have hb1 : Gm.mb = some b1 := by rw [hGm]
  have eqa : Gm.qa = fun _ => none := by rw [hGm]; exact funext (HI.raw.an hb00)
  have HI2 : KeepIn M d p Gm := by
    refine ⟨NM.raw, by rw [hGm]; exact HI.mem, ?_, by rw [hGm]; exact HI.no, by rw [hGm]; exact HI.ok.of rfl rfl rfl rfl rfl, HI.st.keep (NM.fr.block 0 HI.st.lt HI.z), fun hx => (NM.own 0 hx).elim HI.z (fun h => by have := HI.st.lt; omega), by rw [hGm]; exact HI.hp, by rw [hGm]; exact HI.l1, by rw [hGm]; exact HI.l2, by rw [hGm]; exact HI.l3, by rw [hGm]; exact HI.l4, by rw [hGm]; exact HI.l5, by rw [hGm]; exact HI.ksz⟩
    rw [hGm]
    exact ⟨(fun h => by cases h), (fun h => by cases h)⟩
  have hq : Gm.qa (Gm.key p) = none := by rw [eqa]
  have HUP : Hid (∀ w', KeptOut M w' d p Gm → KeptOut W w' d p G) := fun w' ⟨G', h⟩ => by
    subst hGm
    exact ⟨G', h.up NM⟩
  have HM := hide hM; have HI0 := hide HI; have HGM := hide hGm
  clear hM hM2 hX hXs hb1e hGm NM eqa HI hb0 hb00 X
  have hb2 : Gm.ma = some b2 := by rw [unhide HGM]
  obtain ⟨k, hk⟩ : ∃ k, k = Gm.key p := ⟨_, rfl⟩
  have d2 : M.drew.cell? ⟨d, 2, none⟩ = some (.map (some b2)) := by
    show M.cell? _ = _
    simp [World.cell?, HI2.raw.ob, Gh.agV, hb2]
  have hcb := HI2.raw.cb p HI2.mem
  have p1 : M.drew.cell? ⟨p, 1, none⟩ = some (.string (Gm.cl p).acc) := by
    show M.cell? _ = _
    simp [World.cell?, hcb, Gh.clV]
  have hlk : (Instr.lookup 79 (.map (some b2)) (.string (Gm.cl p).acc) false).run Tryd.prog M.drew = .ok (.pointer none) M.drew := by
    have h1 := ((HI2.raw.am b2 hb2).keep (w' := M.drew) rfl).look (t := 79) und79 (zero89 _) HI2.ok.sz
    have h2 : Gm.qa (Gm.cl p).acc.data.toList = none := hq
    rw [h2] at h1
    exact h1
  have hrD : Raw M.drew d Gm := HI2.raw.keep (fun _ _ => rfl)
  have NW0 : Next M M.drew d Gm Gm := ⟨hrD, (Fr.refl M _).drew, fun b hb => .inl hb⟩
  obtain ⟨Q, hQ⟩ : ∃ Q, Q = M.heap.size := ⟨_, rfl⟩
  obtain ⟨w5, r5, hn5⟩ := step5 (s := (Gm.cl p).acc) hrD hb2 HI2.l5 HI2.ok.sz hq
  have hn5 : Next M.drew w5 d Gm (Gm.acct k Q) := by rw [hk, hQ]; exact hn5
  have hpd : p ≠ d := fun e => by have h1 := HI2.raw.tyB HI2.mem; rw [e, HI2.raw.tyD] at h1; cases h1
  have r5 : (Instr.mapUpdate 79 (.map (some b2)) (.string (Gm.cl p).acc) (.pointer (some ⟨Q, 0, none⟩))).run Tryd.prog (M.drew.alloc (.cells #[.slice none 0 0, .int .i64 0, .int .i64 0, .int .i64 0, .int .i64 0, .int .i64 0] 91)).drew = .ok () w5 := by rw [hQ]; exact r5
  obtain ⟨A5, hA5⟩ : ∃ A5, A5 = (M.drew.alloc (.cells #[.slice none 0 0, .int .i64 0, .int .i64 0, .int .i64 0, .int .i64 0, .int .i64 0] 91)).drew := ⟨_, rfl⟩
  have e2 : A5.cell? ⟨d, 2, none⟩ = some (.map (some b2)) := by
    rw [hA5]
    show (M.alloc _).cell? _ = _
    simp [World.cell?, Below.heap_alloc _ _ _ (heap_lt HI2.raw.ob), HI2.raw.ob, Gh.agV, hb2]
  have e1 : A5.cell? ⟨p, 1, none⟩ = some (.string (Gm.cl p).acc) := by
    rw [hA5]
    show (M.alloc _).cell? _ = _
    simp [World.cell?, Below.heap_alloc _ _ _ (heap_lt hcb), hcb, Gh.clV]
  have HENW : Hid ((Gm.acct k Q).nw = Gm.nw) := by
    show _ = _
    funext y j
    show (if y = k then 0 else Gm.nw y j) = _
    by_cases e : y = k
    · rw [if_pos e, e, hk, (HI2.no _ hq).2 j]
    · rw [if_neg e]
  have hls0 : (Gm.acct k Q).ls k = [] := by simp [Gh.acct]
  have HQ : Hid ((Gm.acct k Q).qa k = some Q) := by show _ = _; simp [Gh.acct]
  obtain ⟨p6, c6, n6, w6, p7, c7, n7, w7, w8, G8, T8⟩ := tail8 (p := p) (k := k) hn5.raw (unhide HQ) hb1 HI2.mem (by rw [hls0]; simp) HI2.l1 HI2.l4 HI2.ksz
  have K8 := T8.kept
  have N8 : Next M w8 d Gm G8 := NW0.trans (hn5.trans T8.next)
  have hz8 : Stp w8 := HI2.st.keep (N8.fr.block 0 HI2.st.lt HI2.z)
  have dT := hide (turns_any (W := w8) (p := p) (c := Gm.cl p) (x5 := .int .i64 (G8.lf p)) (x6 := G8.pv p) (x7 := .int .i64 (G8.sh p).1) (x8 := .int .i64 (G8.sh p).2) (by
    rw [N8.raw.cb p (by rw [K8.bs]; exact HI2.mem)]
    unfold Gh.clV
    rw [K8.cl]
    rfl) hz8 HI2.ok.due)
  have HQAP : Hid (∀ y, (Gm.acct k Q).qa y ≠ none ↔ Gm.qa y ≠ none ∨ y = k) := fun y => by
    show (if y = k then some Q else Gm.qa y) ≠ none ↔ _
    by_cases e : y = k
    · rw [if_pos e]; exact ⟨fun _ => .inr e, fun _ h => by cases h⟩
    · rw [if_neg e]; exact ⟨.inl, fun h => h.elim id (fun h => absurd h e)⟩
  have HLSP : Hid ((fun y => if y = k then (Gm.acct k Q).ls k ++ [p] else (Gm.acct k Q).ls y) = fun y => if y = k then Gm.ls y ++ [p] else Gm.ls y) := by
    show _ = _
    funext y
    by_cases e : y = k
    · rw [if_pos e, if_pos e, hls0, e, hk, (HI2.no _ hq).1]
    · rw [if_neg e, if_neg e]
      show (if y = k then [] else Gm.ls y) = _
      rw [if_neg e]
  have HMB : Hid ((Gm.acct k Q).mb ≠ none) := ne_none hb1
  have HMA : Hid ((Gm.acct k Q).ma ≠ none) := ne_none hb2
  unfold ptr at dT ⊢
  have he2 := fun w => eqp_none w 89 (.inl rfl)
  clear hb2e
  go_enter Tryd.func45, Tryd.ntmps45
  go_wp2_with fail
  rw [← unhide HM]
  clear HM c1 f1 f2 c2 hmk1 hmk2
  refine wp_region_last (n := 11) (S := fun M' => M'.cell? ⟨d, 2, none⟩ = some (.map (some b2)) ∧ M'.cell? ⟨p, 1, none⟩ = some (.string (Gm.cl p).acc) ∧ (Instr.lookup 79 (.map (some b2)) (.string (Gm.cl p).acc) false).run Tryd.prog M' = .ok (.pointer none) M') (by kernel_rfl) (by exact ⟨d2, p1, hlk⟩) (fun hHeld => ?_)
  refine tkW 0 ?_; refine tkW 1 ?_; refine tkW 2 ?_; refine tkN 3 ?_; refine tkW 4 ?_; refine tkW 5 ?_; refine tkW 6 ?_; refine tkW 7 ?_; refine tkN 8 ?_; refine tkN 9 ?_; refine tkW 10 ?_
  refine wpAnyL_done (by kernel_rfl) ?_
  clear hHeld d2 p1 hlk
  clear hpd hls0
  rw [← hA5] at r5
  go_wp2_with fail
  have hWW : (M.alloc (.cells #[.slice none 0 0, .int .i64 0, .int .i64 0, .int .i64 0, .int .i64 0, .int .i64 0] 91)).drew.drew = A5 := hA5.symm
  have HWW := hide hWW; have HA5 := hide hA5; have HQQ := hide hQ
  clear hWW hA5 hQ
  refine wp_region_last (n := 10) (S := fun M' => M'.cell? ⟨d, 2, none⟩ = some (.map (some b2)) ∧ M'.cell? ⟨p, 1, none⟩ = some (.string (Gm.cl p).acc) ∧ M' = A5) (by kernel_rfl) (by rw [unhide HWW]; exact ⟨e2, e1, rfl⟩) (fun hHeld => ?_)
  refine tkW 0 ?_; refine tkW 1 ?_; refine tkW 2 ?_; refine tkS 3 ?_; refine tkW 4 ?_; refine tkW 5 ?_; refine tkW 6 ?_; refine tkW 7 ?_; refine tkS 8 ?_; refine tkW 9 ?_
  clear hHeld
  rw [unhide HWW, ← unhide HQQ]
  refine wpAnyL_past (i := 10) (by kernel_rfl) rfl (by kernel_rfl) (fun KK hK => ?_)
  go_simp
  refine hK.out _ _ ?_
  clear hK KK
  refine wpAnyL_done (by kernel_rfl) ?_
  clear e1 e2
  have r6 := T8.r6; have l6 := T8.l6; have m6 := T8.m6; have f6 := T8.f6; have r7 := T8.r7; have l7 := T8.l7; have m7 := T8.m7; have f7 := T8.f7; have m1 := T8.m1; have m0 := T8.m0; have r8 := T8.r8
  have HK8 := hide K8; have HN8 := hide N8; have HII := hide HI2; have HST8 := hide hz8; have HHK := hide hk
  obtain ⟨V, hV⟩ : ∃ V, V = w5 := ⟨_, rfl⟩
  rw [← hV] at r6 l6 ⊢
  clear hV
  clear T8 K8 N8 HI2 hz8 hk NW0 hrD hq hb1 hb2 hcb hn5 r5
  go_upto_region 7 with (refine wpList_append_run rfl _ _ _ rfl _ _ _ _ rfl rfl r6 ?_)
  clear r6 l6 m6 f6
  obtain ⟨V6, hV6⟩ : ∃ V6, V6 = w6.setCell ⟨Q, 0, none⟩ (.slice p6 n6 c6) := ⟨_, rfl⟩
  have hV6s : w6.heap.size = V6.heap.size := by rw [hV6]; simp
  rw [← hV6] at r7 l7 ⊢
  rw [hV6s] at r7
  clear hV6 hV6s
  go_upto_region 8 with (refine wpList_append_run rfl _ _ _ rfl _ _ _ _ rfl rfl r7 ?_)
  clear r7 l7 m7 f7
  refine wp_region_last (n := 10) (S := fun M' => M'.cell? ⟨d, 1, none⟩ = some (.map (some b1)) ∧ M'.cell? ⟨p, 0, none⟩ = some (.string ((Gm.acct k Q).cl p).key) ∧ M' = (w7.setCell ⟨d, 0, none⟩ (.slice p7 n7 c7)).drew) (by kernel_rfl) (by exact ⟨m1, m0, rfl⟩) (fun hHeld => ?_)
  refine tkW 0 ?_; refine tkW 1 ?_; refine tkW 2 ?_; refine tkS 3 ?_; refine tkW 4 ?_; refine tkW 5 ?_; refine tkW 6 ?_; refine tkW 7 ?_; refine tkS 8 ?_; refine tkW 9 ?_
  clear hHeld
  obtain ⟨V7, hV7⟩ : ∃ V7, V7 = (w7.setCell ⟨d, 0, none⟩ (.slice p7 n7 c7)).drew := ⟨_, rfl⟩
  rw [← hV7] at r8 m1 m0 ⊢
  clear hV7
  refine wpAnyL_past (i := 10) (by kernel_rfl) rfl (by kernel_rfl) (fun KK hK => ?_)
  go_simp
  refine hK.out _ _ ?_
  clear hK KK
  refine wpAnyL_done (by kernel_rfl) ?_
  clear r8 m1 m0
  go_wp2_with fail
  refine (unhide dT).mono ?_
  rintro e w9 ⟨v9, rfl, hT9⟩
  obtain ⟨p9, c9, rfl, hn9, hs9⟩ := row_slice hT9.row
  have hN8 := unhide HN8; have hK8 := unhide HK8; have hII := unhide HII
  have hr9 : Raw w9 d G8 := hN8.raw.below hT9.bel
  have dF := hide (follow_any (W := w9) (d := d) (p := p) (q := Q) (G := G8) hr9 (by rw [hK8.bs]; exact hII.mem) (by
    have e : G8.key p = Gm.key p := by unfold Gh.key; rw [hK8.cl]; rfl
    rw [e, hK8.qa, ← unhide HHK]; exact unhide HQ) ((unhide HST8).below hT9.bel) (fun hx => (hN8.own 0 hx).elim hII.z (fun h => by have := hII.st.lt; omega)) (hII.ok.of (by rw [hK8.cl]; rfl) (by rw [hK8.pt]; rfl) (by rw [hK8.sh]; rfl) (by rw [hK8.gone]; rfl) (by rw [hK8.nw]; exact unhide HENW)) (by rw [hK8.tn]; exact hII.hp) (pd := p9) (nd := 5) (cd := c9) (L := trn5 (Gm.cl p)) (own_lies kI_ok rfl hT9.row) rfl (fun b off e hx => by
    have h1 := (hs9 _ e).2.2.1
    have h2 := hN8.raw.lt hx
    have h3 : w8.heap.size ≤ b := h1
    omega) (by rw [hK8.tn]; have := hII.l3; show Gm.tn.length + 5 ≤ 1000000; omega))
  unfold ptr at dF
  have HB9 := hide hT9.bel
  clear hT9 hn9 hs9 hr9 hN8 hK8 hII dT
  go_wp2_with fail
  refine (unhide dF).mono ?_
  rintro e w10 ⟨rfl, hF⟩
  have HFIN : Hid (KeptOut M w10 d p Gm) := by
    have hN8 := unhide HN8; have hK8 := unhide HK8
    obtain ⟨vt', H', hM, hNx⟩ := hF
    have eC : G8.cl = Gm.cl := by rw [hK8.cl]; rfl
    have eP : G8.pt = Gm.pt := by rw [hK8.pt]; rfl
    have eG : G8.gone = Gm.gone := by rw [hK8.gone]; rfl
    have eS : G8.sh = Gm.sh := by rw [hK8.sh]; rfl
    have eN : G8.nw = Gm.nw := by rw [hK8.nw]; exact unhide HENW
    have eT : G8.tn = Gm.tn := by rw [hK8.tn]; rfl
    have eK : G8.key p = Gm.key p := by unfold Gh.key; rw [eC]
    refine ⟨_, { next := (hN8.below (unhide HB9)).trans hNx, bs := by show G8.bs = _; rw [hK8.bs]; rfl, cl := eC, lf := by show G8.lf = _; rw [hK8.lf]; rfl, pt := eP, pv := by show G8.pv = _; rw [hK8.pv]; rfl, al := by show G8.al = _; rw [hK8.al]; rfl, inv := by show G8.inv = _; rw [hK8.inv]; rfl, gone := eG, ps := by show G8.ps = _; rw [hK8.ps]; rfl, kf := by show G8.kf = _; rw [hK8.kf]; rfl, qa := fun y => by show G8.qa y ≠ none ↔ _; rw [hK8.qa, ← unhide HHK]; exact unhide HQAP y, ls := by show G8.ls = _; rw [hK8.ls, ← unhide HHK]; exact unhide HLSP, sh := ?_, nw := ?_, tm := ?_, mb := by show G8.mb ≠ none; rw [hK8.mb]; exact unhide HMB, ma := by show G8.ma ≠ none; rw [hK8.ma]; exact unhide HMA, nk := by show G8.nk ≤ _; rw [hK8.nk]; exact Nat.le_refl _, na := by show G8.na ≤ _; rw [hK8.na]; exact Nat.le_refl _ }⟩
    · show (fun x => if x = p then shr (G8.cl p) (G8.pt p) (1 + G8.gone) else G8.sh x) = _
      rw [eC, eP, eG, eS]
    · unfold Gh.shown
      simp only [Gh.key, eC, eP, eG, eS, eN]
      rfl
    · refine ⟨fun x => ?_, hM.2.1, ?_⟩
      · have := hM.1 x
        rw [eT, eG] at this
        exact this
      · have := hM.2.2
        rw [eT] at this
        exact this
  clear hF dF
  go_wp2_with fail
  go_end0
  exact ⟨rfl, unhide HUP _ (unhide HFIN)⟩
end Go.Proofs.YtildpgfhahmgmaaDoor
