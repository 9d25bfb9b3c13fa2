/- aged: keep (45), the account is new. -/
import Derived.Test.YtildpgfhahmgmaaDoorKeA
namespace Go.Proofs.YtildpgfhahmgmaaDoor
open Go Go.Shelf Go.ChangeShapes Go.WideShapes Go.ChangeAt Go.RowKit Go.Maps
set_option linter.unusedVariables false
set_option maxRecDepth 100000 in
set_option maxHeartbeats 8000000 in
theorem keep_new {W : World} {d p b1 : Nat} {G : Gh} (HI : KeepIn W d p G) (hb1 : G.mb = some b1) (hq : G.qa (G.key p) = none) :
    Calls Tryd.prog 45 #[ptr d, ptr p] W fun e w' => e = .returned (.tuple #[]) ∧ KeptOut W w' d p G := by
  obtain ⟨b2, hb2⟩ : ∃ b, G.ma = some b := some_of (fun e => by rw [HI.km.2 e] at hb1; cases hb1)
  obtain ⟨k, hk⟩ : ∃ k, k = G.key p := ⟨_, rfl⟩
  have d1 : W.cell? ⟨d, 1, none⟩ = some (.map (some b1)) := by simp [World.cell?, HI.raw.ob, Gh.agV, hb1]
  have d2 : W.drew.cell? ⟨d, 2, none⟩ = some (.map (some b2)) := by
    show W.cell? _ = _
    simp [World.cell?, HI.raw.ob, Gh.agV, hb2]
  have hcb := HI.raw.cb p HI.mem
  have p1 : W.drew.cell? ⟨p, 1, none⟩ = some (.string (G.cl p).acc) := by
    show W.cell? _ = _
    simp [World.cell?, hcb, Gh.clV]
  have hlk : (Instr.lookup 79 (.map (some b2)) (.string (G.cl p).acc) false).run Tryd.prog W.drew = .ok (.pointer none) W.drew := by
    have h1 := ((HI.raw.am b2 hb2).keep (w' := W.drew) rfl).look (t := 79) und79 (zero89 _) HI.ok.sz
    have h2 : G.qa (G.cl p).acc.data.toList = none := hq
    rw [h2] at h1
    exact h1
  have hrD : Raw W.drew d G := HI.raw.keep (fun _ _ => rfl)
  have NW0 : Next W W.drew d G G := ⟨hrD, (Fr.refl W _).drew, fun b hb => .inl hb⟩
  obtain ⟨Q, hQ⟩ : ∃ Q, Q = W.heap.size := ⟨_, rfl⟩
  obtain ⟨w5, r5, hn5⟩ := step5 (s := (G.cl p).acc) hrD hb2 HI.l5 HI.ok.sz hq
  have hn5 : Next W.drew w5 d G (G.acct k Q) := by rw [hk, hQ]; exact hn5
  have hpd : p ≠ d := fun e => by have h1 := HI.raw.tyB HI.mem; rw [e, HI.raw.tyD] at h1; cases h1
  have r5 : (Instr.mapUpdate 79 (.map (some b2)) (.string (G.cl p).acc) (.pointer (some ⟨Q, 0, none⟩))).run Tryd.prog (W.drew.alloc (.cells #[.slice none 0 0, .int .i64 0, .int .i64 0, .int .i64 0, .int .i64 0, .int .i64 0] 91)).drew = .ok () w5 := by rw [hQ]; exact r5
  obtain ⟨A5, hA5⟩ : ∃ A5, A5 = (W.drew.alloc (.cells #[.slice none 0 0, .int .i64 0, .int .i64 0, .int .i64 0, .int .i64 0, .int .i64 0] 91)).drew := ⟨_, rfl⟩
  have e2 : A5.cell? ⟨d, 2, none⟩ = some (.map (some b2)) := by
    rw [hA5]
    show (W.alloc _).cell? _ = _
    simp [World.cell?, Below.heap_alloc _ _ _ (heap_lt HI.raw.ob), HI.raw.ob, Gh.agV, hb2]
  have e1 : A5.cell? ⟨p, 1, none⟩ = some (.string (G.cl p).acc) := by
    rw [hA5]
    show (W.alloc _).cell? _ = _
    simp [World.cell?, Below.heap_alloc _ _ _ (heap_lt hcb), hcb, Gh.clV]
  have HENW : Hid ((G.acct k Q).nw = G.nw) := by
    show _ = _
    funext y j
    show (if y = k then 0 else G.nw y j) = _
    by_cases e : y = k
    · rw [if_pos e, e, hk, (HI.no _ hq).2 j]
    · rw [if_neg e]
  have hls0 : (G.acct k Q).ls k = [] := by simp [Gh.acct]
  have HQ : Hid ((G.acct k Q).qa k = some Q) := by show _ = _; simp [Gh.acct]
  obtain ⟨p6, c6, n6, w6, p7, c7, n7, w7, w8, G8, T8⟩ := tail8 (p := p) (k := k) hn5.raw (unhide HQ) hb1 HI.mem (by rw [hls0]; simp) HI.l1 HI.l4 HI.ksz
  have K8 := T8.kept
  have N8 : Next W w8 d G G8 := NW0.trans (hn5.trans T8.next)
  have hz8 : Stp w8 := HI.st.keep (N8.fr.block 0 HI.st.lt HI.z)
  have dT := hide (turns_any (W := w8) (p := p) (c := G.cl p) (x5 := .int .i64 (G8.lf p)) (x6 := G8.pv p) (x7 := .int .i64 (G8.sh p).1) (x8 := .int .i64 (G8.sh p).2) (by
    rw [N8.raw.cb p (by rw [K8.bs]; exact HI.mem)]
    unfold Gh.clV
    rw [K8.cl]
    rfl) hz8 HI.ok.due)
  have HQAP : Hid (∀ y, (G.acct k Q).qa y ≠ none ↔ G.qa y ≠ none ∨ y = k) := fun y => by
    show (if y = k then some Q else G.qa y) ≠ none ↔ _
    by_cases e : y = k
    · rw [if_pos e]; exact ⟨fun _ => .inr e, fun _ h => by cases h⟩
    · rw [if_neg e]; exact ⟨.inl, fun h => h.elim id (fun h => absurd h e)⟩
  have HLSP : Hid ((fun y => if y = k then (G.acct k Q).ls k ++ [p] else (G.acct k Q).ls y) = fun y => if y = k then G.ls y ++ [p] else G.ls y) := by
    show _ = _
    funext y
    by_cases e : y = k
    · rw [if_pos e, if_pos e, hls0, e, hk, (HI.no _ hq).1]
    · rw [if_neg e, if_neg e]
      show (if y = k then [] else G.ls y) = _
      rw [if_neg e]
  have HMB : Hid ((G.acct k Q).mb ≠ none) := ne_none hb1
  have HMA : Hid ((G.acct k Q).ma ≠ none) := ne_none hb2
  unfold ptr at dT ⊢
  have he1 := eqm_some b1
  have he2 := fun w => eqp_none w 89 (.inl rfl)
  go_enter Tryd.func45, Tryd.ntmps45
  go_wp2_with fail
  refine wp_region_last (n := 11) (S := fun W' => W'.cell? ⟨d, 2, none⟩ = some (.map (some b2)) ∧ W'.cell? ⟨p, 1, none⟩ = some (.string (G.cl p).acc) ∧ (Instr.lookup 79 (.map (some b2)) (.string (G.cl p).acc) false).run Tryd.prog W' = .ok (.pointer none) W') (by kernel_rfl) (by exact ⟨d2, p1, hlk⟩) (fun hHeld => ?_)
  refine tkW 0 ?_; refine tkW 1 ?_; refine tkW 2 ?_; refine tkN 3 ?_; refine tkW 4 ?_; refine tkW 5 ?_; refine tkW 6 ?_; refine tkW 7 ?_; refine tkN 8 ?_; refine tkN 9 ?_; refine tkW 10 ?_
  refine wpAnyL_done (by kernel_rfl) ?_
  clear hHeld d2 p1 hlk
  clear hpd hls0
  rw [← hA5] at r5
  go_wp2_with fail
  have hWW : (W.alloc (.cells #[.slice none 0 0, .int .i64 0, .int .i64 0, .int .i64 0, .int .i64 0, .int .i64 0] 91)).drew.drew = A5 := hA5.symm
  have HWW := hide hWW; have HA5 := hide hA5; have HQQ := hide hQ
  clear hWW hA5 hQ
  refine wp_region_last (n := 10) (S := fun W' => W'.cell? ⟨d, 2, none⟩ = some (.map (some b2)) ∧ W'.cell? ⟨p, 1, none⟩ = some (.string (G.cl p).acc) ∧ W' = A5) (by kernel_rfl) (by rw [unhide HWW]; exact ⟨e2, e1, rfl⟩) (fun hHeld => ?_)
  refine tkW 0 ?_; refine tkW 1 ?_; refine tkW 2 ?_; refine tkS 3 ?_; refine tkW 4 ?_; refine tkW 5 ?_; refine tkW 6 ?_; refine tkW 7 ?_; refine tkS 8 ?_; refine tkW 9 ?_
  clear hHeld
  rw [unhide HWW, ← unhide HQQ]
  refine wpAnyL_past (i := 10) (by kernel_rfl) rfl (by kernel_rfl) (fun KK hK => ?_)
  go_simp
  refine hK.out _ _ ?_
  clear hK KK
  refine wpAnyL_done (by kernel_rfl) ?_
  clear e1 e2
  have r6 := T8.r6; have l6 := T8.l6; have m6 := T8.m6; have f6 := T8.f6; have r7 := T8.r7; have l7 := T8.l7; have m7 := T8.m7; have f7 := T8.f7; have m1 := T8.m1; have m0 := T8.m0; have r8 := T8.r8
  have HK8 := hide K8; have HN8 := hide N8; have HII := hide HI; have HST8 := hide hz8; have HHK := hide hk
  obtain ⟨V, hV⟩ : ∃ V, V = w5 := ⟨_, rfl⟩
  rw [← hV] at r6 l6 ⊢
  clear hV
  clear T8 K8 N8 HI hz8 hk NW0 hrD hq hb1 hb2 hcb hn5 r5
  go_upto_region 7 with (refine wpList_append_run rfl _ _ _ rfl _ _ _ _ rfl rfl r6 ?_)
  clear r6 l6 m6 f6
  obtain ⟨V6, hV6⟩ : ∃ V6, V6 = w6.setCell ⟨Q, 0, none⟩ (.slice p6 n6 c6) := ⟨_, rfl⟩
  have hV6s : w6.heap.size = V6.heap.size := by rw [hV6]; simp
  rw [← hV6] at r7 l7 ⊢
  rw [hV6s] at r7
  clear hV6 hV6s
  go_upto_region 8 with (refine wpList_append_run rfl _ _ _ rfl _ _ _ _ rfl rfl r7 ?_)
  clear r7 l7 m7 f7
  refine wp_region_last (n := 10) (S := fun W' => W'.cell? ⟨d, 1, none⟩ = some (.map (some b1)) ∧ W'.cell? ⟨p, 0, none⟩ = some (.string ((G.acct k Q).cl p).key) ∧ W' = (w7.setCell ⟨d, 0, none⟩ (.slice p7 n7 c7)).drew) (by kernel_rfl) (by exact ⟨m1, m0, rfl⟩) (fun hHeld => ?_)
  refine tkW 0 ?_; refine tkW 1 ?_; refine tkW 2 ?_; refine tkS 3 ?_; refine tkW 4 ?_; refine tkW 5 ?_; refine tkW 6 ?_; refine tkW 7 ?_; refine tkS 8 ?_; refine tkW 9 ?_
  clear hHeld
  obtain ⟨V7, hV7⟩ : ∃ V7, V7 = (w7.setCell ⟨d, 0, none⟩ (.slice p7 n7 c7)).drew := ⟨_, rfl⟩
  rw [← hV7] at r8 m1 m0 ⊢
  clear hV7
  refine wpAnyL_past (i := 10) (by kernel_rfl) rfl (by kernel_rfl) (fun KK hK => ?_)
  go_simp
  refine hK.out _ _ ?_
  clear hK KK
  refine wpAnyL_done (by kernel_rfl) ?_
  clear r8 m1 m0
  go_wp2_with fail
  refine (unhide dT).mono ?_
  rintro e w9 ⟨v9, rfl, hT9⟩
  obtain ⟨p9, c9, rfl, hn9, hs9⟩ := row_slice hT9.row
  have hN8 := unhide HN8; have hK8 := unhide HK8; have hII := unhide HII
  have hr9 : Raw w9 d G8 := hN8.raw.below hT9.bel
  have dF := hide (follow_any (W := w9) (d := d) (p := p) (q := Q) (G := G8) hr9 (by rw [hK8.bs]; exact hII.mem) (by
    have e : G8.key p = G.key p := by unfold Gh.key; rw [hK8.cl]; rfl
    rw [e, hK8.qa, ← unhide HHK]; exact unhide HQ) ((unhide HST8).below hT9.bel) (fun hx => (hN8.own 0 hx).elim hII.z (fun h => by have := hII.st.lt; omega)) (hII.ok.of (by rw [hK8.cl]; rfl) (by rw [hK8.pt]; rfl) (by rw [hK8.sh]; rfl) (by rw [hK8.gone]; rfl) (by rw [hK8.nw]; exact unhide HENW)) (by rw [hK8.tn]; exact hII.hp) (pd := p9) (nd := 5) (cd := c9) (L := trn5 (G.cl p)) (own_lies kI_ok rfl hT9.row) rfl (fun b off e hx => by
    have h1 := (hs9 _ e).2.2.1
    have h2 := hN8.raw.lt hx
    have h3 : w8.heap.size ≤ b := h1
    omega) (by rw [hK8.tn]; have := hII.l3; show G.tn.length + 5 ≤ 1000000; omega))
  unfold ptr at dF
  have HB9 := hide hT9.bel
  clear hT9 hn9 hs9 hr9 hN8 hK8 hII dT
  go_wp2_with fail
  refine (unhide dF).mono ?_
  rintro e w10 ⟨rfl, hF⟩
  have HFIN : Hid (KeptOut W w10 d p G) := by
    have hN8 := unhide HN8; have hK8 := unhide HK8
    obtain ⟨vt', H', hM, hNx⟩ := hF
    have eC : G8.cl = G.cl := by rw [hK8.cl]; rfl
    have eP : G8.pt = G.pt := by rw [hK8.pt]; rfl
    have eG : G8.gone = G.gone := by rw [hK8.gone]; rfl
    have eS : G8.sh = G.sh := by rw [hK8.sh]; rfl
    have eN : G8.nw = G.nw := by rw [hK8.nw]; exact unhide HENW
    have eT : G8.tn = G.tn := by rw [hK8.tn]; rfl
    have eK : G8.key p = G.key p := by unfold Gh.key; rw [eC]
    refine ⟨_, { next := (hN8.below (unhide HB9)).trans hNx, bs := by show G8.bs = _; rw [hK8.bs]; rfl, cl := eC, lf := by show G8.lf = _; rw [hK8.lf]; rfl, pt := eP, pv := by show G8.pv = _; rw [hK8.pv]; rfl, al := by show G8.al = _; rw [hK8.al]; rfl, inv := by show G8.inv = _; rw [hK8.inv]; rfl, gone := eG, ps := by show G8.ps = _; rw [hK8.ps]; rfl, kf := by show G8.kf = _; rw [hK8.kf]; rfl, qa := fun y => by show G8.qa y ≠ none ↔ _; rw [hK8.qa, ← unhide HHK]; exact unhide HQAP y, ls := by show G8.ls = _; rw [hK8.ls, ← unhide HHK]; exact unhide HLSP, sh := ?_, nw := ?_, tm := ?_, mb := by show G8.mb ≠ none; rw [hK8.mb]; exact unhide HMB, ma := by show G8.ma ≠ none; rw [hK8.ma]; exact unhide HMA, nk := by show G8.nk ≤ _; rw [hK8.nk]; exact Nat.le_refl _, na := by show G8.na ≤ _; rw [hK8.na]; exact Nat.le_refl _ }⟩
    · show (fun x => if x = p then shr (G8.cl p) (G8.pt p) (1 + G8.gone) else G8.sh x) = _
      rw [eC, eP, eG, eS]
    · unfold Gh.shown
      simp only [Gh.key, eC, eP, eG, eS, eN]
      rfl
    · refine ⟨fun x => ?_, hM.2.1, ?_⟩
      · have := hM.1 x
        rw [eT, eG] at this
        exact this
      · have := hM.2.2
        rw [eT] at this
        exact this
  clear hF dF
  go_wp2_with fail
  go_end0
  exact ⟨rfl, unhide HFIN⟩
end Go.Proofs.YtildpgfhahmgmaaDoor
