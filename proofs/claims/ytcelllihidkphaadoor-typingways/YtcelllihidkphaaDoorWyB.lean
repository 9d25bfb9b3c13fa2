/- typing: TypingWays 7. -/
import Derived.Test.YtcelllihidkphaaDoorWyA
namespace Go.Proofs.YtcelllihidkphaaDoor
open Go Go.Shelf Go.ChangeShapes Go.WideShapes Go.ChangeAt Go.RowKit Go.Maps
set_option linter.unusedVariables false
set_option maxRecDepth 100000
set_option maxHeartbeats 8000000
attribute [local go_sem ↓] ld32_is st32_is
theorem ways_walk {W : World} (hT : Tab W) {q : Qy} {a : Qa} (hq : QIn W q a) (hc : QCp a) (limit : Int) : Calls Tryd.prog 7 #[qV q a, .int .i64 limit] W fun e w' => e = .returned (.bool true) ∧ Below W.heap.size W w' := by
  obtain ⟨nN, hnN⟩ : ∃ n, n = q.nodes.length := ⟨_, rfl⟩
  obtain ⟨nB, hnB⟩ : ∃ n, n = q.by'.length := ⟨_, rfl⟩
  obtain ⟨nS, hnS⟩ : ∃ n, n = q.sh.length := ⟨_, rfl⟩
  obtain ⟨W1, hW1⟩ : ∃ X, X = W.alloc (.cells #[.slice a.pN nN a.cN, .int .i64 q.wh, .slice a.pB nB a.cB, .slice a.pS nS a.cS, .slice a.pO q.ords.length a.cO, .int .i64 q.lim] 32) := ⟨_, rfl⟩
  have hB1 : Below W.heap.size W W1 := by rw [hW1]; exact Below.a1 W _
  have hb1 : W1.heap[W.heap.size]? = some (.cells (qC q a).toArray 32 (0, 0)) := by rw [hW1, hnN, hnB, hnS]; exact heap_new _ _
  have d1 := hide (first_any (hT.below hB1))
  have HQV : Hid (qV q a = .agg #[.slice a.pN nN a.cN, .int .i64 q.wh, .slice a.pB nB a.cB, .slice a.pS nS a.cS, .slice a.pO q.ords.length a.cO, .int .i64 q.lim]) := by show _ = _; rw [hnN, hnB, hnS]; rfl
  have HT := hide hT; have HQ := hide hq; have HC := hide hc; have HB1 := hide hB1; have Hb1 := hide hb1; have HN := hide hnN; have HNB := hide hnB; have HNS := hide hnS
  have HLT : Hid (W.heap.size < W1.heap.size) := by rw [hW1]; simp [Hid]
  rw [unhide HQV]
  clear hT hq hc hB1 hb1 hnN hnB hnS
  go_enter Tryd.func7, Tryd.ntmps7
  go_upto_region 1 with fail
  rw [← hW1]
  clear hW1
  go_wp2_with fail
  refine (unhide d1).mono ?_
  rintro e w2 ⟨rfl, hw2⟩
  have HBW : Hid (Below W.heap.size W w2) := (unhide HB1).trans (hw2.mono (unhide HB1).size)
  have hqb : w2.heap[W.heap.size]? = some (.cells (qC q a).toArray 32 (0, 0)) := (hw2.block _ (unhide HLT)).trans (unhide Hb1)
  have l2 := run_ld32 (w := w2) (b := W.heap.size) (o := 0) (q := q) (a := a) (fun j u hu => by rw [Nat.zero_add, cell_at hqb]; simpa using hu)
  have HQB := hide hqb
  have d2 := hide (twin_any ((unhide HQ).below (unhide HBW)) (unhide HC))
  obtain ⟨qq, hqq⟩ : ∃ v, v = qV q a := ⟨_, rfl⟩
  have HQQ := hide hqq
  rw [← hqq] at l2 d2
  clear hw2 d1 hqb hqq
  go_wp2_with fail
  refine (unhide d2).mono ?_
  rintro e w3 ⟨b0, rfl, ht3⟩
  have HT3 := hide ht3
  have HBW3 : Hid (Below W.heap.size W w3) := (unhide HBW).trans (ht3.bel.mono (unhide HBW).size)
  have d3 := hide (plan_any ((unhide HT).below (unhide HBW3)) (ht3.q ((unhide HQ).below (unhide HBW))) ht3.cp.2)
  obtain ⟨q3, hq3⟩ : ∃ v, v = qV q b0 := ⟨_, rfl⟩
  rw [← hq3] at d3 ⊢
  obtain ⟨av, hav⟩ : ∃ v, v = planS q := ⟨_, rfl⟩
  rw [← hav] at d3
  have HAV := hide hav
  clear ht3 hq3 d2 l2 hav
  go_wp2_with fail
  refine (unhide d3).mono ?_
  rintro e w4 ⟨rfl, hw4⟩
  have HBW4 : Hid (Below W.heap.size W w4) := (unhide HBW3).trans (hw4.mono (unhide HBW3).size)
  have hqb4 : w4.heap[W.heap.size]? = some (.cells (qC q a).toArray 32 (0, 0)) := by
    have h2 : W.heap.size < w2.heap.size := (Array.getElem?_eq_some_iff.1 (unhide HQB)).1
    have h3 : W.heap.size < w3.heap.size := Nat.lt_of_lt_of_le h2 (unhide HT3).bel.size
    exact (hw4.block _ h3).trans (((unhide HT3).bel.block _ h2).trans (unhide HQB))
  have l5 := run_ld32 (w := w4) (b := W.heap.size) (o := 0) (q := q) (a := a) (fun j u hu => by rw [Nat.zero_add, cell_at hqb4]; simpa using hu)
  have d5 := hide (twin_any ((unhide HQ).below (unhide HBW4)) (unhide HC))
  rw [← unhide HQQ] at l5 d5
  have HQB4 := hide hqb4
  clear hqb4 hw4 d3
  go_wp2_with fail
  refine (unhide d5).mono ?_
  rintro e w5 ⟨b0', rfl, ht5⟩
  have HT5 := hide ht5
  have HBW5 : Hid (Below W.heap.size W w5) := (unhide HBW4).trans (ht5.bel.mono (unhide HBW4).size)
  have d6 := hide (check_any ((unhide HT).below (unhide HBW5)).f ((unhide HT).below (unhide HBW5)).m ((unhide HT).below (unhide HBW5)).r (ht5.q ((unhide HQ).below (unhide HBW4))))
  obtain ⟨q6, hq6⟩ : ∃ v, v = qV q b0' := ⟨_, rfl⟩
  rw [← hq6] at d6 ⊢
  obtain ⟨E, hE⟩ : ∃ v, v = chkE q := ⟨_, rfl⟩
  rw [← hE] at d6
  have HE := hide hE
  clear hE hq6 ht5 d5 l5
  go_wp2_with fail
  refine (unhide d6).mono ?_
  rintro e w6 ⟨pl, ln, cl, rfl, hl6⟩
  have HBW6 : Hid (Below W.heap.size W w6) := (unhide HBW5).trans (hl6.bel.mono (unhide HBW5).size)
  have hqb6 : w6.heap[W.heap.size]? = some (.cells (qC q a).toArray 32 (0, 0)) := by
    have h2 : W.heap.size < w4.heap.size := (Array.getElem?_eq_some_iff.1 (unhide HQB4)).1
    have h3 : W.heap.size < w5.heap.size := Nat.lt_of_lt_of_le h2 (unhide HT5).bel.size
    exact (hl6.bel.block _ h3).trans (((unhide HT5).bel.block _ h2).trans (unhide HQB4))
  have HQ6 := hide hqb6
  have k1 : w6.cell? ⟨W.heap.size, 1, none⟩ = some (.int .i64 q.wh) := by rw [cell_at hqb6]; rfl
  have k2 : w6.cell? ⟨W.heap.size, 2, none⟩ = some (.slice a.pB nB a.cB) := by rw [cell_at hqb6, unhide HNB]; rfl
  have l7 := run_ld32 (w := w6) (b := W.heap.size) (o := 0) (q := q) (a := a) (fun j u hu => by rw [Nat.zero_add, cell_at hqb6]; simpa using hu)
  rw [← unhide HQQ] at l7
  have HPF := hide (plan_facts q)
  clear hl6 hqb6 d6 HBW HBW3 HBW4 HBW5 HQB HQB4 HT3 HT5 HB1 Hb1 HLT
  have hEv : (E = 0 ∧ okQ q = true) ∨ (E = 140 ∧ okQ q = false) := by
    by_cases h : okQ q = true
    · exact .inl ⟨(unhide HE).trans (chk_ok h).1, h⟩
    · have h' : okQ q = false := by simpa using h
      exact .inr ⟨(unhide HE).trans (chk_bad h').1, h'⟩
  have hav : av = 1 ∨ av = 2 ∨ av = 3 := by have h1 := (unhide HPF).1; rw [← unhide HAV] at h1; omega
  rcases hav with hav | hav | hav
  · have HA1 : Hid (planS q = 1) := (unhide HAV).symm.trans hav
    rcases hEv with ⟨hE, hok⟩ | ⟨hE, hok⟩
    · have HOK := hide hok
      by_cases hw : q.wh < 0
      · by_cases hb : nB = 0
        · have HALL : Hid (q.sh.all (sumS q.nodes) = false) := by
            show _ = _
            cases h : q.sh.all (sumS q.nodes) with
            | false => rfl
            | true => exact ((unhide HPF).2.2.2 (unhide HA1) hok hw (by rw [← unhide HNB]; exact hb) h).elim
          have d7 := hide (all_any ((unhide HQ).below (unhide HBW6)) hok)
          rw [unhide HALL, ← unhide HQQ] at d7
          subst hE hav hb
          clear HALL hok
          go_upto_region 8 with (first | (go_at_call 20; refine (unhide d7).mono ?_; rintro e X6 ⟨rfl, hw7⟩))
          have HBX : Hid (Below W.heap.size W X6) := (unhide HBW6).trans (hw7.mono (unhide HBW6).size)
          have HXQ : Hid (X6.heap[W.heap.size]? = some (.cells (qC q a).toArray 32 (0, 0))) := (hw7.block _ (Array.getElem?_eq_some_iff.1 (unhide HQ6)).1).trans (unhide HQ6)
          clear hw7 d7 HBW6 HQ6 k1 k2 l7 hw
          have d8 := hide (twin_any ((unhide HQ).below (unhide HBX)) (unhide HC))
          have l8 := run_ld32 (w := X6) (b := W.heap.size) (o := 0) (q := q) (a := a) (fun j u hu => by rw [Nat.zero_add, cell_at (unhide HXQ)]; simpa using hu)
          rw [← unhide HQQ] at d8 l8
          go_wp2_with fail
          refine (unhide d8).mono ?_
          rintro e w8 ⟨b5, rfl, ht8⟩
          obtain ⟨bp, hbp⟩ : ∃ n, n = w8.heap.size := ⟨_, rfl⟩
          have hqv5 : qV q b5 = .agg #[.slice b5.pN nN b5.cN, .int .i64 q.wh, .slice b5.pB 0 b5.cB, .slice b5.pS nS b5.cS, .slice b5.pO q.ords.length b5.cO, .int .i64 q.lim] := by rw [unhide HN, unhide HNB, unhide HNS]; rfl
          obtain ⟨X0, hX0⟩ : ∃ X, X = w8.alloc (.cells #[.slice b5.pN nN b5.cN, .int .i64 q.wh, .slice b5.pB 0 b5.cB, .slice b5.pS nS b5.cS, .slice b5.pO q.ords.length b5.cO, .int .i64 q.lim] 32) := ⟨_, rfl⟩
          have s5 := run_st32_new (w := w8) (v0 := .slice b5.pN nN b5.cN) (v1 := .int .i64 q.wh) (v2 := .slice b5.pB 0 b5.cB) (v3 := .slice b5.pS nS b5.cS) (v4 := .slice b5.pO q.ords.length b5.cO) (v5 := .int .i64 q.lim) (fun u hu => by simp at hu; rcases hu with rfl | rfl | rfl | rfl | rfl | rfl <;> rfl)
          have M0 : Hid (Mo W X0 q a q b5 W.heap.size bp (.slice none 0 0) 0 []) := by
            have hba : Below w8.heap.size w8 X0 := by rw [hX0]; exact Below.a1 w8 _
            have h4 : W.heap.size < X6.heap.size := (Array.getElem?_eq_some_iff.1 (unhide HXQ)).1
            have h5 : W.heap.size < w8.heap.size := Nat.lt_of_lt_of_le h4 ht8.bel.size
            have ht := (ht8.up (unhide HBX)).below hba
            refine ⟨(hba.block _ h5).trans ((ht8.bel.block _ h4).trans (unhide HXQ)), ?_, ht, Rw.none ht.bel, by omega, by omega⟩
            rw [hX0, hbp, unhide HN, unhide HNB, unhide HNS]; exact heap_new _ _
          rw [hqv5]
          clear ht8 hqv5 d8 l8 HBX HXQ
          go_upto_region 9 with fail
          rw [← hX0, ← hbp]
          clear hX0 s5 hbp
          have c4 : X0.cell? ⟨bp, 4, none⟩ = some (.slice b5.pO q.ords.length b5.cO) := (unhide M0).cp 4
          have f4 := (unhide M0).fp 4
          obtain ⟨X1, hX1⟩ : ∃ X, X = X0.setCell ⟨bp, 4, none⟩ (.slice none 0 0) := ⟨_, rfl⟩
          have M1 := hide (unhide M0).set4
          rw [← hX1] at M1
          go_upto_region 10 with fail
          rw [← hX1]
          clear hX1 c4 f4
          by_cases hlim0 : limit ≥ -1
          · have c5 : X1.cell? ⟨bp, 5, none⟩ = some (.int .i64 q.lim) := (unhide M1).cp 5
            have f5 := (unhide M1).fp 5
            obtain ⟨X2, hX2⟩ : ∃ X, X = X1.setCell ⟨bp, 5, none⟩ (.int .i64 limit) := ⟨_, rfl⟩
            have M2 := hide ((unhide M1).set5 limit)
            rw [← hX2] at M2
            go_upto_region 12 with fail
            rw [← hX2]
            obtain ⟨lim2, hl2⟩ : ∃ l, l = limit := ⟨_, rfl⟩
            rw [← hl2] at M2
            clear hX2 c5 f5 hl2 M1 M0 hlim0
            obtain ⟨r, hr⟩ : ∃ r : Qy, r = ⟨q.nodes, q.wh, q.by', q.sh, [], lim2⟩ := ⟨_, rfl⟩
            obtain ⟨br, hbr⟩ : ∃ r : Qa, r = ⟨b5.pN, b5.cN, b5.pB, b5.cB, b5.pS, b5.cS, none, 0⟩ := ⟨_, rfl⟩
            have hir := hide ((unhide M2).inq (unhide HQ).nn (unhide HQ).nb (unhide HQ).ns (Nat.zero_le _))
            rw [← hr, ← hbr] at M2 hir
            have HR := hide hr
            have d12 := hide (twin_any (unhide hir) (unhide M2).tw.cp.1)
            have l12 := (unhide M2).ldp
            obtain ⟨zr, hzr⟩ : ∃ v, v = qV r br := ⟨_, rfl⟩
            rw [← hzr] at d12 l12
            have HZR := hide hzr
            clear hr hbr hzr
            go_wp2_with fail
            refine (unhide d12).mono ?_
            rintro e w12 ⟨b12, rfl, ht12⟩
            have M3 := hide ((unhide M2).keep ht12.bel)
            have d13 := hide (check_any ((unhide HT).below (unhide M3).bel).f ((unhide HT).below (unhide M3).bel).m ((unhide HT).below (unhide M3).bel).r (ht12.q (unhide hir)))
            obtain ⟨z12, hz12⟩ : ∃ v, v = qV r b12 := ⟨_, rfl⟩
            rw [← hz12] at d13 ⊢
            obtain ⟨F, hF⟩ : ∃ v, v = chkE r := ⟨_, rfl⟩
            rw [← hF] at d13
            have HF := hide hF
            clear hF hz12 ht12 d12 l12 hir
            go_wp2_with fail
            refine (unhide d13).mono ?_
            rintro e w13 ⟨p13, n13, c13, rfl, hl13⟩
            have M4 := hide ((unhide M3).keep hl13.bel)
            clear hl13 d13
            by_cases hFE : F = 0
            · have hpl : Hid (planS r = 1) := by
                have h1 : chkE r = chkE q := (unhide HF).symm.trans (hFE.trans (unhide HE))
                have h2 := chkE_ok h1
                rw [unhide HR] at h2
                show _ = _
                rw [unhide HR, plan_same h2, unhide HAV]
              have d14 := hide (plan_any ((unhide HT).below (unhide M4).bel) ((unhide M4).inq (by rw [unhide HR]; exact (unhide HQ).nn) (by rw [unhide HR]; exact (unhide HQ).nb) (by rw [unhide HR]; exact (unhide HQ).ns) (by rw [unhide HR]; exact Nat.zero_le _)) (unhide M4).tw.cp.2)
              rw [unhide hpl] at d14
              have l14 := (unhide M4).ldp
              rw [← unhide HZR] at d14 l14
              subst hFE
              go_wp2_with (first | (go_at_call 19; refine (unhide d14).mono ?_; rintro e w15 ⟨rfl, hw15⟩))
              have M5 := hide ((unhide M4).keep hw15)
              clear hw15
              try go_wp2_with fail
              go_ret
              exact ⟨by simp, (unhide M5).bel⟩
            · have hFE' : (F != 0) = true := by simpa using hFE
              go_wp2_with fail
              go_ret
              exact ⟨rfl, (unhide M4).bel⟩
          · have M2 := M1
            obtain ⟨X2, hX2⟩ : ∃ X, X = X1 := ⟨_, rfl⟩
            rw [← hX2] at M2 ⊢
            obtain ⟨lim2, hl2⟩ : ∃ l, l = q.lim := ⟨_, rfl⟩
            rw [← hl2] at M2
            clear hl2 M1 M0 hX2
            go_upto_region 12 with fail
            obtain ⟨r, hr⟩ : ∃ r : Qy, r = ⟨q.nodes, q.wh, q.by', q.sh, [], lim2⟩ := ⟨_, rfl⟩
            obtain ⟨br, hbr⟩ : ∃ r : Qa, r = ⟨b5.pN, b5.cN, b5.pB, b5.cB, b5.pS, b5.cS, none, 0⟩ := ⟨_, rfl⟩
            have hir := hide ((unhide M2).inq (unhide HQ).nn (unhide HQ).nb (unhide HQ).ns (Nat.zero_le _))
            rw [← hr, ← hbr] at M2 hir
            have HR := hide hr
            have d12 := hide (twin_any (unhide hir) (unhide M2).tw.cp.1)
            have l12 := (unhide M2).ldp
            obtain ⟨zr, hzr⟩ : ∃ v, v = qV r br := ⟨_, rfl⟩
            rw [← hzr] at d12 l12
            have HZR := hide hzr
            clear hr hbr hzr
            go_wp2_with fail
            refine (unhide d12).mono ?_
            rintro e w12 ⟨b12, rfl, ht12⟩
            have M3 := hide ((unhide M2).keep ht12.bel)
            have d13 := hide (check_any ((unhide HT).below (unhide M3).bel).f ((unhide HT).below (unhide M3).bel).m ((unhide HT).below (unhide M3).bel).r (ht12.q (unhide hir)))
            obtain ⟨z12, hz12⟩ : ∃ v, v = qV r b12 := ⟨_, rfl⟩
            rw [← hz12] at d13 ⊢
            obtain ⟨F, hF⟩ : ∃ v, v = chkE r := ⟨_, rfl⟩
            rw [← hF] at d13
            have HF := hide hF
            clear hF hz12 ht12 d12 l12 hir
            go_wp2_with fail
            refine (unhide d13).mono ?_
            rintro e w13 ⟨p13, n13, c13, rfl, hl13⟩
            have M4 := hide ((unhide M3).keep hl13.bel)
            clear hl13 d13
            by_cases hFE : F = 0
            · have hpl : Hid (planS r = 1) := by
                have h1 : chkE r = chkE q := (unhide HF).symm.trans (hFE.trans (unhide HE))
                have h2 := chkE_ok h1
                rw [unhide HR] at h2
                show _ = _
                rw [unhide HR, plan_same h2, unhide HAV]
              have d14 := hide (plan_any ((unhide HT).below (unhide M4).bel) ((unhide M4).inq (by rw [unhide HR]; exact (unhide HQ).nn) (by rw [unhide HR]; exact (unhide HQ).nb) (by rw [unhide HR]; exact (unhide HQ).ns) (by rw [unhide HR]; exact Nat.zero_le _)) (unhide M4).tw.cp.2)
              rw [unhide hpl] at d14
              have l14 := (unhide M4).ldp
              rw [← unhide HZR] at d14 l14
              subst hFE
              go_wp2_with (first | (go_at_call 19; refine (unhide d14).mono ?_; rintro e w15 ⟨rfl, hw15⟩))
              have M5 := hide ((unhide M4).keep hw15)
              clear hw15
              try go_wp2_with fail
              go_ret
              exact ⟨by simp, (unhide M5).bel⟩
            · have hFE' : (F != 0) = true := by simpa using hFE
              go_wp2_with fail
              go_ret
              exact ⟨rfl, (unhide M4).bel⟩
        · subst hE hav
          have hb1 : ¬ (nB : Int) = 0 := by omega
          have hb2 : ((nB : Int) == 0) = false := by simpa using hb
          clear hok
          go_upto_region 8 with fail
          clear hb1 hb2 hb hw
          obtain ⟨X6, hX6⟩ : ∃ X, X = w6 := ⟨_, rfl⟩
          have HBX := HBW6; have HXQ := HQ6
          rw [← hX6] at HBX HXQ ⊢
          clear hX6 HBW6 HQ6 k1 k2 l7
          have d8 := hide (twin_any ((unhide HQ).below (unhide HBX)) (unhide HC))
          have l8 := run_ld32 (w := X6) (b := W.heap.size) (o := 0) (q := q) (a := a) (fun j u hu => by rw [Nat.zero_add, cell_at (unhide HXQ)]; simpa using hu)
          rw [← unhide HQQ] at d8 l8
          go_wp2_with fail
          refine (unhide d8).mono ?_
          rintro e w8 ⟨b5, rfl, ht8⟩
          obtain ⟨bp, hbp⟩ : ∃ n, n = w8.heap.size := ⟨_, rfl⟩
          have hqv5 : qV q b5 = .agg #[.slice b5.pN nN b5.cN, .int .i64 q.wh, .slice b5.pB nB b5.cB, .slice b5.pS nS b5.cS, .slice b5.pO q.ords.length b5.cO, .int .i64 q.lim] := by rw [unhide HN, unhide HNB, unhide HNS]; rfl
          obtain ⟨X0, hX0⟩ : ∃ X, X = w8.alloc (.cells #[.slice b5.pN nN b5.cN, .int .i64 q.wh, .slice b5.pB nB b5.cB, .slice b5.pS nS b5.cS, .slice b5.pO q.ords.length b5.cO, .int .i64 q.lim] 32) := ⟨_, rfl⟩
          have s5 := run_st32_new (w := w8) (v0 := .slice b5.pN nN b5.cN) (v1 := .int .i64 q.wh) (v2 := .slice b5.pB nB b5.cB) (v3 := .slice b5.pS nS b5.cS) (v4 := .slice b5.pO q.ords.length b5.cO) (v5 := .int .i64 q.lim) (fun u hu => by simp at hu; rcases hu with rfl | rfl | rfl | rfl | rfl | rfl <;> rfl)
          have M0 : Hid (Mo W X0 q a q b5 W.heap.size bp (.slice none 0 0) 0 []) := by
            have hba : Below w8.heap.size w8 X0 := by rw [hX0]; exact Below.a1 w8 _
            have h4 : W.heap.size < X6.heap.size := (Array.getElem?_eq_some_iff.1 (unhide HXQ)).1
            have h5 : W.heap.size < w8.heap.size := Nat.lt_of_lt_of_le h4 ht8.bel.size
            have ht := (ht8.up (unhide HBX)).below hba
            refine ⟨(hba.block _ h5).trans ((ht8.bel.block _ h4).trans (unhide HXQ)), ?_, ht, Rw.none ht.bel, by omega, by omega⟩
            rw [hX0, hbp, unhide HN, unhide HNB, unhide HNS]; exact heap_new _ _
          rw [hqv5]
          clear ht8 hqv5 d8 l8 HBX HXQ
          go_upto_region 9 with fail
          rw [← hX0, ← hbp]
          clear hX0 s5 hbp
          have c4 : X0.cell? ⟨bp, 4, none⟩ = some (.slice b5.pO q.ords.length b5.cO) := (unhide M0).cp 4
          have f4 := (unhide M0).fp 4
          obtain ⟨X1, hX1⟩ : ∃ X, X = X0.setCell ⟨bp, 4, none⟩ (.slice none 0 0) := ⟨_, rfl⟩
          have M1 := hide (unhide M0).set4
          rw [← hX1] at M1
          go_upto_region 10 with fail
          rw [← hX1]
          clear hX1 c4 f4
          by_cases hlim0 : limit ≥ -1
          · have c5 : X1.cell? ⟨bp, 5, none⟩ = some (.int .i64 q.lim) := (unhide M1).cp 5
            have f5 := (unhide M1).fp 5
            obtain ⟨X2, hX2⟩ : ∃ X, X = X1.setCell ⟨bp, 5, none⟩ (.int .i64 limit) := ⟨_, rfl⟩
            have M2 := hide ((unhide M1).set5 limit)
            rw [← hX2] at M2
            go_upto_region 12 with fail
            rw [← hX2]
            obtain ⟨lim2, hl2⟩ : ∃ l, l = limit := ⟨_, rfl⟩
            rw [← hl2] at M2
            clear hX2 c5 f5 hl2 M1 M0 hlim0
            obtain ⟨r, hr⟩ : ∃ r : Qy, r = ⟨q.nodes, q.wh, q.by', q.sh, [], lim2⟩ := ⟨_, rfl⟩
            obtain ⟨br, hbr⟩ : ∃ r : Qa, r = ⟨b5.pN, b5.cN, b5.pB, b5.cB, b5.pS, b5.cS, none, 0⟩ := ⟨_, rfl⟩
            have hir := hide ((unhide M2).inq (unhide HQ).nn (unhide HQ).nb (unhide HQ).ns (Nat.zero_le _))
            rw [← hr, ← hbr] at M2 hir
            have HR := hide hr
            have d12 := hide (twin_any (unhide hir) (unhide M2).tw.cp.1)
            have l12 := (unhide M2).ldp
            obtain ⟨zr, hzr⟩ : ∃ v, v = qV r br := ⟨_, rfl⟩
            rw [← hzr] at d12 l12
            have HZR := hide hzr
            clear hr hbr hzr
            go_wp2_with fail
            refine (unhide d12).mono ?_
            rintro e w12 ⟨b12, rfl, ht12⟩
            have M3 := hide ((unhide M2).keep ht12.bel)
            have d13 := hide (check_any ((unhide HT).below (unhide M3).bel).f ((unhide HT).below (unhide M3).bel).m ((unhide HT).below (unhide M3).bel).r (ht12.q (unhide hir)))
            obtain ⟨z12, hz12⟩ : ∃ v, v = qV r b12 := ⟨_, rfl⟩
            rw [← hz12] at d13 ⊢
            obtain ⟨F, hF⟩ : ∃ v, v = chkE r := ⟨_, rfl⟩
            rw [← hF] at d13
            have HF := hide hF
            clear hF hz12 ht12 d12 l12 hir
            go_wp2_with fail
            refine (unhide d13).mono ?_
            rintro e w13 ⟨p13, n13, c13, rfl, hl13⟩
            have M4 := hide ((unhide M3).keep hl13.bel)
            clear hl13 d13
            by_cases hFE : F = 0
            · have hpl : Hid (planS r = 1) := by
                have h1 : chkE r = chkE q := (unhide HF).symm.trans (hFE.trans (unhide HE))
                have h2 := chkE_ok h1
                rw [unhide HR] at h2
                show _ = _
                rw [unhide HR, plan_same h2, unhide HAV]
              have d14 := hide (plan_any ((unhide HT).below (unhide M4).bel) ((unhide M4).inq (by rw [unhide HR]; exact (unhide HQ).nn) (by rw [unhide HR]; exact (unhide HQ).nb) (by rw [unhide HR]; exact (unhide HQ).ns) (by rw [unhide HR]; exact Nat.zero_le _)) (unhide M4).tw.cp.2)
              rw [unhide hpl] at d14
              have l14 := (unhide M4).ldp
              rw [← unhide HZR] at d14 l14
              subst hFE
              go_wp2_with (first | (go_at_call 19; refine (unhide d14).mono ?_; rintro e w15 ⟨rfl, hw15⟩))
              have M5 := hide ((unhide M4).keep hw15)
              clear hw15
              try go_wp2_with fail
              go_ret
              exact ⟨by simp, (unhide M5).bel⟩
            · have hFE' : (F != 0) = true := by simpa using hFE
              go_wp2_with fail
              go_ret
              exact ⟨rfl, (unhide M4).bel⟩
          · have M2 := M1
            obtain ⟨X2, hX2⟩ : ∃ X, X = X1 := ⟨_, rfl⟩
            rw [← hX2] at M2 ⊢
            obtain ⟨lim2, hl2⟩ : ∃ l, l = q.lim := ⟨_, rfl⟩
            rw [← hl2] at M2
            clear hl2 M1 M0 hX2
            go_upto_region 12 with fail
            obtain ⟨r, hr⟩ : ∃ r : Qy, r = ⟨q.nodes, q.wh, q.by', q.sh, [], lim2⟩ := ⟨_, rfl⟩
            obtain ⟨br, hbr⟩ : ∃ r : Qa, r = ⟨b5.pN, b5.cN, b5.pB, b5.cB, b5.pS, b5.cS, none, 0⟩ := ⟨_, rfl⟩
            have hir := hide ((unhide M2).inq (unhide HQ).nn (unhide HQ).nb (unhide HQ).ns (Nat.zero_le _))
            rw [← hr, ← hbr] at M2 hir
            have HR := hide hr
            have d12 := hide (twin_any (unhide hir) (unhide M2).tw.cp.1)
            have l12 := (unhide M2).ldp
            obtain ⟨zr, hzr⟩ : ∃ v, v = qV r br := ⟨_, rfl⟩
            rw [← hzr] at d12 l12
            have HZR := hide hzr
            clear hr hbr hzr
            go_wp2_with fail
            refine (unhide d12).mono ?_
            rintro e w12 ⟨b12, rfl, ht12⟩
            have M3 := hide ((unhide M2).keep ht12.bel)
            have d13 := hide (check_any ((unhide HT).below (unhide M3).bel).f ((unhide HT).below (unhide M3).bel).m ((unhide HT).below (unhide M3).bel).r (ht12.q (unhide hir)))
            obtain ⟨z12, hz12⟩ : ∃ v, v = qV r b12 := ⟨_, rfl⟩
            rw [← hz12] at d13 ⊢
            obtain ⟨F, hF⟩ : ∃ v, v = chkE r := ⟨_, rfl⟩
            rw [← hF] at d13
            have HF := hide hF
            clear hF hz12 ht12 d12 l12 hir
            go_wp2_with fail
            refine (unhide d13).mono ?_
            rintro e w13 ⟨p13, n13, c13, rfl, hl13⟩
            have M4 := hide ((unhide M3).keep hl13.bel)
            clear hl13 d13
            by_cases hFE : F = 0
            · have hpl : Hid (planS r = 1) := by
                have h1 : chkE r = chkE q := (unhide HF).symm.trans (hFE.trans (unhide HE))
                have h2 := chkE_ok h1
                rw [unhide HR] at h2
                show _ = _
                rw [unhide HR, plan_same h2, unhide HAV]
              have d14 := hide (plan_any ((unhide HT).below (unhide M4).bel) ((unhide M4).inq (by rw [unhide HR]; exact (unhide HQ).nn) (by rw [unhide HR]; exact (unhide HQ).nb) (by rw [unhide HR]; exact (unhide HQ).ns) (by rw [unhide HR]; exact Nat.zero_le _)) (unhide M4).tw.cp.2)
              rw [unhide hpl] at d14
              have l14 := (unhide M4).ldp
              rw [← unhide HZR] at d14 l14
              subst hFE
              go_wp2_with (first | (go_at_call 19; refine (unhide d14).mono ?_; rintro e w15 ⟨rfl, hw15⟩))
              have M5 := hide ((unhide M4).keep hw15)
              clear hw15
              try go_wp2_with fail
              go_ret
              exact ⟨by simp, (unhide M5).bel⟩
            · have hFE' : (F != 0) = true := by simpa using hFE
              go_wp2_with fail
              go_ret
              exact ⟨rfl, (unhide M4).bel⟩
      · subst hE hav
        clear hok
        go_upto_region 8 with fail
        clear hw
        obtain ⟨X6, hX6⟩ : ∃ X, X = w6 := ⟨_, rfl⟩
        have HBX := HBW6; have HXQ := HQ6
        rw [← hX6] at HBX HXQ ⊢
        clear hX6 HBW6 HQ6 k1 k2 l7
        have d8 := hide (twin_any ((unhide HQ).below (unhide HBX)) (unhide HC))
        have l8 := run_ld32 (w := X6) (b := W.heap.size) (o := 0) (q := q) (a := a) (fun j u hu => by rw [Nat.zero_add, cell_at (unhide HXQ)]; simpa using hu)
        rw [← unhide HQQ] at d8 l8
        go_wp2_with fail
        refine (unhide d8).mono ?_
        rintro e w8 ⟨b5, rfl, ht8⟩
        obtain ⟨bp, hbp⟩ : ∃ n, n = w8.heap.size := ⟨_, rfl⟩
        have hqv5 : qV q b5 = .agg #[.slice b5.pN nN b5.cN, .int .i64 q.wh, .slice b5.pB nB b5.cB, .slice b5.pS nS b5.cS, .slice b5.pO q.ords.length b5.cO, .int .i64 q.lim] := by rw [unhide HN, unhide HNB, unhide HNS]; rfl
        obtain ⟨X0, hX0⟩ : ∃ X, X = w8.alloc (.cells #[.slice b5.pN nN b5.cN, .int .i64 q.wh, .slice b5.pB nB b5.cB, .slice b5.pS nS b5.cS, .slice b5.pO q.ords.length b5.cO, .int .i64 q.lim] 32) := ⟨_, rfl⟩
        have s5 := run_st32_new (w := w8) (v0 := .slice b5.pN nN b5.cN) (v1 := .int .i64 q.wh) (v2 := .slice b5.pB nB b5.cB) (v3 := .slice b5.pS nS b5.cS) (v4 := .slice b5.pO q.ords.length b5.cO) (v5 := .int .i64 q.lim) (fun u hu => by simp at hu; rcases hu with rfl | rfl | rfl | rfl | rfl | rfl <;> rfl)
        have M0 : Hid (Mo W X0 q a q b5 W.heap.size bp (.slice none 0 0) 0 []) := by
          have hba : Below w8.heap.size w8 X0 := by rw [hX0]; exact Below.a1 w8 _
          have h4 : W.heap.size < X6.heap.size := (Array.getElem?_eq_some_iff.1 (unhide HXQ)).1
          have h5 : W.heap.size < w8.heap.size := Nat.lt_of_lt_of_le h4 ht8.bel.size
          have ht := (ht8.up (unhide HBX)).below hba
          refine ⟨(hba.block _ h5).trans ((ht8.bel.block _ h4).trans (unhide HXQ)), ?_, ht, Rw.none ht.bel, by omega, by omega⟩
          rw [hX0, hbp, unhide HN, unhide HNB, unhide HNS]; exact heap_new _ _
        rw [hqv5]
        clear ht8 hqv5 d8 l8 HBX HXQ
        go_upto_region 9 with fail
        rw [← hX0, ← hbp]
        clear hX0 s5 hbp
        have c4 : X0.cell? ⟨bp, 4, none⟩ = some (.slice b5.pO q.ords.length b5.cO) := (unhide M0).cp 4
        have f4 := (unhide M0).fp 4
        obtain ⟨X1, hX1⟩ : ∃ X, X = X0.setCell ⟨bp, 4, none⟩ (.slice none 0 0) := ⟨_, rfl⟩
        have M1 := hide (unhide M0).set4
        rw [← hX1] at M1
        go_upto_region 10 with fail
        rw [← hX1]
        clear hX1 c4 f4
        by_cases hlim0 : limit ≥ -1
        · have c5 : X1.cell? ⟨bp, 5, none⟩ = some (.int .i64 q.lim) := (unhide M1).cp 5
          have f5 := (unhide M1).fp 5
          obtain ⟨X2, hX2⟩ : ∃ X, X = X1.setCell ⟨bp, 5, none⟩ (.int .i64 limit) := ⟨_, rfl⟩
          have M2 := hide ((unhide M1).set5 limit)
          rw [← hX2] at M2
          go_upto_region 12 with fail
          rw [← hX2]
          obtain ⟨lim2, hl2⟩ : ∃ l, l = limit := ⟨_, rfl⟩
          rw [← hl2] at M2
          clear hX2 c5 f5 hl2 M1 M0 hlim0
          obtain ⟨r, hr⟩ : ∃ r : Qy, r = ⟨q.nodes, q.wh, q.by', q.sh, [], lim2⟩ := ⟨_, rfl⟩
          obtain ⟨br, hbr⟩ : ∃ r : Qa, r = ⟨b5.pN, b5.cN, b5.pB, b5.cB, b5.pS, b5.cS, none, 0⟩ := ⟨_, rfl⟩
          have hir := hide ((unhide M2).inq (unhide HQ).nn (unhide HQ).nb (unhide HQ).ns (Nat.zero_le _))
          rw [← hr, ← hbr] at M2 hir
          have HR := hide hr
          have d12 := hide (twin_any (unhide hir) (unhide M2).tw.cp.1)
          have l12 := (unhide M2).ldp
          obtain ⟨zr, hzr⟩ : ∃ v, v = qV r br := ⟨_, rfl⟩
          rw [← hzr] at d12 l12
          have HZR := hide hzr
          clear hr hbr hzr
          go_wp2_with fail
          refine (unhide d12).mono ?_
          rintro e w12 ⟨b12, rfl, ht12⟩
          have M3 := hide ((unhide M2).keep ht12.bel)
          have d13 := hide (check_any ((unhide HT).below (unhide M3).bel).f ((unhide HT).below (unhide M3).bel).m ((unhide HT).below (unhide M3).bel).r (ht12.q (unhide hir)))
          obtain ⟨z12, hz12⟩ : ∃ v, v = qV r b12 := ⟨_, rfl⟩
          rw [← hz12] at d13 ⊢
          obtain ⟨F, hF⟩ : ∃ v, v = chkE r := ⟨_, rfl⟩
          rw [← hF] at d13
          have HF := hide hF
          clear hF hz12 ht12 d12 l12 hir
          go_wp2_with fail
          refine (unhide d13).mono ?_
          rintro e w13 ⟨p13, n13, c13, rfl, hl13⟩
          have M4 := hide ((unhide M3).keep hl13.bel)
          clear hl13 d13
          by_cases hFE : F = 0
          · have hpl : Hid (planS r = 1) := by
              have h1 : chkE r = chkE q := (unhide HF).symm.trans (hFE.trans (unhide HE))
              have h2 := chkE_ok h1
              rw [unhide HR] at h2
              show _ = _
              rw [unhide HR, plan_same h2, unhide HAV]
            have d14 := hide (plan_any ((unhide HT).below (unhide M4).bel) ((unhide M4).inq (by rw [unhide HR]; exact (unhide HQ).nn) (by rw [unhide HR]; exact (unhide HQ).nb) (by rw [unhide HR]; exact (unhide HQ).ns) (by rw [unhide HR]; exact Nat.zero_le _)) (unhide M4).tw.cp.2)
            rw [unhide hpl] at d14
            have l14 := (unhide M4).ldp
            rw [← unhide HZR] at d14 l14
            subst hFE
            go_wp2_with (first | (go_at_call 19; refine (unhide d14).mono ?_; rintro e w15 ⟨rfl, hw15⟩))
            have M5 := hide ((unhide M4).keep hw15)
            clear hw15
            try go_wp2_with fail
            go_ret
            exact ⟨by simp, (unhide M5).bel⟩
          · have hFE' : (F != 0) = true := by simpa using hFE
            go_wp2_with fail
            go_ret
            exact ⟨rfl, (unhide M4).bel⟩
        · have M2 := M1
          obtain ⟨X2, hX2⟩ : ∃ X, X = X1 := ⟨_, rfl⟩
          rw [← hX2] at M2 ⊢
          obtain ⟨lim2, hl2⟩ : ∃ l, l = q.lim := ⟨_, rfl⟩
          rw [← hl2] at M2
          clear hl2 M1 M0 hX2
          go_upto_region 12 with fail
          obtain ⟨r, hr⟩ : ∃ r : Qy, r = ⟨q.nodes, q.wh, q.by', q.sh, [], lim2⟩ := ⟨_, rfl⟩
          obtain ⟨br, hbr⟩ : ∃ r : Qa, r = ⟨b5.pN, b5.cN, b5.pB, b5.cB, b5.pS, b5.cS, none, 0⟩ := ⟨_, rfl⟩
          have hir := hide ((unhide M2).inq (unhide HQ).nn (unhide HQ).nb (unhide HQ).ns (Nat.zero_le _))
          rw [← hr, ← hbr] at M2 hir
          have HR := hide hr
          have d12 := hide (twin_any (unhide hir) (unhide M2).tw.cp.1)
          have l12 := (unhide M2).ldp
          obtain ⟨zr, hzr⟩ : ∃ v, v = qV r br := ⟨_, rfl⟩
          rw [← hzr] at d12 l12
          have HZR := hide hzr
          clear hr hbr hzr
          go_wp2_with fail
          refine (unhide d12).mono ?_
          rintro e w12 ⟨b12, rfl, ht12⟩
          have M3 := hide ((unhide M2).keep ht12.bel)
          have d13 := hide (check_any ((unhide HT).below (unhide M3).bel).f ((unhide HT).below (unhide M3).bel).m ((unhide HT).below (unhide M3).bel).r (ht12.q (unhide hir)))
          obtain ⟨z12, hz12⟩ : ∃ v, v = qV r b12 := ⟨_, rfl⟩
          rw [← hz12] at d13 ⊢
          obtain ⟨F, hF⟩ : ∃ v, v = chkE r := ⟨_, rfl⟩
          rw [← hF] at d13
          have HF := hide hF
          clear hF hz12 ht12 d12 l12 hir
          go_wp2_with fail
          refine (unhide d13).mono ?_
          rintro e w13 ⟨p13, n13, c13, rfl, hl13⟩
          have M4 := hide ((unhide M3).keep hl13.bel)
          clear hl13 d13
          by_cases hFE : F = 0
          · have hpl : Hid (planS r = 1) := by
              have h1 : chkE r = chkE q := (unhide HF).symm.trans (hFE.trans (unhide HE))
              have h2 := chkE_ok h1
              rw [unhide HR] at h2
              show _ = _
              rw [unhide HR, plan_same h2, unhide HAV]
            have d14 := hide (plan_any ((unhide HT).below (unhide M4).bel) ((unhide M4).inq (by rw [unhide HR]; exact (unhide HQ).nn) (by rw [unhide HR]; exact (unhide HQ).nb) (by rw [unhide HR]; exact (unhide HQ).ns) (by rw [unhide HR]; exact Nat.zero_le _)) (unhide M4).tw.cp.2)
            rw [unhide hpl] at d14
            have l14 := (unhide M4).ldp
            rw [← unhide HZR] at d14 l14
            subst hFE
            go_wp2_with (first | (go_at_call 19; refine (unhide d14).mono ?_; rintro e w15 ⟨rfl, hw15⟩))
            have M5 := hide ((unhide M4).keep hw15)
            clear hw15
            try go_wp2_with fail
            go_ret
            exact ⟨by simp, (unhide M5).bel⟩
          · have hFE' : (F != 0) = true := by simpa using hFE
            go_wp2_with fail
            go_ret
            exact ⟨rfl, (unhide M4).bel⟩
    · subst hE hav
      clear hok
      go_upto_region 8 with fail
      obtain ⟨X6, hX6⟩ : ∃ X, X = w6 := ⟨_, rfl⟩
      have HBX := HBW6; have HXQ := HQ6
      rw [← hX6] at HBX HXQ ⊢
      clear hX6 HBW6 HQ6 k1 k2 l7
      have d8 := hide (twin_any ((unhide HQ).below (unhide HBX)) (unhide HC))
      have l8 := run_ld32 (w := X6) (b := W.heap.size) (o := 0) (q := q) (a := a) (fun j u hu => by rw [Nat.zero_add, cell_at (unhide HXQ)]; simpa using hu)
      rw [← unhide HQQ] at d8 l8
      go_wp2_with fail
      refine (unhide d8).mono ?_
      rintro e w8 ⟨b5, rfl, ht8⟩
      obtain ⟨bp, hbp⟩ : ∃ n, n = w8.heap.size := ⟨_, rfl⟩
      have hqv5 : qV q b5 = .agg #[.slice b5.pN nN b5.cN, .int .i64 q.wh, .slice b5.pB nB b5.cB, .slice b5.pS nS b5.cS, .slice b5.pO q.ords.length b5.cO, .int .i64 q.lim] := by rw [unhide HN, unhide HNB, unhide HNS]; rfl
      obtain ⟨X0, hX0⟩ : ∃ X, X = w8.alloc (.cells #[.slice b5.pN nN b5.cN, .int .i64 q.wh, .slice b5.pB nB b5.cB, .slice b5.pS nS b5.cS, .slice b5.pO q.ords.length b5.cO, .int .i64 q.lim] 32) := ⟨_, rfl⟩
      have s5 := run_st32_new (w := w8) (v0 := .slice b5.pN nN b5.cN) (v1 := .int .i64 q.wh) (v2 := .slice b5.pB nB b5.cB) (v3 := .slice b5.pS nS b5.cS) (v4 := .slice b5.pO q.ords.length b5.cO) (v5 := .int .i64 q.lim) (fun u hu => by simp at hu; rcases hu with rfl | rfl | rfl | rfl | rfl | rfl <;> rfl)
      have M0 : Hid (Mo W X0 q a q b5 W.heap.size bp (.slice none 0 0) 0 []) := by
        have hba : Below w8.heap.size w8 X0 := by rw [hX0]; exact Below.a1 w8 _
        have h4 : W.heap.size < X6.heap.size := (Array.getElem?_eq_some_iff.1 (unhide HXQ)).1
        have h5 : W.heap.size < w8.heap.size := Nat.lt_of_lt_of_le h4 ht8.bel.size
        have ht := (ht8.up (unhide HBX)).below hba
        refine ⟨(hba.block _ h5).trans ((ht8.bel.block _ h4).trans (unhide HXQ)), ?_, ht, Rw.none ht.bel, by omega, by omega⟩
        rw [hX0, hbp, unhide HN, unhide HNB, unhide HNS]; exact heap_new _ _
      rw [hqv5]
      clear ht8 hqv5 d8 l8 HBX HXQ
      go_upto_region 9 with fail
      rw [← hX0, ← hbp]
      clear hX0 s5 hbp
      have c4 : X0.cell? ⟨bp, 4, none⟩ = some (.slice b5.pO q.ords.length b5.cO) := (unhide M0).cp 4
      have f4 := (unhide M0).fp 4
      obtain ⟨X1, hX1⟩ : ∃ X, X = X0.setCell ⟨bp, 4, none⟩ (.slice none 0 0) := ⟨_, rfl⟩
      have M1 := hide (unhide M0).set4
      rw [← hX1] at M1
      go_upto_region 10 with fail
      rw [← hX1]
      clear hX1 c4 f4
      by_cases hlim0 : limit ≥ -1
      · have c5 : X1.cell? ⟨bp, 5, none⟩ = some (.int .i64 q.lim) := (unhide M1).cp 5
        have f5 := (unhide M1).fp 5
        obtain ⟨X2, hX2⟩ : ∃ X, X = X1.setCell ⟨bp, 5, none⟩ (.int .i64 limit) := ⟨_, rfl⟩
        have M2 := hide ((unhide M1).set5 limit)
        rw [← hX2] at M2
        go_upto_region 12 with fail
        rw [← hX2]
        obtain ⟨lim2, hl2⟩ : ∃ l, l = limit := ⟨_, rfl⟩
        rw [← hl2] at M2
        clear hX2 c5 f5 hl2 M1 M0 hlim0
        obtain ⟨r, hr⟩ : ∃ r : Qy, r = ⟨q.nodes, q.wh, q.by', q.sh, [], lim2⟩ := ⟨_, rfl⟩
        obtain ⟨br, hbr⟩ : ∃ r : Qa, r = ⟨b5.pN, b5.cN, b5.pB, b5.cB, b5.pS, b5.cS, none, 0⟩ := ⟨_, rfl⟩
        have hir := hide ((unhide M2).inq (unhide HQ).nn (unhide HQ).nb (unhide HQ).ns (Nat.zero_le _))
        rw [← hr, ← hbr] at M2 hir
        have HR := hide hr
        have d12 := hide (twin_any (unhide hir) (unhide M2).tw.cp.1)
        have l12 := (unhide M2).ldp
        obtain ⟨zr, hzr⟩ : ∃ v, v = qV r br := ⟨_, rfl⟩
        rw [← hzr] at d12 l12
        have HZR := hide hzr
        clear hr hbr hzr
        go_wp2_with fail
        refine (unhide d12).mono ?_
        rintro e w12 ⟨b12, rfl, ht12⟩
        have M3 := hide ((unhide M2).keep ht12.bel)
        have d13 := hide (check_any ((unhide HT).below (unhide M3).bel).f ((unhide HT).below (unhide M3).bel).m ((unhide HT).below (unhide M3).bel).r (ht12.q (unhide hir)))
        obtain ⟨z12, hz12⟩ : ∃ v, v = qV r b12 := ⟨_, rfl⟩
        rw [← hz12] at d13 ⊢
        obtain ⟨F, hF⟩ : ∃ v, v = chkE r := ⟨_, rfl⟩
        rw [← hF] at d13
        have HF := hide hF
        clear hF hz12 ht12 d12 l12 hir
        go_wp2_with fail
        refine (unhide d13).mono ?_
        rintro e w13 ⟨p13, n13, c13, rfl, hl13⟩
        have M4 := hide ((unhide M3).keep hl13.bel)
        clear hl13 d13
        by_cases hFE : F = 140
        · have hpl : Hid (planS r = 1) := by
            have h1 : chkE r = chkE q := (unhide HF).symm.trans (hFE.trans (unhide HE))
            have h2 := chkE_ok h1
            rw [unhide HR] at h2
            show _ = _
            rw [unhide HR, plan_same h2, unhide HAV]
          have d14 := hide (plan_any ((unhide HT).below (unhide M4).bel) ((unhide M4).inq (by rw [unhide HR]; exact (unhide HQ).nn) (by rw [unhide HR]; exact (unhide HQ).nb) (by rw [unhide HR]; exact (unhide HQ).ns) (by rw [unhide HR]; exact Nat.zero_le _)) (unhide M4).tw.cp.2)
          rw [unhide hpl] at d14
          have l14 := (unhide M4).ldp
          rw [← unhide HZR] at d14 l14
          subst hFE
          go_wp2_with (first | (go_at_call 19; refine (unhide d14).mono ?_; rintro e w15 ⟨rfl, hw15⟩))
          have M5 := hide ((unhide M4).keep hw15)
          clear hw15
          try go_wp2_with fail
          go_ret
          exact ⟨by simp, (unhide M5).bel⟩
        · have hFE' : (F != 140) = true := by simpa using hFE
          go_wp2_with fail
          go_ret
          exact ⟨rfl, (unhide M4).bel⟩
      · have M2 := M1
        obtain ⟨X2, hX2⟩ : ∃ X, X = X1 := ⟨_, rfl⟩
        rw [← hX2] at M2 ⊢
        obtain ⟨lim2, hl2⟩ : ∃ l, l = q.lim := ⟨_, rfl⟩
        rw [← hl2] at M2
        clear hl2 M1 M0 hX2
        go_upto_region 12 with fail
        obtain ⟨r, hr⟩ : ∃ r : Qy, r = ⟨q.nodes, q.wh, q.by', q.sh, [], lim2⟩ := ⟨_, rfl⟩
        obtain ⟨br, hbr⟩ : ∃ r : Qa, r = ⟨b5.pN, b5.cN, b5.pB, b5.cB, b5.pS, b5.cS, none, 0⟩ := ⟨_, rfl⟩
        have hir := hide ((unhide M2).inq (unhide HQ).nn (unhide HQ).nb (unhide HQ).ns (Nat.zero_le _))
        rw [← hr, ← hbr] at M2 hir
        have HR := hide hr
        have d12 := hide (twin_any (unhide hir) (unhide M2).tw.cp.1)
        have l12 := (unhide M2).ldp
        obtain ⟨zr, hzr⟩ : ∃ v, v = qV r br := ⟨_, rfl⟩
        rw [← hzr] at d12 l12
        have HZR := hide hzr
        clear hr hbr hzr
        go_wp2_with fail
        refine (unhide d12).mono ?_
        rintro e w12 ⟨b12, rfl, ht12⟩
        have M3 := hide ((unhide M2).keep ht12.bel)
        have d13 := hide (check_any ((unhide HT).below (unhide M3).bel).f ((unhide HT).below (unhide M3).bel).m ((unhide HT).below (unhide M3).bel).r (ht12.q (unhide hir)))
        obtain ⟨z12, hz12⟩ : ∃ v, v = qV r b12 := ⟨_, rfl⟩
        rw [← hz12] at d13 ⊢
        obtain ⟨F, hF⟩ : ∃ v, v = chkE r := ⟨_, rfl⟩
        rw [← hF] at d13
        have HF := hide hF
        clear hF hz12 ht12 d12 l12 hir
        go_wp2_with fail
        refine (unhide d13).mono ?_
        rintro e w13 ⟨p13, n13, c13, rfl, hl13⟩
        have M4 := hide ((unhide M3).keep hl13.bel)
        clear hl13 d13
        by_cases hFE : F = 140
        · have hpl : Hid (planS r = 1) := by
            have h1 : chkE r = chkE q := (unhide HF).symm.trans (hFE.trans (unhide HE))
            have h2 := chkE_ok h1
            rw [unhide HR] at h2
            show _ = _
            rw [unhide HR, plan_same h2, unhide HAV]
          have d14 := hide (plan_any ((unhide HT).below (unhide M4).bel) ((unhide M4).inq (by rw [unhide HR]; exact (unhide HQ).nn) (by rw [unhide HR]; exact (unhide HQ).nb) (by rw [unhide HR]; exact (unhide HQ).ns) (by rw [unhide HR]; exact Nat.zero_le _)) (unhide M4).tw.cp.2)
          rw [unhide hpl] at d14
          have l14 := (unhide M4).ldp
          rw [← unhide HZR] at d14 l14
          subst hFE
          go_wp2_with (first | (go_at_call 19; refine (unhide d14).mono ?_; rintro e w15 ⟨rfl, hw15⟩))
          have M5 := hide ((unhide M4).keep hw15)
          clear hw15
          try go_wp2_with fail
          go_ret
          exact ⟨by simp, (unhide M5).bel⟩
        · have hFE' : (F != 140) = true := by simpa using hFE
          go_wp2_with fail
          go_ret
          exact ⟨rfl, (unhide M4).bel⟩
  · have hf := (unhide HPF).2.1 (by rw [← unhide HAV, hav]; decide)
    have hE : E = 0 := by
      rcases hEv with h | h
      · exact h.1
      · rw [hf.1] at h; exact absurd h.2 (by decide)
    have hb : nB = 0 := (unhide HNB).trans hf.2
    subst hE hav hb
    clear hf hEv
    go_upto_region 8 with fail
    obtain ⟨X6, hX6⟩ : ∃ X, X = w6 := ⟨_, rfl⟩
    have HBX := HBW6; have HXQ := HQ6
    rw [← hX6] at HBX HXQ ⊢
    clear hX6 HBW6 HQ6 k1 k2 l7
    have d8 := hide (twin_any ((unhide HQ).below (unhide HBX)) (unhide HC))
    have l8 := run_ld32 (w := X6) (b := W.heap.size) (o := 0) (q := q) (a := a) (fun j u hu => by rw [Nat.zero_add, cell_at (unhide HXQ)]; simpa using hu)
    rw [← unhide HQQ] at d8 l8
    go_wp2_with fail
    refine (unhide d8).mono ?_
    rintro e w8 ⟨b5, rfl, ht8⟩
    obtain ⟨bp, hbp⟩ : ∃ n, n = w8.heap.size := ⟨_, rfl⟩
    have hqv5 : qV q b5 = .agg #[.slice b5.pN nN b5.cN, .int .i64 q.wh, .slice b5.pB 0 b5.cB, .slice b5.pS nS b5.cS, .slice b5.pO q.ords.length b5.cO, .int .i64 q.lim] := by rw [unhide HN, unhide HNB, unhide HNS]; rfl
    obtain ⟨X0, hX0⟩ : ∃ X, X = w8.alloc (.cells #[.slice b5.pN nN b5.cN, .int .i64 q.wh, .slice b5.pB 0 b5.cB, .slice b5.pS nS b5.cS, .slice b5.pO q.ords.length b5.cO, .int .i64 q.lim] 32) := ⟨_, rfl⟩
    have s5 := run_st32_new (w := w8) (v0 := .slice b5.pN nN b5.cN) (v1 := .int .i64 q.wh) (v2 := .slice b5.pB 0 b5.cB) (v3 := .slice b5.pS nS b5.cS) (v4 := .slice b5.pO q.ords.length b5.cO) (v5 := .int .i64 q.lim) (fun u hu => by simp at hu; rcases hu with rfl | rfl | rfl | rfl | rfl | rfl <;> rfl)
    have M0 : Hid (Mo W X0 q a q b5 W.heap.size bp (.slice none 0 0) 0 []) := by
      have hba : Below w8.heap.size w8 X0 := by rw [hX0]; exact Below.a1 w8 _
      have h4 : W.heap.size < X6.heap.size := (Array.getElem?_eq_some_iff.1 (unhide HXQ)).1
      have h5 : W.heap.size < w8.heap.size := Nat.lt_of_lt_of_le h4 ht8.bel.size
      have ht := (ht8.up (unhide HBX)).below hba
      refine ⟨(hba.block _ h5).trans ((ht8.bel.block _ h4).trans (unhide HXQ)), ?_, ht, Rw.none ht.bel, by omega, by omega⟩
      rw [hX0, hbp, unhide HN, unhide HNB, unhide HNS]; exact heap_new _ _
    rw [hqv5]
    clear ht8 hqv5 d8 l8 HBX HXQ
    go_upto_region 9 with fail
    rw [← hX0, ← hbp]
    clear hX0 s5 hbp
    have c4 : X0.cell? ⟨bp, 4, none⟩ = some (.slice b5.pO q.ords.length b5.cO) := (unhide M0).cp 4
    have f4 := (unhide M0).fp 4
    obtain ⟨X1, hX1⟩ : ∃ X, X = X0.setCell ⟨bp, 4, none⟩ (.slice none 0 0) := ⟨_, rfl⟩
    have M1 := hide (unhide M0).set4
    rw [← hX1] at M1
    go_upto_region 10 with fail
    rw [← hX1]
    clear hX1 c4 f4
    by_cases hlim0 : limit ≥ -1
    · have c5 : X1.cell? ⟨bp, 5, none⟩ = some (.int .i64 q.lim) := (unhide M1).cp 5
      have f5 := (unhide M1).fp 5
      obtain ⟨X2, hX2⟩ : ∃ X, X = X1.setCell ⟨bp, 5, none⟩ (.int .i64 limit) := ⟨_, rfl⟩
      have M2 := hide ((unhide M1).set5 limit)
      rw [← hX2] at M2
      go_upto_region 12 with fail
      rw [← hX2]
      obtain ⟨lim2, hl2⟩ : ∃ l, l = limit := ⟨_, rfl⟩
      rw [← hl2] at M2
      clear hX2 c5 f5 hl2 M1 M0 hlim0
      obtain ⟨r, hr⟩ : ∃ r : Qy, r = ⟨q.nodes, q.wh, q.by', q.sh, [], lim2⟩ := ⟨_, rfl⟩
      obtain ⟨br, hbr⟩ : ∃ r : Qa, r = ⟨b5.pN, b5.cN, b5.pB, b5.cB, b5.pS, b5.cS, none, 0⟩ := ⟨_, rfl⟩
      have hir := hide ((unhide M2).inq (unhide HQ).nn (unhide HQ).nb (unhide HQ).ns (Nat.zero_le _))
      rw [← hr, ← hbr] at M2 hir
      have HR := hide hr
      have d12 := hide (twin_any (unhide hir) (unhide M2).tw.cp.1)
      have l12 := (unhide M2).ldp
      obtain ⟨zr, hzr⟩ : ∃ v, v = qV r br := ⟨_, rfl⟩
      rw [← hzr] at d12 l12
      have HZR := hide hzr
      clear hr hbr hzr
      go_wp2_with fail
      refine (unhide d12).mono ?_
      rintro e w12 ⟨b12, rfl, ht12⟩
      have M3 := hide ((unhide M2).keep ht12.bel)
      have d13 := hide (check_any ((unhide HT).below (unhide M3).bel).f ((unhide HT).below (unhide M3).bel).m ((unhide HT).below (unhide M3).bel).r (ht12.q (unhide hir)))
      obtain ⟨z12, hz12⟩ : ∃ v, v = qV r b12 := ⟨_, rfl⟩
      rw [← hz12] at d13 ⊢
      obtain ⟨F, hF⟩ : ∃ v, v = chkE r := ⟨_, rfl⟩
      rw [← hF] at d13
      have HF := hide hF
      clear hF hz12 ht12 d12 l12 hir
      go_wp2_with fail
      refine (unhide d13).mono ?_
      rintro e w13 ⟨p13, n13, c13, rfl, hl13⟩
      have M4 := hide ((unhide M3).keep hl13.bel)
      clear hl13 d13
      by_cases hFE : F = 0
      · have hpl : Hid (planS r = 2) := by
          have h1 : chkE r = chkE q := (unhide HF).symm.trans (hFE.trans (unhide HE))
          have h2 := chkE_ok h1
          rw [unhide HR] at h2
          show _ = _
          rw [unhide HR, plan_same h2, unhide HAV]
        have d14 := hide (plan_any ((unhide HT).below (unhide M4).bel) ((unhide M4).inq (by rw [unhide HR]; exact (unhide HQ).nn) (by rw [unhide HR]; exact (unhide HQ).nb) (by rw [unhide HR]; exact (unhide HQ).ns) (by rw [unhide HR]; exact Nat.zero_le _)) (unhide M4).tw.cp.2)
        rw [unhide hpl] at d14
        have l14 := (unhide M4).ldp
        rw [← unhide HZR] at d14 l14
        subst hFE
        go_wp2_with (first | (go_at_call 19; refine (unhide d14).mono ?_; rintro e w15 ⟨rfl, hw15⟩))
        have M5 := hide ((unhide M4).keep hw15)
        clear hw15
        try go_wp2_with fail
        go_ret
        exact ⟨by simp, (unhide M5).bel⟩
      · have hFE' : (F != 0) = true := by simpa using hFE
        go_wp2_with fail
        go_ret
        exact ⟨rfl, (unhide M4).bel⟩
    · have M2 := M1
      obtain ⟨X2, hX2⟩ : ∃ X, X = X1 := ⟨_, rfl⟩
      rw [← hX2] at M2 ⊢
      obtain ⟨lim2, hl2⟩ : ∃ l, l = q.lim := ⟨_, rfl⟩
      rw [← hl2] at M2
      clear hl2 M1 M0 hX2
      go_upto_region 12 with fail
      obtain ⟨r, hr⟩ : ∃ r : Qy, r = ⟨q.nodes, q.wh, q.by', q.sh, [], lim2⟩ := ⟨_, rfl⟩
      obtain ⟨br, hbr⟩ : ∃ r : Qa, r = ⟨b5.pN, b5.cN, b5.pB, b5.cB, b5.pS, b5.cS, none, 0⟩ := ⟨_, rfl⟩
      have hir := hide ((unhide M2).inq (unhide HQ).nn (unhide HQ).nb (unhide HQ).ns (Nat.zero_le _))
      rw [← hr, ← hbr] at M2 hir
      have HR := hide hr
      have d12 := hide (twin_any (unhide hir) (unhide M2).tw.cp.1)
      have l12 := (unhide M2).ldp
      obtain ⟨zr, hzr⟩ : ∃ v, v = qV r br := ⟨_, rfl⟩
      rw [← hzr] at d12 l12
      have HZR := hide hzr
      clear hr hbr hzr
      go_wp2_with fail
      refine (unhide d12).mono ?_
      rintro e w12 ⟨b12, rfl, ht12⟩
      have M3 := hide ((unhide M2).keep ht12.bel)
      have d13 := hide (check_any ((unhide HT).below (unhide M3).bel).f ((unhide HT).below (unhide M3).bel).m ((unhide HT).below (unhide M3).bel).r (ht12.q (unhide hir)))
      obtain ⟨z12, hz12⟩ : ∃ v, v = qV r b12 := ⟨_, rfl⟩
      rw [← hz12] at d13 ⊢
      obtain ⟨F, hF⟩ : ∃ v, v = chkE r := ⟨_, rfl⟩
      rw [← hF] at d13
      have HF := hide hF
      clear hF hz12 ht12 d12 l12 hir
      go_wp2_with fail
      refine (unhide d13).mono ?_
      rintro e w13 ⟨p13, n13, c13, rfl, hl13⟩
      have M4 := hide ((unhide M3).keep hl13.bel)
      clear hl13 d13
      by_cases hFE : F = 0
      · have hpl : Hid (planS r = 2) := by
          have h1 : chkE r = chkE q := (unhide HF).symm.trans (hFE.trans (unhide HE))
          have h2 := chkE_ok h1
          rw [unhide HR] at h2
          show _ = _
          rw [unhide HR, plan_same h2, unhide HAV]
        have d14 := hide (plan_any ((unhide HT).below (unhide M4).bel) ((unhide M4).inq (by rw [unhide HR]; exact (unhide HQ).nn) (by rw [unhide HR]; exact (unhide HQ).nb) (by rw [unhide HR]; exact (unhide HQ).ns) (by rw [unhide HR]; exact Nat.zero_le _)) (unhide M4).tw.cp.2)
        rw [unhide hpl] at d14
        have l14 := (unhide M4).ldp
        rw [← unhide HZR] at d14 l14
        subst hFE
        go_wp2_with (first | (go_at_call 19; refine (unhide d14).mono ?_; rintro e w15 ⟨rfl, hw15⟩))
        have M5 := hide ((unhide M4).keep hw15)
        clear hw15
        try go_wp2_with fail
        go_ret
        exact ⟨by simp, (unhide M5).bel⟩
      · have hFE' : (F != 0) = true := by simpa using hFE
        go_wp2_with fail
        go_ret
        exact ⟨rfl, (unhide M4).bel⟩
  · have hf := (unhide HPF).2.1 (by rw [← unhide HAV, hav]; decide)
    have hw : ¬ q.wh < 0 := (unhide HPF).2.2.1 (by rw [← unhide HAV, hav])
    have hE : E = 0 := by
      rcases hEv with h | h
      · exact h.1
      · rw [hf.1] at h; exact absurd h.2 (by decide)
    have hb : nB = 0 := (unhide HNB).trans hf.2
    subst hE hav hb
    clear hf hEv
    go_upto_region 8 with fail
    clear hw
    obtain ⟨X6, hX6⟩ : ∃ X, X = w6 := ⟨_, rfl⟩
    have HBX := HBW6; have HXQ := HQ6
    rw [← hX6] at HBX HXQ ⊢
    clear hX6 HBW6 HQ6 k1 k2 l7
    have d8 := hide (twin_any ((unhide HQ).below (unhide HBX)) (unhide HC))
    have l8 := run_ld32 (w := X6) (b := W.heap.size) (o := 0) (q := q) (a := a) (fun j u hu => by rw [Nat.zero_add, cell_at (unhide HXQ)]; simpa using hu)
    rw [← unhide HQQ] at d8 l8
    go_wp2_with fail
    refine (unhide d8).mono ?_
    rintro e w8 ⟨b5, rfl, ht8⟩
    obtain ⟨bp, hbp⟩ : ∃ n, n = w8.heap.size := ⟨_, rfl⟩
    have hqv5 : qV q b5 = .agg #[.slice b5.pN nN b5.cN, .int .i64 q.wh, .slice b5.pB 0 b5.cB, .slice b5.pS nS b5.cS, .slice b5.pO q.ords.length b5.cO, .int .i64 q.lim] := by rw [unhide HN, unhide HNB, unhide HNS]; rfl
    obtain ⟨X0, hX0⟩ : ∃ X, X = w8.alloc (.cells #[.slice b5.pN nN b5.cN, .int .i64 q.wh, .slice b5.pB 0 b5.cB, .slice b5.pS nS b5.cS, .slice b5.pO q.ords.length b5.cO, .int .i64 q.lim] 32) := ⟨_, rfl⟩
    have s5 := run_st32_new (w := w8) (v0 := .slice b5.pN nN b5.cN) (v1 := .int .i64 q.wh) (v2 := .slice b5.pB 0 b5.cB) (v3 := .slice b5.pS nS b5.cS) (v4 := .slice b5.pO q.ords.length b5.cO) (v5 := .int .i64 q.lim) (fun u hu => by simp at hu; rcases hu with rfl | rfl | rfl | rfl | rfl | rfl <;> rfl)
    have M0 : Hid (Mo W X0 q a q b5 W.heap.size bp (.slice none 0 0) 0 []) := by
      have hba : Below w8.heap.size w8 X0 := by rw [hX0]; exact Below.a1 w8 _
      have h4 : W.heap.size < X6.heap.size := (Array.getElem?_eq_some_iff.1 (unhide HXQ)).1
      have h5 : W.heap.size < w8.heap.size := Nat.lt_of_lt_of_le h4 ht8.bel.size
      have ht := (ht8.up (unhide HBX)).below hba
      refine ⟨(hba.block _ h5).trans ((ht8.bel.block _ h4).trans (unhide HXQ)), ?_, ht, Rw.none ht.bel, by omega, by omega⟩
      rw [hX0, hbp, unhide HN, unhide HNB, unhide HNS]; exact heap_new _ _
    rw [hqv5]
    clear ht8 hqv5 d8 l8 HBX HXQ
    go_upto_region 9 with fail
    rw [← hX0, ← hbp]
    clear hX0 s5 hbp
    have c4 : X0.cell? ⟨bp, 4, none⟩ = some (.slice b5.pO q.ords.length b5.cO) := (unhide M0).cp 4
    have f4 := (unhide M0).fp 4
    obtain ⟨X1, hX1⟩ : ∃ X, X = X0.setCell ⟨bp, 4, none⟩ (.slice none 0 0) := ⟨_, rfl⟩
    have M1 := hide (unhide M0).set4
    rw [← hX1] at M1
    go_upto_region 10 with fail
    rw [← hX1]
    clear hX1 c4 f4
    by_cases hlim0 : limit ≥ -1
    · have c5 : X1.cell? ⟨bp, 5, none⟩ = some (.int .i64 q.lim) := (unhide M1).cp 5
      have f5 := (unhide M1).fp 5
      obtain ⟨X2, hX2⟩ : ∃ X, X = X1.setCell ⟨bp, 5, none⟩ (.int .i64 limit) := ⟨_, rfl⟩
      have M2 := hide ((unhide M1).set5 limit)
      rw [← hX2] at M2
      go_upto_region 12 with fail
      rw [← hX2]
      obtain ⟨lim2, hl2⟩ : ∃ l, l = limit := ⟨_, rfl⟩
      rw [← hl2] at M2
      clear hX2 c5 f5 hl2 M1 M0 hlim0
      obtain ⟨r, hr⟩ : ∃ r : Qy, r = ⟨q.nodes, q.wh, q.by', q.sh, [], lim2⟩ := ⟨_, rfl⟩
      obtain ⟨br, hbr⟩ : ∃ r : Qa, r = ⟨b5.pN, b5.cN, b5.pB, b5.cB, b5.pS, b5.cS, none, 0⟩ := ⟨_, rfl⟩
      have hir := hide ((unhide M2).inq (unhide HQ).nn (unhide HQ).nb (unhide HQ).ns (Nat.zero_le _))
      rw [← hr, ← hbr] at M2 hir
      have HR := hide hr
      have d12 := hide (twin_any (unhide hir) (unhide M2).tw.cp.1)
      have l12 := (unhide M2).ldp
      obtain ⟨zr, hzr⟩ : ∃ v, v = qV r br := ⟨_, rfl⟩
      rw [← hzr] at d12 l12
      have HZR := hide hzr
      clear hr hbr hzr
      go_wp2_with fail
      refine (unhide d12).mono ?_
      rintro e w12 ⟨b12, rfl, ht12⟩
      have M3 := hide ((unhide M2).keep ht12.bel)
      have d13 := hide (check_any ((unhide HT).below (unhide M3).bel).f ((unhide HT).below (unhide M3).bel).m ((unhide HT).below (unhide M3).bel).r (ht12.q (unhide hir)))
      obtain ⟨z12, hz12⟩ : ∃ v, v = qV r b12 := ⟨_, rfl⟩
      rw [← hz12] at d13 ⊢
      obtain ⟨F, hF⟩ : ∃ v, v = chkE r := ⟨_, rfl⟩
      rw [← hF] at d13
      have HF := hide hF
      clear hF hz12 ht12 d12 l12 hir
      go_wp2_with fail
      refine (unhide d13).mono ?_
      rintro e w13 ⟨p13, n13, c13, rfl, hl13⟩
      have M4 := hide ((unhide M3).keep hl13.bel)
      clear hl13 d13
      by_cases hFE : F = 0
      · have hpl : Hid (planS r = 3) := by
          have h1 : chkE r = chkE q := (unhide HF).symm.trans (hFE.trans (unhide HE))
          have h2 := chkE_ok h1
          rw [unhide HR] at h2
          show _ = _
          rw [unhide HR, plan_same h2, unhide HAV]
        have d14 := hide (plan_any ((unhide HT).below (unhide M4).bel) ((unhide M4).inq (by rw [unhide HR]; exact (unhide HQ).nn) (by rw [unhide HR]; exact (unhide HQ).nb) (by rw [unhide HR]; exact (unhide HQ).ns) (by rw [unhide HR]; exact Nat.zero_le _)) (unhide M4).tw.cp.2)
        rw [unhide hpl] at d14
        have l14 := (unhide M4).ldp
        rw [← unhide HZR] at d14 l14
        subst hFE
        go_wp2_with (first | (go_at_call 19; refine (unhide d14).mono ?_; rintro e w15 ⟨rfl, hw15⟩))
        have M5 := hide ((unhide M4).keep hw15)
        clear hw15
        try go_wp2_with fail
        go_ret
        exact ⟨by simp, (unhide M5).bel⟩
      · have hFE' : (F != 0) = true := by simpa using hFE
        go_wp2_with fail
        go_ret
        exact ⟨rfl, (unhide M4).bel⟩
    · have M2 := M1
      obtain ⟨X2, hX2⟩ : ∃ X, X = X1 := ⟨_, rfl⟩
      rw [← hX2] at M2 ⊢
      obtain ⟨lim2, hl2⟩ : ∃ l, l = q.lim := ⟨_, rfl⟩
      rw [← hl2] at M2
      clear hl2 M1 M0 hX2
      go_upto_region 12 with fail
      obtain ⟨r, hr⟩ : ∃ r : Qy, r = ⟨q.nodes, q.wh, q.by', q.sh, [], lim2⟩ := ⟨_, rfl⟩
      obtain ⟨br, hbr⟩ : ∃ r : Qa, r = ⟨b5.pN, b5.cN, b5.pB, b5.cB, b5.pS, b5.cS, none, 0⟩ := ⟨_, rfl⟩
      have hir := hide ((unhide M2).inq (unhide HQ).nn (unhide HQ).nb (unhide HQ).ns (Nat.zero_le _))
      rw [← hr, ← hbr] at M2 hir
      have HR := hide hr
      have d12 := hide (twin_any (unhide hir) (unhide M2).tw.cp.1)
      have l12 := (unhide M2).ldp
      obtain ⟨zr, hzr⟩ : ∃ v, v = qV r br := ⟨_, rfl⟩
      rw [← hzr] at d12 l12
      have HZR := hide hzr
      clear hr hbr hzr
      go_wp2_with fail
      refine (unhide d12).mono ?_
      rintro e w12 ⟨b12, rfl, ht12⟩
      have M3 := hide ((unhide M2).keep ht12.bel)
      have d13 := hide (check_any ((unhide HT).below (unhide M3).bel).f ((unhide HT).below (unhide M3).bel).m ((unhide HT).below (unhide M3).bel).r (ht12.q (unhide hir)))
      obtain ⟨z12, hz12⟩ : ∃ v, v = qV r b12 := ⟨_, rfl⟩
      rw [← hz12] at d13 ⊢
      obtain ⟨F, hF⟩ : ∃ v, v = chkE r := ⟨_, rfl⟩
      rw [← hF] at d13
      have HF := hide hF
      clear hF hz12 ht12 d12 l12 hir
      go_wp2_with fail
      refine (unhide d13).mono ?_
      rintro e w13 ⟨p13, n13, c13, rfl, hl13⟩
      have M4 := hide ((unhide M3).keep hl13.bel)
      clear hl13 d13
      by_cases hFE : F = 0
      · have hpl : Hid (planS r = 3) := by
          have h1 : chkE r = chkE q := (unhide HF).symm.trans (hFE.trans (unhide HE))
          have h2 := chkE_ok h1
          rw [unhide HR] at h2
          show _ = _
          rw [unhide HR, plan_same h2, unhide HAV]
        have d14 := hide (plan_any ((unhide HT).below (unhide M4).bel) ((unhide M4).inq (by rw [unhide HR]; exact (unhide HQ).nn) (by rw [unhide HR]; exact (unhide HQ).nb) (by rw [unhide HR]; exact (unhide HQ).ns) (by rw [unhide HR]; exact Nat.zero_le _)) (unhide M4).tw.cp.2)
        rw [unhide hpl] at d14
        have l14 := (unhide M4).ldp
        rw [← unhide HZR] at d14 l14
        subst hFE
        go_wp2_with (first | (go_at_call 19; refine (unhide d14).mono ?_; rintro e w15 ⟨rfl, hw15⟩))
        have M5 := hide ((unhide M4).keep hw15)
        clear hw15
        try go_wp2_with fail
        go_ret
        exact ⟨by simp, (unhide M5).bel⟩
      · have hFE' : (F != 0) = true := by simpa using hFE
        go_wp2_with fail
        go_ret
        exact ⟨rfl, (unhide M4).bel⟩
end Go.Proofs.YtcelllihidkphaaDoor
