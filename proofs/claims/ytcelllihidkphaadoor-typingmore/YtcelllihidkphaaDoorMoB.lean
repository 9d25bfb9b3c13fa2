/- typing: TypingMore 5. -/
import Derived.Test.YtcelllihidkphaaDoorMoA
namespace Go.Proofs.YtcelllihidkphaaDoor
open Go Go.Shelf Go.ChangeShapes Go.WideShapes Go.ChangeAt Go.RowKit Go.Maps
set_option linter.unusedVariables false
set_option maxRecDepth 100000
set_option maxHeartbeats 8000000
theorem col_len {q : Qy} (h : okQ q = true) : (chkL q).length = q.by'.length + q.sh.length := by rw [(chk_ok h).2]; unfold colS; simp
attribute [local go_sem ↓] ld32_is st32_is
theorem more_walk {W : World} (hT : Tab W) {q : Qy} {a : Qa} (hq : QIn W q a) (hc : QCp a) (hwb : -9223372036854775808 ≤ q.wh ∧ q.wh ≤ 9223372036854775807) (limit by' : Int) (hrb : q.by'.length * 8 ≤ reachBytes) (hrs : q.sh.length * 16 ≤ reachBytes) (hrn : q.nodes.length * 56 ≤ reachBytes) : Calls Tryd.prog 5 #[qV q a, .int .i64 limit, .int .i64 by'] W fun e w' => e = .returned (.bool true) ∧ Below W.heap.size W w' := by
  obtain ⟨nN, hnN⟩ : ∃ n, n = q.nodes.length := ⟨_, rfl⟩
  obtain ⟨nB, hnB⟩ : ∃ n, n = q.by'.length := ⟨_, rfl⟩
  obtain ⟨nS, hnS⟩ : ∃ n, n = q.sh.length := ⟨_, rfl⟩
  obtain ⟨W1, hW1⟩ : ∃ X, X = W.alloc (.cells #[.slice a.pN nN a.cN, .int .i64 q.wh, .slice a.pB nB a.cB, .slice a.pS nS a.cS, .slice a.pO q.ords.length a.cO, .int .i64 q.lim] 32) := ⟨_, rfl⟩
  have hB1 : Below W.heap.size W W1 := by rw [hW1]; exact Below.a1 W _
  have hb1 : W1.heap[W.heap.size]? = some (.cells (qC q a).toArray 32 (0, 0)) := by rw [hW1, hnN, hnB, hnS]; exact heap_new _ _
  have d1 := hide (first_any (hT.below hB1))
  have HQV : Hid (qV q a = .agg #[.slice a.pN nN a.cN, .int .i64 q.wh, .slice a.pB nB a.cB, .slice a.pS nS a.cS, .slice a.pO q.ords.length a.cO, .int .i64 q.lim]) := by show _ = _; rw [hnN, hnB, hnS]; rfl
  have HRB : Hid (q.by'.length + 1 ≤ 17600000000000) := by show _ ≤ _; unfold reachBytes at hrb; omega
  have HRS : Hid (q.sh.length + 1 ≤ 8800000000000) := by show _ ≤ _; unfold reachBytes at hrs; omega
  have HRN : Hid (q.nodes.length + 2 ≤ 2600000000000) := by show _ ≤ _; unfold reachBytes at hrn; omega
  clear hrb hrs hrn
  have HT := hide hT; have HQ := hide hq; have HC := hide hc; have HB1 := hide hB1; have Hb1 := hide hb1; have HN := hide hnN; have HNB := hide hnB; have HNS := hide hnS
  have HLT : Hid (W.heap.size < W1.heap.size) := by rw [hW1]; simp [Hid]
  rw [unhide HQV]
  clear hT hq hc hB1 hb1 hnN hnB hnS
  go_enter Tryd.func5, Tryd.ntmps5
  go_upto_region 1 with fail
  rw [← hW1]
  clear hW1
  go_wp2_with fail
  refine (unhide d1).mono ?_
  rintro e w2 ⟨rfl, hw2⟩
  have HBW : Hid (Below W.heap.size W w2) := (unhide HB1).trans (hw2.mono (unhide HB1).size)
  have hqb : w2.heap[W.heap.size]? = some (.cells (qC q a).toArray 32 (0, 0)) := (hw2.block _ (unhide HLT)).trans (unhide Hb1)
  have l2 := run_ld32 (w := w2) (b := W.heap.size) (o := 0) (q := q) (a := a) (fun j u hu => by rw [Nat.zero_add, cell_at hqb]; simpa using hu)
  have HQB := hide hqb
  have d2 := hide (twin_any ((unhide HQ).below (unhide HBW)) (unhide HC))
  obtain ⟨qq, hqq⟩ : ∃ v, v = qV q a := ⟨_, rfl⟩
  have HQQ := hide hqq
  rw [← hqq] at l2 d2
  clear hw2 d1 hqb hqq
  go_wp2_with fail
  refine (unhide d2).mono ?_
  rintro e w3 ⟨b0, rfl, ht3⟩
  have HT3 := hide ht3
  have HBW3 : Hid (Below W.heap.size W w3) := (unhide HBW).trans (ht3.bel.mono (unhide HBW).size)
  have d3 := hide (check_any ((unhide HT).below (unhide HBW3)).f ((unhide HT).below (unhide HBW3)).m ((unhide HT).below (unhide HBW3)).r (ht3.q ((unhide HQ).below (unhide HBW))))
  obtain ⟨q3, hq3⟩ : ∃ v, v = qV q b0 := ⟨_, rfl⟩
  rw [← hq3] at d3 ⊢
  clear ht3 hq3 d2 l2
  obtain ⟨E, hE⟩ : ∃ v, v = chkE q := ⟨_, rfl⟩
  rw [← hE] at d3
  have HE := hide hE
  clear hE
  go_wp2_with fail
  refine (unhide d3).mono ?_
  rintro e w4 ⟨pl, ln, cl, rfl, hl4⟩
  have HL4 := hide hl4
  clear hl4 d3
  by_cases hok0 : okQ q = true
  case neg =>
    have hok : okQ q = false := by simpa using hok0
    have hln : ln = 0 := by have := (unhide HL4).len; rw [(chk_bad hok).2] at this; exact this.symm
    have hE : E = 140 := (unhide HE).trans (chk_bad hok).1
    have HBF := hide ((unhide HBW3).trans ((unhide HL4).bel.mono (unhide HBW3).size))
    subst hE hln
    clear HL4 hok hok0
    go_wp2_with fail
    go_ret
    exact ⟨rfl, unhide HBF⟩
  have HOK := hide hok0
  have hE : E = 0 := (unhide HE).trans (chk_ok hok0).1
  have HLN : Hid (ln = nB + nS) := by show _ = _; rw [← (unhide HL4).len, col_len hok0, unhide HNB, unhide HNS]
  have hS0 : 0 < nS := by rw [unhide HNS]; exact ((ok_iff q).1 hok0).p4
  subst hE
  clear hok0
  -- the twin that is worked on
  have hqb4 : w4.heap[W.heap.size]? = some (.cells (qC q a).toArray 32 (0, 0)) := by
    have h2 : W.heap.size < w2.heap.size := (Array.getElem?_eq_some_iff.1 (unhide HQB)).1
    have h3 : W.heap.size < w3.heap.size := Nat.lt_of_lt_of_le h2 (unhide HT3).bel.size
    exact ((unhide HL4).bel.block _ h3).trans (((unhide HT3).bel.block _ h2).trans (unhide HQB))
  have HBW4 : Hid (Below W.heap.size W w4) := (unhide HBW3).trans ((unhide HL4).bel.mono (unhide HBW3).size)
  have l5 := run_ld32 (w := w4) (b := W.heap.size) (o := 0) (q := q) (a := a) (fun j u hu => by rw [Nat.zero_add, cell_at hqb4]; simpa using hu)
  have d5 := hide (twin_any ((unhide HQ).below (unhide HBW4)) (unhide HC))
  rw [← unhide HQQ] at l5 d5
  have HQB4 := hide hqb4
  clear hqb4
  go_upto_region 5 with fail
  go_wp2_with fail
  refine (unhide d5).mono ?_
  rintro e w5 ⟨b5, rfl, ht5⟩
  obtain ⟨bp, hbp⟩ : ∃ n, n = w5.heap.size := ⟨_, rfl⟩
  have hqv5 : qV q b5 = .agg #[.slice b5.pN nN b5.cN, .int .i64 q.wh, .slice b5.pB nB b5.cB, .slice b5.pS nS b5.cS, .slice b5.pO q.ords.length b5.cO, .int .i64 q.lim] := by rw [unhide HN, unhide HNB, unhide HNS]; rfl
  obtain ⟨X0, hX0⟩ : ∃ X, X = w5.alloc (.cells #[.slice b5.pN nN b5.cN, .int .i64 q.wh, .slice b5.pB nB b5.cB, .slice b5.pS nS b5.cS, .slice b5.pO q.ords.length b5.cO, .int .i64 q.lim] 32) := ⟨_, rfl⟩
  have s5 := run_st32_new (w := w5) (v0 := .slice b5.pN nN b5.cN) (v1 := .int .i64 q.wh) (v2 := .slice b5.pB nB b5.cB) (v3 := .slice b5.pS nS b5.cS) (v4 := .slice b5.pO q.ords.length b5.cO) (v5 := .int .i64 q.lim) (fun u hu => by simp at hu; rcases hu with rfl | rfl | rfl | rfl | rfl | rfl <;> rfl)
  have M0 : Hid (Mo W X0 q a q b5 W.heap.size bp (.slice pl ln cl) ln (chkL q)) := by
    have hba : Below w5.heap.size w5 X0 := by rw [hX0]; exact Below.a1 w5 _
    have h4 : W.heap.size < w4.heap.size := (Array.getElem?_eq_some_iff.1 (unhide HQB4)).1
    have h5 : W.heap.size < w5.heap.size := Nat.lt_of_lt_of_le h4 ht5.bel.size
    refine ⟨(hba.block _ h5).trans ((ht5.bel.block _ h4).trans (unhide HQB4)), ?_, (ht5.up (unhide HBW4)).below hba, ((unhide HL4).up (unhide HBW3)).below (ht5.bel.trans (hba.mono ht5.bel.size)), by omega, by omega⟩
    rw [hX0, hbp, unhide HN, unhide HNB, unhide HNS]; exact heap_new _ _
  rw [hqv5]
  clear ht5 hqv5 d5 l5 HB1 Hb1 HLT HQB HBW HBW3 HBW4 HT3 HL4 HQB4
  go_upto_region 6 with fail
  rw [← hX0, ← hbp]
  clear hX0 s5 hbp
  -- no order, any limit
  have c4 := (unhide M0).cp 4
  have f4 := (unhide M0).fp 4
  have c4 : X0.cell? ⟨bp, 4, none⟩ = some (.slice b5.pO q.ords.length b5.cO) := c4
  obtain ⟨X1, hX1⟩ : ∃ X, X = X0.setCell ⟨bp, 4, none⟩ (.slice none 0 0) := ⟨_, rfl⟩
  have M1 := hide (unhide M0).set4
  rw [← hX1] at M1
  go_upto_region 7 with fail
  rw [← hX1]
  clear hX1 c4 f4
  by_cases hlim0 : limit ≥ -1
  · have c5 : X1.cell? ⟨bp, 5, none⟩ = some (.int .i64 q.lim) := (unhide M1).cp 5
    have f5 := (unhide M1).fp 5
    obtain ⟨X2, hX2⟩ : ∃ X, X = X1.setCell ⟨bp, 5, none⟩ (.int .i64 limit) := ⟨_, rfl⟩
    have M2 := hide ((unhide M1).set5 limit)
    rw [← hX2] at M2
    go_upto_region 9 with fail
    rw [← hX2]
    clear hX2 c5 f5
    obtain ⟨lim2, hl2⟩ : ∃ l, l = limit := ⟨_, rfl⟩
    have hlim : -1 ≤ lim2 := by omega
    rw [← hl2] at M2
    clear hl2 M1 M0 hlim0
    have dl := hide ((unhide M2).like (unhide HT) (unhide HQ) ((unhide M2).inq (unhide HQ).nn (unhide HQ).nb (unhide HQ).ns (Nat.zero_le _)) (more_one (unhide HOK) hlim))
    have lp := (unhide M2).ldp
    have lq := (unhide M2).ldq
    rw [← unhide HQQ] at dl lq
    obtain ⟨zp, hzp⟩ : ∃ v, v = qV ⟨q.nodes, q.wh, q.by', q.sh, [], lim2⟩ ⟨b5.pN, b5.cN, b5.pB, b5.cB, b5.pS, b5.cS, none, 0⟩ := ⟨_, rfl⟩
    rw [← hzp] at dl lp
    clear hzp
    go_upto_region 9 with fail
    go_wp2_with fail
    refine (unhide dl).mono ?_
    rintro e Y2 ⟨rfl, hw⟩
    have N2 := hide ((unhide M2).keep hw)
    clear hw dl lp lq
    have dt := hide ((unhide N2).twn (unhide HQ) (unhide HC))
    have lt := (unhide N2).ldq
    rw [← unhide HQQ] at dt lt
    go_upto_region 10 with fail
    go_wp2_with fail
    refine (unhide dt).mono ?_
    rintro e v3 ⟨b3, rfl, ht⟩
    obtain ⟨hst, hm⟩ := (unhide N2).twin ht
    obtain ⟨X3, hX3⟩ : ∃ X, X = v3.setCells bp 0 (qC q b3) := ⟨_, rfl⟩
    rw [← hX3] at hst hm
    have M3 := hide hm
    obtain ⟨z3, hz⟩ : ∃ v, v = qV q b3 := ⟨_, rfl⟩
    rw [← hz] at hst ⊢
    clear hz ht hm dt lt hX3
    go_upto_region 11 with fail
    clear hst
    have c1 : X3.cell? ⟨bp, 1, none⟩ = some (.int .i64 q.wh) := (unhide M3).cp 1
    have f1 := (unhide M3).fp 1
    obtain ⟨X4, hX4⟩ : ∃ X, X = X3.setCell ⟨bp, 1, none⟩ (.int .i64 (-1)) := ⟨_, rfl⟩
    have M4 := hide ((unhide M3).set1 (-1))
    rw [← hX4] at M4
    go_upto_region 12 with fail
    rw [← hX4]
    clear hX4 c1 f1
    have dl := hide ((unhide M4).like (unhide HT) (unhide HQ) ((unhide M4).inq (unhide HQ).nn (unhide HQ).nb (unhide HQ).ns (unhide HQ).no) (more_two (unhide HOK)))
    have lp := (unhide M4).ldp
    have lq := (unhide M4).ldq
    rw [← unhide HQQ] at dl lq
    obtain ⟨zp, hzp⟩ : ∃ v, v = qV ⟨q.nodes, -1, q.by', q.sh, q.ords, q.lim⟩ b3 := ⟨_, rfl⟩
    rw [← hzp] at dl lp
    clear hzp
    go_upto_region 12 with fail
    go_wp2_with fail
    refine (unhide dl).mono ?_
    rintro e Y4 ⟨rfl, hw⟩
    have N4 := hide ((unhide M4).keep hw)
    clear hw dl lp lq
    have dt := hide ((unhide N4).twn (unhide HQ) (unhide HC))
    have lt := (unhide N4).ldq
    rw [← unhide HQQ] at dt lt
    go_upto_region 13 with fail
    go_wp2_with fail
    refine (unhide dt).mono ?_
    rintro e v5 ⟨bb5, rfl, ht⟩
    obtain ⟨hst, hm⟩ := (unhide N4).twin ht
    obtain ⟨X5, hX5⟩ : ∃ X, X = v5.setCells bp 0 (qC q bb5) := ⟨_, rfl⟩
    rw [← hX5] at hst hm
    have M5 := hide hm
    obtain ⟨z5, hz⟩ : ∃ v, v = qV q bb5 := ⟨_, rfl⟩
    rw [← hz] at hst ⊢
    clear hz ht hm dt lt hX5
    go_upto_region 14 with fail
    clear hst
    have dF := hide (field_any ((unhide HT).below (unhide M5).bel).f by')
    obtain ⟨nm, hnm⟩ : ∃ v, v = (fldS by').1 := ⟨_, rfl⟩
    obtain ⟨tb, htb⟩ : ∃ v, v = (fldS by').2 := ⟨_, rfl⟩
    rw [← hnm, ← htb] at dF
    have HTB : Hid (fldT' by' = tb) := htb.symm
    clear hnm htb
    go_wp2_with fail
    refine (unhide dF).mono ?_
    rintro e v6 ⟨rfl, m6, hw⟩
    have M6 : Hid (Mo W v6 q a q bb5 W.heap.size bp (.slice pl ln cl) ln (chkL q)) := by rw [hw]; exact (unhide M5).keep (below_drewN (Below.refl _ _) _)
    clear hw dF
    obtain ⟨p7, c7, w7, r7, cc7, ff7, m7⟩ := (unhide M6).by (unhide HQ) (unhide HC) by'
    rw [← unhide HNB] at r7 cc7 m7
    have yb : ∀ o, (v6.alloc o).cell? ⟨W.heap.size, 2, none⟩ = some (.slice a.pB nB a.cB) := fun o => by rw [World.cell?_alloc_lt _ _ _ (unhide M6).ltq, (unhide M6).cq 2, unhide HNB]; rfl
    obtain ⟨X7, hX7⟩ : ∃ X, X = w7.setCell ⟨bp, 2, none⟩ (.slice p7 (1 + nB) c7) := ⟨_, rfl⟩
    rw [← hX7] at m7
    have M7 := hide m7
    have HR7 := hide r7
    clear r7 m7
    go_upto_region 16 with (at_builtin; refine wpList_append_run rfl _ _ 28 rfl _ _ _ _ rfl rfl (unhide HR7) ?_)
    rw [← hX7]
    clear hX7 cc7 ff7 yb HR7
    have dC := hide ((unhide M7).check (unhide HT) ((unhide M7).inq (unhide HQ).nn (by show (_ :: _).length ≤ _; have := (unhide HQ).nb; have := unhide HRB; simp only [List.length_cons]; omega) (unhide HQ).ns (unhide HQ).no))
    have lp := (unhide M7).ldp
    obtain ⟨zp, hzp⟩ : ∃ v, v = qV ⟨q.nodes, q.wh, by' :: q.by', q.sh, q.ords, q.lim⟩ ⟨bb5.pN, bb5.cN, p7, c7, bb5.pS, bb5.cS, bb5.pO, bb5.cO⟩ := ⟨_, rfl⟩
    rw [← hzp] at dC lp
    clear hzp
    obtain ⟨E7, hE7⟩ : ∃ v, v = chkE ⟨q.nodes, q.wh, by' :: q.by', q.sh, q.ords, q.lim⟩ := ⟨_, rfl⟩
    rw [← hE7] at dC
    have HE7 := hide hE7
    clear hE7
    go_wp2_with fail
    refine (unhide dC).mono ?_
    rintro e w8 ⟨p8, n8, c8, rfl, hr8⟩
    have HR8 := hide hr8
    have M8 := hide ((unhide M7).keep hr8.bel)
    clear hr8 dC lp
    by_cases hF : isF by' = true
    · have hE7 : E7 = 0 := by
        have h1 := (more_by (unhide HOK) by').1
        rw [hF] at h1
        exact (unhide HE7).trans (chk_ok h1).1
      have hL7 := (more_by (unhide HOK) by').2 hF
      have h8' := unhide HR8
      rw [hL7, unhide HTB] at h8'
      have hn8 : n8 = ln + 1 := by have h1 := h8'.len; rw [List.length_cons, (unhide M8).ll.len] at h1; exact h1.symm
      subst hn8
      obtain ⟨g8, hg8, _, _, _, _⟩ := h8'.start (by omega)
      have hc8 : ln + 1 ≤ c8 := by
        obtain ⟨_, _, e1, _, e3⟩ := row_slice h8'.row
        cases e1
        exact (e3 _ hg8).2.2.2
      subst hg8
      have hl8 := h8'.lies kI_ok
      have a0 : w8.cell? ⟨g8, 0, none⟩ = some (.int .i64 tb) := by
        obtain ⟨b', o', e', _, hr'⟩ := hl8.2 0 (by simp)
        cases e'
        have := hr' 0 (.int .i64 tb) rfl
        simpa using this
      have hpart := hl8.part 1 ln
      have ht0 : (tb == 0) = false := by
        have h1 := fldT_ne by'
        rw [hF, unhide HTB] at h1
        simpa using h1
      have ht1 : (tb != 0) = true := by simp only [bne, ht0]; rfl
      have ht2 : ¬ tb = 0 := by intro e; rw [e] at ht0; simp at ht0
      have hlen : (chkL q).length = ln := (unhide M8).ll.len
      have hpl : Lies kI w8 (some ⟨g8, 1, none⟩) (chkL q) := by
        have h1 := hpart
        rw [List.drop_succ_cons, List.drop_zero, List.take_of_length_le (by omega)] at h1
        exact h1
      have hln1 : 1 ≤ ln := by have := unhide HLN; omega
      have dS := hide (same_any (c1 := c8 - 1) (c2 := cl) hlen hlen hpl ((unhide M8).ll.lies kI_ok) (by have := unhide HLN; have := unhide HNB; have := unhide HNS; have := unhide HRB; have := unhide HRS; omega) (by have := unhide HLN; have := unhide HNB; have := unhide HNS; have := unhide HRB; have := unhide HRS; omega))
      rw [decide_eq_true rfl] at dS
      have hc81 : ¬ c8 = 1 := by omega
      have hc82 : (1 : Int) ≤ (c8 : Int) := by omega
      have hc83 : ¬ (c8 : Int) = 1 := by omega
      have hw1 : IntKind.i64.wrap ((ln : Int) + 1) = (ln : Int) + 1 := by rw [IntKind.wrap_i64]; have := unhide HLN; have := unhide HNB; have := unhide HNS; have := unhide HRB; have := unhide HRS; omega
      have h1ln : (1 : Int) ≤ (ln : Int) + 1 := by omega
      subst hE7
      clear hL7 h8' hl8 hpart hpl hlen HR8 hF
      go_upto_region 19 with (first | (go_at_call 17; refine (unhide dS).mono ?_; rintro e w9 ⟨rfl, hw⟩))
      have M9 := hide ((unhide M8).keep hw)
      clear hw dS hw1 hc81 hc82 hc83 ht0 ht1 ht2 a0 hc8 h1ln
      have dt := hide ((unhide M9).twn (unhide HQ) (unhide HC))
      have lt := (unhide M9).ldq
      rw [← unhide HQQ] at dt lt
      go_wp2_with fail
      refine (unhide dt).mono ?_
      rintro e v9 ⟨b9, rfl, ht⟩
      obtain ⟨hst, hm⟩ := (unhide M9).twin ht
      obtain ⟨X10, hX10⟩ : ∃ X, X = v9.setCells bp 0 (qC q b9) := ⟨_, rfl⟩
      rw [← hX10] at hst hm
      have M10 := hide hm
      obtain ⟨z9, hz⟩ : ∃ v, v = qV q b9 := ⟨_, rfl⟩
      rw [← hz] at hst ⊢
      clear hz ht hm dt lt hX10
      go_upto_region 20 with fail
      clear hst
      obtain ⟨⟨x1, x2⟩, RS, hsh⟩ : ∃ x R, q.sh = x :: R := by
        cases hq : q.sh with
        | nil => have h1 := hS0; rw [unhide HNS, hq] at h1; exact absurd h1 (by decide)
        | cons x R => exact ⟨x, R, rfl⟩
      obtain ⟨bS, oS, haS, hbS, hrS⟩ := (unhide HQ).s.2 0 (by rw [hsh]; simp)
      have hrS0 : W.cell? ⟨bS, oS, none⟩ = some (.int .i64 x1) := by have := hrS 0 (.int .i64 x1) (by simp [hsh, kG]); simpa using this
      have hrS1 : W.cell? ⟨bS, oS + 1, none⟩ = some (.int .i64 x2) := by have := hrS 1 (.int .i64 x2) (by simp [hsh, kG]); simpa using this
      have HS20 : Hid (∀ X, Below W.heap.size W X → X.heap[W.heap.size]? = some (.cells (qC q a).toArray 32 (0, 0)) → X.cell? ⟨bp, 3, none⟩ = some (.slice b9.pS nS b9.cS) → (fun X => X.cell? ⟨bp, 3, none⟩ = some (.slice b9.pS nS b9.cS) ∧ X.cell? ⟨W.heap.size, 3, none⟩ = some (.slice (some ⟨bS, oS, none⟩) nS a.cS) ∧ X.cell? ⟨bS, oS, none⟩ = some (.int .i64 x1) ∧ X.cell? ⟨bS, oS + 1, none⟩ = some (.int .i64 x2)) X) := fun X h1 h2 h3 => ⟨h3, by rw [cell_at h2, ← haS, unhide HNS]; rfl, (h1.cell (p := ⟨bS, oS, none⟩) hbS).trans hrS0, (h1.cell (p := ⟨bS, oS + 1, none⟩) hbS).trans hrS1⟩
      have hmem : (x1, x2) ∈ q.sh := by rw [hsh]; simp
      have HSH := hide hsh; have HMEM := hide hmem
      have M10d := hide ((unhide M10).keep (Below.refl _ X10).drew)
      obtain ⟨p11, c11, w11, r11, hw11, cc11, ff11, m11⟩ := (unhide M10d).sh (unhide HQ) (x1, x2)
      rw [← unhide HNS] at r11 cc11 m11
      have c3 : X10.drew.cell? ⟨bp, 3, none⟩ = some (.slice b9.pS nS b9.cS) := by rw [(unhide M10d).cp 3, unhide HNS]; rfl
      have c3a : (X10.drew.alloc (.cells #[.int .i64 x1, .int .i64 x2] 45)).cell? ⟨bp, 3, none⟩ = some (.slice b9.pS nS b9.cS) := by rw [World.cell?_alloc_lt _ _ _ (unhide M10d).ltp]; exact c3
      have SA := hide (unhide HS20 _ (unhide M10d).bel (unhide M10d).qb c3)
      have SB := hide (unhide HS20 _ ((unhide M10d).bel.alloc (unhide M10d).bel.size _) ((Below.heap_alloc _ _ _ (unhide M10d).ltq).trans (unhide M10d).qb) c3a)
      have SC := hide (unhide HS20 _ hw11.1 hw11.2 cc11)
      obtain ⟨X12, hX12⟩ : ∃ X, X = w11.setCell ⟨bp, 3, none⟩ (.slice p11 (nS + 1) c11) := ⟨_, rfl⟩
      rw [← hX12] at m11
      have M12 := hide m11
      have r11' : (Builtin.append_ #[29, 29] 29 #[.slice b9.pS nS b9.cS, .slice (some ⟨X10.drew.heap.size, 0, none⟩) 1 1]).run Tryd.prog (X10.drew.alloc (.cells #[.int .i64 x1, .int .i64 x2] 45)) = .ok (.slice p11 (nS + 1) c11) w11 := r11
      have HR11 := hide r11'
      have hS0' : (0 : Int) < (nS : Int) := by omega
      clear r11 r11' m11 hsh hmem hrS haS hbS hrS0 hrS1 c3a c3 hw11
      refine wp_region_last (n := 8) (S := (fun X => X.cell? ⟨bp, 3, none⟩ = some (.slice b9.pS nS b9.cS) ∧ X.cell? ⟨W.heap.size, 3, none⟩ = some (.slice (some ⟨bS, oS, none⟩) nS a.cS) ∧ X.cell? ⟨bS, oS, none⟩ = some (.int .i64 x1) ∧ X.cell? ⟨bS, oS + 1, none⟩ = some (.int .i64 x2))) (by kernel_rfl) (unhide SA) (fun hHeld => ?_)
      refine tkW 0 ?_; refine tkS 1 ?_; refine tkW 2 ?_; refine tkS 3 ?_; refine tkW 4 ?_; refine tkS 5 ?_
      refine wpAnyL_one (i := 6) (by kernel_rfl) rfl (fun KK hK => ?_)
      go_simp
      refine hK.out _ _ (unhide SB) (fun hHeld => ?_)
      clear hK KK
      refine wpAnyL_one (i := 7) (by kernel_rfl) rfl (fun KK hK => ?_)
      refine step_append_run _ (by rfl) _ _ _ (by rfl) _ _ _ _ (by rfl) (by rfl) (unhide HR11) ?_
      simp only [Act.put, List.setIfInBounds_toArray]
      refine hK.out _ _ (unhide SC) (fun hHeld => ?_)
      clear hK KK
      refine wpAnyL_past (i := 8) (by kernel_rfl) rfl (by kernel_rfl) (fun KK hK => ?_)
      go_simp
      refine hK.out _ _ ?_
      clear hK KK
      refine wpAnyL_past (i := 9) (by kernel_rfl) rfl (by kernel_rfl) (fun KK hK => ?_)
      go_simp
      rw [← hX12]
      refine hK.out _ _ ?_
      clear hK KK
      refine wpAnyL_done (by kernel_rfl) ?_
      clear hHeld SA SB SC HS20 HR11 cc11 ff11 hX12
      have dC := hide ((unhide M12).check (unhide HT) ((unhide M12).inq (unhide HQ).nn (unhide HQ).nb (by show List.length (q.sh ++ [(x1, x2)]) ≤ _; have := unhide HRS; simp only [List.length_append, List.length_cons, List.length_nil]; omega) (unhide HQ).no))
      have lp := (unhide M12).ldp
      obtain ⟨zp, hzp⟩ : ∃ v, v = qV ⟨q.nodes, q.wh, q.by', q.sh ++ [(x1, x2)], q.ords, q.lim⟩ ⟨b9.pN, b9.cN, b9.pB, b9.cB, p11, c11, b9.pO, b9.cO⟩ := ⟨_, rfl⟩
      rw [← hzp] at dC lp
      clear hzp
      rw [(chk_ok (more_show (unhide HOK) (unhide HMEM)).1).1, (more_show (unhide HOK) (unhide HMEM)).2] at dC
      go_wp2_with fail
      refine (unhide dC).mono ?_
      rintro e w13 ⟨p13, n13, c13, rfl, hr13⟩
      have M13 := hide ((unhide M12).keep hr13.bel)
      have hn13 : n13 = ln + 1 := by have h1 := hr13.len; rw [List.length_append, (unhide M13).ll.len] at h1; exact h1.symm
      subst hn13
      obtain ⟨g13, hg13, _, _, _, _⟩ := hr13.start (by omega)
      have hc13 : ln + 1 ≤ c13 := by
        obtain ⟨_, _, e1, _, e3⟩ := row_slice hr13.row
        cases e1
        exact (e3 _ hg13).2.2.2
      subst hg13
      obtain ⟨gl, hgl, _, hglt, _, _⟩ := (unhide M13).ll.start (by omega)
      have hl13 := hr13.lies kI_ok
      have hlen : (chkL q).length = ln := (unhide M13).ll.len
      have hg13lt : g13 < w13.heap.size := (row_block hr13.row rfl).2.1
      obtain ⟨cx, hcx⟩ : ∃ v, v = colT (tyL q.nodes) (x1, x2) := ⟨_, rfl⟩
      have hcf := col_first (unhide HOK) (unhide HSH)
      rw [← hcx] at hcf hl13
      have hpl13 : Lies kI w13 (some ⟨g13, 0, none⟩) (chkL q) := by
        have h1 := hl13.part 0 ln
        rw [List.drop_zero, List.take_append_of_le_length (by omega), List.take_of_length_le (by omega)] at h1
        simpa using h1
      have hnBl : nB < ln := by have := unhide HLN; omega
      have A13 : Hid (∀ P : Bel w13, P.W.cell? ⟨g13, ln, none⟩ = some (.int .i64 cx)) := fun P => by
        obtain ⟨b', o', e', _, hr'⟩ := hl13.2 ln (by rw [List.length_append, hlen]; simp)
        cases e'
        have h1 := hr' 0 (.int .i64 cx) (by rw [List.getElem_append_right (by omega)]; simp [kI])
        have h2 := (P.h.cell (p := ⟨g13, ln, none⟩) hg13lt)
        rw [h2]
        simpa [kI] using h1
      have hll := (unhide M13).ll.lies kI_ok
      rw [hgl] at hll
      have L13 : Hid (∀ P : Bel w13, P.W.cell? ⟨gl, nB, none⟩ = some (.int .i64 cx)) := fun P => by
        have hk : nB < (chkL q).length := by omega
        obtain ⟨b', o', e', _, hr'⟩ := hll.2 nB hk
        cases e'
        have h1 := hr' 0 (.int .i64 cx) (by
          rw [← unhide HNB, List.getElem?_eq_getElem hk] at hcf
          rw [Option.some.inj hcf]; rfl)
        have h2 := (P.h.cell (p := ⟨gl, nB, none⟩) hglt)
        rw [h2]
        simpa [kI] using h1
      have Q13 : Hid (∀ P : Bel w13, P.W.cell? ⟨W.heap.size, 2, none⟩ = some (.slice a.pB nB a.cB)) := fun P => by
        rw [P.h.cell (p := ⟨W.heap.size, 2, none⟩) (unhide M13).ltq, (unhide M13).cq 2, unhide HNB]; rfl
      have S13 : Hid (∀ P : Bel w13, Calls Tryd.prog 17 #[.slice (some ⟨g13, 0, none⟩) ln c13, .slice (some ⟨gl, 0, none⟩) ln cl] P.W fun e w' => e = .returned (.bool true) ∧ ∃ q' : Bel w13, w' = q'.W) := fun P => P.calls (by
        have h1 := same_any (c1 := c13) (c2 := cl) hlen hlen (hpl13.below P.h) (hll.below P.h) (by have := unhide HLN; have := unhide HNB; have := unhide HNS; have := unhide HRB; have := unhide HRS; omega) (by have := unhide HLN; have := unhide HNB; have := unhide HNS; have := unhide HRB; have := unhide HRS; omega)
        rw [decide_eq_true rfl] at h1
        exact h1)
      have a13 := unhide A13; have l13 := unhide L13; have q13 := unhide Q13
      have hw1 : IntKind.i64.wrap ((ln : Int) + 1) = (ln : Int) + 1 := by rw [IntKind.wrap_i64]; have := unhide HLN; have := unhide HNB; have := unhide HNS; have := unhide HRB; have := unhide HRS; omega
      have k1 : (ln : Int) < (ln : Int) + 1 := by omega
      have k2 : (nB : Int) < (ln : Int) := by omega
      have k3 : (ln : Int) ≤ (c13 : Int) := by omega
      have k4 : ¬ (c13 : Int) < (ln : Int) := by omega
      have k5 : ln ≤ c13 := by omega
      have k6 : (cx != cx) = false := by simp
      have k7 : (((ln : Int) + 1) != ((ln : Int) + 1)) = false := by simp
      have HGL := hide hgl
      rw [hgl]
      clear hr13 hl13 hpl13 hll hcf hcx hgl hlen dC lp A13 L13 Q13
      go_upto_region 22 with fail
      refine wp_region_quiet_below (by kernel_rfl) (by kernel_rfl) ?_
      repeat (go_big_quiet_step (first | (go_at_call 17; refine unhide S13 _)))
      refine wpQuiet_nil ?_
      rintro _ ⟨P, rfl⟩
      have M14 := hide ((unhide M13).keep P.h)
      obtain ⟨X14, hX14⟩ : ∃ X, X = P.W := ⟨_, rfl⟩
      rw [← hX14] at M14 ⊢
      clear hX14 a13 l13 q13 S13 hw1 k1 k2 k3 k4 k5 k6 k7 P
      have wc : X14.cell? ⟨W.heap.size, 1, none⟩ = some (.int .i64 q.wh) := (unhide M14).cq 1
      by_cases hwn : q.wh < 0
      · go_wp2_with fail
        go_ret
        exact ⟨rfl, (unhide M14).bel⟩
      have hw0 : 0 ≤ q.wh := by omega
      have dt := hide ((unhide M14).twn (unhide HQ) (unhide HC))
      have lt := (unhide M14).ldq
      rw [← unhide HQQ] at dt lt
      go_upto_region 26 with fail
      go_wp2_with fail
      refine (unhide dt).mono ?_
      rintro e v15 ⟨b15, rfl, ht⟩
      obtain ⟨hst, hm⟩ := (unhide M14).twin ht
      obtain ⟨X15, hX15⟩ : ∃ X, X = v15.setCells bp 0 (qC q b15) := ⟨_, rfl⟩
      rw [← hX15] at hst hm
      have M15 := hide hm
      obtain ⟨z15, hz⟩ : ∃ v, v = qV q b15 := ⟨_, rfl⟩
      rw [← hz] at hst ⊢
      clear hz ht hm dt lt hX15
      go_upto_region 27 with fail
      clear hst
      have hwc : X15.cell? ⟨W.heap.size, 1, none⟩ = some (.int .i64 q.wh) := (unhide M15).cq 1
      have hnc : X15.cell? ⟨W.heap.size, 0, none⟩ = some (.slice a.pN nN a.cN) := by rw [(unhide M15).cq 0, unhide HN]; rfl
      have hpc : X15.cell? ⟨bp, 0, none⟩ = some (.slice b15.pN nN b15.cN) := by rw [(unhide M15).cp 0, unhide HN]; rfl
      obtain ⟨p16, c16, w16, r16, cc16, ff16, m16⟩ := (unhide M15).nds (unhide HQ) (ndNot q.wh) (ndAnd q.wh q.nodes.length)
      rw [← unhide HN] at r16 cc16 m16
      have r16' : (Builtin.append_ #[27, 27] 27 #[.slice b15.pN nN b15.cN, .slice (some ⟨X15.heap.size, 0, none⟩) 2 2]).run Tryd.prog (X15.alloc (.cells #[.int .i64 3, .int .i64 q.wh, .int .i64 (-1), .int .i64 0, .int .i64 0, .string ⟨#[]⟩, .int .i64 2, .int .i64 q.wh, .int .i64 nN, .int .i64 0, .int .i64 0, .string ⟨#[]⟩] 37)) = .ok (.slice p16 (nN + 2) c16) w16 := r16
      have HR16 := hide r16'
      obtain ⟨X16, hX16⟩ : ∃ X, X = w16.setCell ⟨bp, 0, none⟩ (.slice p16 (nN + 2) c16) := ⟨_, rfl⟩
      rw [← hX16] at m16
      have M16 := hide m16
      clear r16 r16' m16 wc
      go_upto_region 28 with (at_builtin; refine wpList_append_run rfl _ _ 27 rfl _ _ _ _ rfl rfl (unhide HR16) ?_)
      rw [← hX16]
      clear hX16 cc16 ff16 HR16 hwc hnc hpc
      have hnc : X16.cell? ⟨W.heap.size, 0, none⟩ = some (.slice a.pN nN a.cN) := by rw [(unhide M16).cq 0, unhide HN]; rfl
      have hpc : X16.cell? ⟨bp, 1, none⟩ = some (.int .i64 q.wh) := (unhide M16).cp 1
      have hpf := (unhide M16).fp 1
      have hwn1 : IntKind.i64.wrap ((nN : Int) + 1) = (nN : Int) + 1 := by rw [IntKind.wrap_i64]; have := unhide HRN; have := unhide HN; omega
      obtain ⟨X17, hX17⟩ : ∃ X, X = X16.setCell ⟨bp, 1, none⟩ (.int .i64 ((nN : Int) + 1)) := ⟨_, rfl⟩
      have M17 := hide ((unhide M16).set1 ((nN : Int) + 1))
      rw [← hX17] at M17
      go_upto_region 29 with fail
      rw [← hX17]
      clear hX17 hnc hpc hpf
      have hml : likS ⟨q.nodes ++ [ndNot q.wh, ndAnd q.wh nN], (nN : Int) + 1, q.by', q.sh, q.ords, q.lim⟩ q = true := by rw [unhide HN]; exact more_not (unhide HOK) hw0
      have dl := hide ((unhide M17).like (unhide HT) (unhide HQ) ((unhide M17).inq (by show List.length (q.nodes ++ [ndNot q.wh, ndAnd q.wh nN]) ≤ _; have := unhide HRN; simp only [List.length_append, List.length_cons, List.length_nil]; omega) (unhide HQ).nb (unhide HQ).ns (unhide HQ).no) hml)
      have lp := (unhide M17).ldp
      have lq := (unhide M17).ldq
      rw [← unhide HQQ] at dl lq
      obtain ⟨zp, hzp⟩ : ∃ v, v = qV ⟨q.nodes ++ [ndNot q.wh, ndAnd q.wh nN], (nN : Int) + 1, q.by', q.sh, q.ords, q.lim⟩ ⟨p16, c16, b15.pB, b15.cB, b15.pS, b15.cS, b15.pO, b15.cO⟩ := ⟨_, rfl⟩
      rw [← hzp] at dl lp
      clear hzp hml
      go_wp2_with fail
      refine (unhide dl).mono ?_
      rintro e Y17 ⟨rfl, hw⟩
      have N17 := hide ((unhide M17).keep hw)
      clear hw dl lp lq
      go_wp2_with fail
      go_ret
      exact ⟨rfl, (unhide N17).bel⟩
    · have hF' : isF by' = false := by simpa using hF
      have hE7 : E7 = 140 := by
        have h1 := (more_by (unhide HOK) by').1
        rw [hF'] at h1
        exact (unhide HE7).trans (chk_bad h1).1
      have ht0 : tb = 0 := by
        have h1 := fldT_ne by'
        rw [hF', unhide HTB] at h1
        simpa using h1
      obtain ⟨w9, hw9⟩ : ∃ w, w = w8 := ⟨_, rfl⟩
      have M9 := M8
      rw [← hw9] at M9 ⊢
      subst hE7 ht0
      clear hw9 HR8 hF hF' HTB
      have hln1 : 1 ≤ ln := by have := unhide HLN; omega
      go_upto_region 19 with fail
      have dt := hide ((unhide M9).twn (unhide HQ) (unhide HC))
      have lt := (unhide M9).ldq
      rw [← unhide HQQ] at dt lt
      go_wp2_with fail
      refine (unhide dt).mono ?_
      rintro e v9 ⟨b9, rfl, ht⟩
      obtain ⟨hst, hm⟩ := (unhide M9).twin ht
      obtain ⟨X10, hX10⟩ : ∃ X, X = v9.setCells bp 0 (qC q b9) := ⟨_, rfl⟩
      rw [← hX10] at hst hm
      have M10 := hide hm
      obtain ⟨z9, hz⟩ : ∃ v, v = qV q b9 := ⟨_, rfl⟩
      rw [← hz] at hst ⊢
      clear hz ht hm dt lt hX10
      go_upto_region 20 with fail
      clear hst
      obtain ⟨⟨x1, x2⟩, RS, hsh⟩ : ∃ x R, q.sh = x :: R := by
        cases hq : q.sh with
        | nil => have h1 := hS0; rw [unhide HNS, hq] at h1; exact absurd h1 (by decide)
        | cons x R => exact ⟨x, R, rfl⟩
      obtain ⟨bS, oS, haS, hbS, hrS⟩ := (unhide HQ).s.2 0 (by rw [hsh]; simp)
      have hrS0 : W.cell? ⟨bS, oS, none⟩ = some (.int .i64 x1) := by have := hrS 0 (.int .i64 x1) (by simp [hsh, kG]); simpa using this
      have hrS1 : W.cell? ⟨bS, oS + 1, none⟩ = some (.int .i64 x2) := by have := hrS 1 (.int .i64 x2) (by simp [hsh, kG]); simpa using this
      have HS20 : Hid (∀ X, Below W.heap.size W X → X.heap[W.heap.size]? = some (.cells (qC q a).toArray 32 (0, 0)) → X.cell? ⟨bp, 3, none⟩ = some (.slice b9.pS nS b9.cS) → (fun X => X.cell? ⟨bp, 3, none⟩ = some (.slice b9.pS nS b9.cS) ∧ X.cell? ⟨W.heap.size, 3, none⟩ = some (.slice (some ⟨bS, oS, none⟩) nS a.cS) ∧ X.cell? ⟨bS, oS, none⟩ = some (.int .i64 x1) ∧ X.cell? ⟨bS, oS + 1, none⟩ = some (.int .i64 x2)) X) := fun X h1 h2 h3 => ⟨h3, by rw [cell_at h2, ← haS, unhide HNS]; rfl, (h1.cell (p := ⟨bS, oS, none⟩) hbS).trans hrS0, (h1.cell (p := ⟨bS, oS + 1, none⟩) hbS).trans hrS1⟩
      have hmem : (x1, x2) ∈ q.sh := by rw [hsh]; simp
      have HSH := hide hsh; have HMEM := hide hmem
      have M10d := hide ((unhide M10).keep (Below.refl _ X10).drew)
      obtain ⟨p11, c11, w11, r11, hw11, cc11, ff11, m11⟩ := (unhide M10d).sh (unhide HQ) (x1, x2)
      rw [← unhide HNS] at r11 cc11 m11
      have c3 : X10.drew.cell? ⟨bp, 3, none⟩ = some (.slice b9.pS nS b9.cS) := by rw [(unhide M10d).cp 3, unhide HNS]; rfl
      have c3a : (X10.drew.alloc (.cells #[.int .i64 x1, .int .i64 x2] 45)).cell? ⟨bp, 3, none⟩ = some (.slice b9.pS nS b9.cS) := by rw [World.cell?_alloc_lt _ _ _ (unhide M10d).ltp]; exact c3
      have SA := hide (unhide HS20 _ (unhide M10d).bel (unhide M10d).qb c3)
      have SB := hide (unhide HS20 _ ((unhide M10d).bel.alloc (unhide M10d).bel.size _) ((Below.heap_alloc _ _ _ (unhide M10d).ltq).trans (unhide M10d).qb) c3a)
      have SC := hide (unhide HS20 _ hw11.1 hw11.2 cc11)
      obtain ⟨X12, hX12⟩ : ∃ X, X = w11.setCell ⟨bp, 3, none⟩ (.slice p11 (nS + 1) c11) := ⟨_, rfl⟩
      rw [← hX12] at m11
      have M12 := hide m11
      have r11' : (Builtin.append_ #[29, 29] 29 #[.slice b9.pS nS b9.cS, .slice (some ⟨X10.drew.heap.size, 0, none⟩) 1 1]).run Tryd.prog (X10.drew.alloc (.cells #[.int .i64 x1, .int .i64 x2] 45)) = .ok (.slice p11 (nS + 1) c11) w11 := r11
      have HR11 := hide r11'
      have hS0' : (0 : Int) < (nS : Int) := by omega
      clear r11 r11' m11 hsh hmem hrS haS hbS hrS0 hrS1 c3a c3 hw11
      refine wp_region_last (n := 8) (S := (fun X => X.cell? ⟨bp, 3, none⟩ = some (.slice b9.pS nS b9.cS) ∧ X.cell? ⟨W.heap.size, 3, none⟩ = some (.slice (some ⟨bS, oS, none⟩) nS a.cS) ∧ X.cell? ⟨bS, oS, none⟩ = some (.int .i64 x1) ∧ X.cell? ⟨bS, oS + 1, none⟩ = some (.int .i64 x2))) (by kernel_rfl) (unhide SA) (fun hHeld => ?_)
      refine tkW 0 ?_; refine tkS 1 ?_; refine tkW 2 ?_; refine tkS 3 ?_; refine tkW 4 ?_; refine tkS 5 ?_
      refine wpAnyL_one (i := 6) (by kernel_rfl) rfl (fun KK hK => ?_)
      go_simp
      refine hK.out _ _ (unhide SB) (fun hHeld => ?_)
      clear hK KK
      refine wpAnyL_one (i := 7) (by kernel_rfl) rfl (fun KK hK => ?_)
      refine step_append_run _ (by rfl) _ _ _ (by rfl) _ _ _ _ (by rfl) (by rfl) (unhide HR11) ?_
      simp only [Act.put, List.setIfInBounds_toArray]
      refine hK.out _ _ (unhide SC) (fun hHeld => ?_)
      clear hK KK
      refine wpAnyL_past (i := 8) (by kernel_rfl) rfl (by kernel_rfl) (fun KK hK => ?_)
      go_simp
      refine hK.out _ _ ?_
      clear hK KK
      refine wpAnyL_past (i := 9) (by kernel_rfl) rfl (by kernel_rfl) (fun KK hK => ?_)
      go_simp
      rw [← hX12]
      refine hK.out _ _ ?_
      clear hK KK
      refine wpAnyL_done (by kernel_rfl) ?_
      clear hHeld SA SB SC HS20 HR11 cc11 ff11 hX12
      have dC := hide ((unhide M12).check (unhide HT) ((unhide M12).inq (unhide HQ).nn (unhide HQ).nb (by show List.length (q.sh ++ [(x1, x2)]) ≤ _; have := unhide HRS; simp only [List.length_append, List.length_cons, List.length_nil]; omega) (unhide HQ).no))
      have lp := (unhide M12).ldp
      obtain ⟨zp, hzp⟩ : ∃ v, v = qV ⟨q.nodes, q.wh, q.by', q.sh ++ [(x1, x2)], q.ords, q.lim⟩ ⟨b9.pN, b9.cN, b9.pB, b9.cB, p11, c11, b9.pO, b9.cO⟩ := ⟨_, rfl⟩
      rw [← hzp] at dC lp
      clear hzp
      rw [(chk_ok (more_show (unhide HOK) (unhide HMEM)).1).1, (more_show (unhide HOK) (unhide HMEM)).2] at dC
      go_wp2_with fail
      refine (unhide dC).mono ?_
      rintro e w13 ⟨p13, n13, c13, rfl, hr13⟩
      have M13 := hide ((unhide M12).keep hr13.bel)
      have hn13 : n13 = ln + 1 := by have h1 := hr13.len; rw [List.length_append, (unhide M13).ll.len] at h1; exact h1.symm
      subst hn13
      obtain ⟨g13, hg13, _, _, _, _⟩ := hr13.start (by omega)
      have hc13 : ln + 1 ≤ c13 := by
        obtain ⟨_, _, e1, _, e3⟩ := row_slice hr13.row
        cases e1
        exact (e3 _ hg13).2.2.2
      subst hg13
      obtain ⟨gl, hgl, _, hglt, _, _⟩ := (unhide M13).ll.start (by omega)
      have hl13 := hr13.lies kI_ok
      have hlen : (chkL q).length = ln := (unhide M13).ll.len
      have hg13lt : g13 < w13.heap.size := (row_block hr13.row rfl).2.1
      obtain ⟨cx, hcx⟩ : ∃ v, v = colT (tyL q.nodes) (x1, x2) := ⟨_, rfl⟩
      have hcf := col_first (unhide HOK) (unhide HSH)
      rw [← hcx] at hcf hl13
      have hpl13 : Lies kI w13 (some ⟨g13, 0, none⟩) (chkL q) := by
        have h1 := hl13.part 0 ln
        rw [List.drop_zero, List.take_append_of_le_length (by omega), List.take_of_length_le (by omega)] at h1
        simpa using h1
      have hnBl : nB < ln := by have := unhide HLN; omega
      have A13 : Hid (∀ P : Bel w13, P.W.cell? ⟨g13, ln, none⟩ = some (.int .i64 cx)) := fun P => by
        obtain ⟨b', o', e', _, hr'⟩ := hl13.2 ln (by rw [List.length_append, hlen]; simp)
        cases e'
        have h1 := hr' 0 (.int .i64 cx) (by rw [List.getElem_append_right (by omega)]; simp [kI])
        have h2 := (P.h.cell (p := ⟨g13, ln, none⟩) hg13lt)
        rw [h2]
        simpa [kI] using h1
      have hll := (unhide M13).ll.lies kI_ok
      rw [hgl] at hll
      have L13 : Hid (∀ P : Bel w13, P.W.cell? ⟨gl, nB, none⟩ = some (.int .i64 cx)) := fun P => by
        have hk : nB < (chkL q).length := by omega
        obtain ⟨b', o', e', _, hr'⟩ := hll.2 nB hk
        cases e'
        have h1 := hr' 0 (.int .i64 cx) (by
          rw [← unhide HNB, List.getElem?_eq_getElem hk] at hcf
          rw [Option.some.inj hcf]; rfl)
        have h2 := (P.h.cell (p := ⟨gl, nB, none⟩) hglt)
        rw [h2]
        simpa [kI] using h1
      have Q13 : Hid (∀ P : Bel w13, P.W.cell? ⟨W.heap.size, 2, none⟩ = some (.slice a.pB nB a.cB)) := fun P => by
        rw [P.h.cell (p := ⟨W.heap.size, 2, none⟩) (unhide M13).ltq, (unhide M13).cq 2, unhide HNB]; rfl
      have S13 : Hid (∀ P : Bel w13, Calls Tryd.prog 17 #[.slice (some ⟨g13, 0, none⟩) ln c13, .slice (some ⟨gl, 0, none⟩) ln cl] P.W fun e w' => e = .returned (.bool true) ∧ ∃ q' : Bel w13, w' = q'.W) := fun P => P.calls (by
        have h1 := same_any (c1 := c13) (c2 := cl) hlen hlen (hpl13.below P.h) (hll.below P.h) (by have := unhide HLN; have := unhide HNB; have := unhide HNS; have := unhide HRB; have := unhide HRS; omega) (by have := unhide HLN; have := unhide HNB; have := unhide HNS; have := unhide HRB; have := unhide HRS; omega)
        rw [decide_eq_true rfl] at h1
        exact h1)
      have a13 := unhide A13; have l13 := unhide L13; have q13 := unhide Q13
      have hw1 : IntKind.i64.wrap ((ln : Int) + 1) = (ln : Int) + 1 := by rw [IntKind.wrap_i64]; have := unhide HLN; have := unhide HNB; have := unhide HNS; have := unhide HRB; have := unhide HRS; omega
      have k1 : (ln : Int) < (ln : Int) + 1 := by omega
      have k2 : (nB : Int) < (ln : Int) := by omega
      have k3 : (ln : Int) ≤ (c13 : Int) := by omega
      have k4 : ¬ (c13 : Int) < (ln : Int) := by omega
      have k5 : ln ≤ c13 := by omega
      have k6 : (cx != cx) = false := by simp
      have k7 : (((ln : Int) + 1) != ((ln : Int) + 1)) = false := by simp
      have HGL := hide hgl
      rw [hgl]
      clear hr13 hl13 hpl13 hll hcf hcx hgl hlen dC lp A13 L13 Q13
      go_upto_region 22 with fail
      refine wp_region_quiet_below (by kernel_rfl) (by kernel_rfl) ?_
      repeat (go_big_quiet_step (first | (go_at_call 17; refine unhide S13 _)))
      refine wpQuiet_nil ?_
      rintro _ ⟨P, rfl⟩
      have M14 := hide ((unhide M13).keep P.h)
      obtain ⟨X14, hX14⟩ : ∃ X, X = P.W := ⟨_, rfl⟩
      rw [← hX14] at M14 ⊢
      clear hX14 a13 l13 q13 S13 hw1 k1 k2 k3 k4 k5 k6 k7 P
      have wc : X14.cell? ⟨W.heap.size, 1, none⟩ = some (.int .i64 q.wh) := (unhide M14).cq 1
      by_cases hwn : q.wh < 0
      · go_wp2_with fail
        go_ret
        exact ⟨rfl, (unhide M14).bel⟩
      have hw0 : 0 ≤ q.wh := by omega
      have dt := hide ((unhide M14).twn (unhide HQ) (unhide HC))
      have lt := (unhide M14).ldq
      rw [← unhide HQQ] at dt lt
      go_upto_region 26 with fail
      go_wp2_with fail
      refine (unhide dt).mono ?_
      rintro e v15 ⟨b15, rfl, ht⟩
      obtain ⟨hst, hm⟩ := (unhide M14).twin ht
      obtain ⟨X15, hX15⟩ : ∃ X, X = v15.setCells bp 0 (qC q b15) := ⟨_, rfl⟩
      rw [← hX15] at hst hm
      have M15 := hide hm
      obtain ⟨z15, hz⟩ : ∃ v, v = qV q b15 := ⟨_, rfl⟩
      rw [← hz] at hst ⊢
      clear hz ht hm dt lt hX15
      go_upto_region 27 with fail
      clear hst
      have hwc : X15.cell? ⟨W.heap.size, 1, none⟩ = some (.int .i64 q.wh) := (unhide M15).cq 1
      have hnc : X15.cell? ⟨W.heap.size, 0, none⟩ = some (.slice a.pN nN a.cN) := by rw [(unhide M15).cq 0, unhide HN]; rfl
      have hpc : X15.cell? ⟨bp, 0, none⟩ = some (.slice b15.pN nN b15.cN) := by rw [(unhide M15).cp 0, unhide HN]; rfl
      obtain ⟨p16, c16, w16, r16, cc16, ff16, m16⟩ := (unhide M15).nds (unhide HQ) (ndNot q.wh) (ndAnd q.wh q.nodes.length)
      rw [← unhide HN] at r16 cc16 m16
      have r16' : (Builtin.append_ #[27, 27] 27 #[.slice b15.pN nN b15.cN, .slice (some ⟨X15.heap.size, 0, none⟩) 2 2]).run Tryd.prog (X15.alloc (.cells #[.int .i64 3, .int .i64 q.wh, .int .i64 (-1), .int .i64 0, .int .i64 0, .string ⟨#[]⟩, .int .i64 2, .int .i64 q.wh, .int .i64 nN, .int .i64 0, .int .i64 0, .string ⟨#[]⟩] 37)) = .ok (.slice p16 (nN + 2) c16) w16 := r16
      have HR16 := hide r16'
      obtain ⟨X16, hX16⟩ : ∃ X, X = w16.setCell ⟨bp, 0, none⟩ (.slice p16 (nN + 2) c16) := ⟨_, rfl⟩
      rw [← hX16] at m16
      have M16 := hide m16
      clear r16 r16' m16 wc
      go_upto_region 28 with (at_builtin; refine wpList_append_run rfl _ _ 27 rfl _ _ _ _ rfl rfl (unhide HR16) ?_)
      rw [← hX16]
      clear hX16 cc16 ff16 HR16 hwc hnc hpc
      have hnc : X16.cell? ⟨W.heap.size, 0, none⟩ = some (.slice a.pN nN a.cN) := by rw [(unhide M16).cq 0, unhide HN]; rfl
      have hpc : X16.cell? ⟨bp, 1, none⟩ = some (.int .i64 q.wh) := (unhide M16).cp 1
      have hpf := (unhide M16).fp 1
      have hwn1 : IntKind.i64.wrap ((nN : Int) + 1) = (nN : Int) + 1 := by rw [IntKind.wrap_i64]; have := unhide HRN; have := unhide HN; omega
      obtain ⟨X17, hX17⟩ : ∃ X, X = X16.setCell ⟨bp, 1, none⟩ (.int .i64 ((nN : Int) + 1)) := ⟨_, rfl⟩
      have M17 := hide ((unhide M16).set1 ((nN : Int) + 1))
      rw [← hX17] at M17
      go_upto_region 29 with fail
      rw [← hX17]
      clear hX17 hnc hpc hpf
      have hml : likS ⟨q.nodes ++ [ndNot q.wh, ndAnd q.wh nN], (nN : Int) + 1, q.by', q.sh, q.ords, q.lim⟩ q = true := by rw [unhide HN]; exact more_not (unhide HOK) hw0
      have dl := hide ((unhide M17).like (unhide HT) (unhide HQ) ((unhide M17).inq (by show List.length (q.nodes ++ [ndNot q.wh, ndAnd q.wh nN]) ≤ _; have := unhide HRN; simp only [List.length_append, List.length_cons, List.length_nil]; omega) (unhide HQ).nb (unhide HQ).ns (unhide HQ).no) hml)
      have lp := (unhide M17).ldp
      have lq := (unhide M17).ldq
      rw [← unhide HQQ] at dl lq
      obtain ⟨zp, hzp⟩ : ∃ v, v = qV ⟨q.nodes ++ [ndNot q.wh, ndAnd q.wh nN], (nN : Int) + 1, q.by', q.sh, q.ords, q.lim⟩ ⟨p16, c16, b15.pB, b15.cB, b15.pS, b15.cS, b15.pO, b15.cO⟩ := ⟨_, rfl⟩
      rw [← hzp] at dl lp
      clear hzp hml
      go_wp2_with fail
      refine (unhide dl).mono ?_
      rintro e Y17 ⟨rfl, hw⟩
      have N17 := hide ((unhide M17).keep hw)
      clear hw dl lp lq
      go_wp2_with fail
      go_ret
      exact ⟨rfl, (unhide N17).bel⟩
  · have M2 := M1
    obtain ⟨X2, hX2⟩ : ∃ X, X = X1 := ⟨_, rfl⟩
    rw [← hX2] at M2 ⊢
    obtain ⟨lim2, hl2⟩ : ∃ l, l = q.lim := ⟨_, rfl⟩
    have hlim : -1 ≤ lim2 := by rw [hl2]; exact ((ok_iff q).1 (unhide HOK)).p7
    rw [← hl2] at M2
    clear hl2 M1 M0 hX2
    go_upto_region 9 with fail
    have dl := hide ((unhide M2).like (unhide HT) (unhide HQ) ((unhide M2).inq (unhide HQ).nn (unhide HQ).nb (unhide HQ).ns (Nat.zero_le _)) (more_one (unhide HOK) hlim))
    have lp := (unhide M2).ldp
    have lq := (unhide M2).ldq
    rw [← unhide HQQ] at dl lq
    obtain ⟨zp, hzp⟩ : ∃ v, v = qV ⟨q.nodes, q.wh, q.by', q.sh, [], lim2⟩ ⟨b5.pN, b5.cN, b5.pB, b5.cB, b5.pS, b5.cS, none, 0⟩ := ⟨_, rfl⟩
    rw [← hzp] at dl lp
    clear hzp
    go_upto_region 9 with fail
    go_wp2_with fail
    refine (unhide dl).mono ?_
    rintro e Y2 ⟨rfl, hw⟩
    have N2 := hide ((unhide M2).keep hw)
    clear hw dl lp lq
    have dt := hide ((unhide N2).twn (unhide HQ) (unhide HC))
    have lt := (unhide N2).ldq
    rw [← unhide HQQ] at dt lt
    go_upto_region 10 with fail
    go_wp2_with fail
    refine (unhide dt).mono ?_
    rintro e v3 ⟨b3, rfl, ht⟩
    obtain ⟨hst, hm⟩ := (unhide N2).twin ht
    obtain ⟨X3, hX3⟩ : ∃ X, X = v3.setCells bp 0 (qC q b3) := ⟨_, rfl⟩
    rw [← hX3] at hst hm
    have M3 := hide hm
    obtain ⟨z3, hz⟩ : ∃ v, v = qV q b3 := ⟨_, rfl⟩
    rw [← hz] at hst ⊢
    clear hz ht hm dt lt hX3
    go_upto_region 11 with fail
    clear hst
    have c1 : X3.cell? ⟨bp, 1, none⟩ = some (.int .i64 q.wh) := (unhide M3).cp 1
    have f1 := (unhide M3).fp 1
    obtain ⟨X4, hX4⟩ : ∃ X, X = X3.setCell ⟨bp, 1, none⟩ (.int .i64 (-1)) := ⟨_, rfl⟩
    have M4 := hide ((unhide M3).set1 (-1))
    rw [← hX4] at M4
    go_upto_region 12 with fail
    rw [← hX4]
    clear hX4 c1 f1
    have dl := hide ((unhide M4).like (unhide HT) (unhide HQ) ((unhide M4).inq (unhide HQ).nn (unhide HQ).nb (unhide HQ).ns (unhide HQ).no) (more_two (unhide HOK)))
    have lp := (unhide M4).ldp
    have lq := (unhide M4).ldq
    rw [← unhide HQQ] at dl lq
    obtain ⟨zp, hzp⟩ : ∃ v, v = qV ⟨q.nodes, -1, q.by', q.sh, q.ords, q.lim⟩ b3 := ⟨_, rfl⟩
    rw [← hzp] at dl lp
    clear hzp
    go_upto_region 12 with fail
    go_wp2_with fail
    refine (unhide dl).mono ?_
    rintro e Y4 ⟨rfl, hw⟩
    have N4 := hide ((unhide M4).keep hw)
    clear hw dl lp lq
    have dt := hide ((unhide N4).twn (unhide HQ) (unhide HC))
    have lt := (unhide N4).ldq
    rw [← unhide HQQ] at dt lt
    go_upto_region 13 with fail
    go_wp2_with fail
    refine (unhide dt).mono ?_
    rintro e v5 ⟨bb5, rfl, ht⟩
    obtain ⟨hst, hm⟩ := (unhide N4).twin ht
    obtain ⟨X5, hX5⟩ : ∃ X, X = v5.setCells bp 0 (qC q bb5) := ⟨_, rfl⟩
    rw [← hX5] at hst hm
    have M5 := hide hm
    obtain ⟨z5, hz⟩ : ∃ v, v = qV q bb5 := ⟨_, rfl⟩
    rw [← hz] at hst ⊢
    clear hz ht hm dt lt hX5
    go_upto_region 14 with fail
    clear hst
    have dF := hide (field_any ((unhide HT).below (unhide M5).bel).f by')
    obtain ⟨nm, hnm⟩ : ∃ v, v = (fldS by').1 := ⟨_, rfl⟩
    obtain ⟨tb, htb⟩ : ∃ v, v = (fldS by').2 := ⟨_, rfl⟩
    rw [← hnm, ← htb] at dF
    have HTB : Hid (fldT' by' = tb) := htb.symm
    clear hnm htb
    go_wp2_with fail
    refine (unhide dF).mono ?_
    rintro e v6 ⟨rfl, m6, hw⟩
    have M6 : Hid (Mo W v6 q a q bb5 W.heap.size bp (.slice pl ln cl) ln (chkL q)) := by rw [hw]; exact (unhide M5).keep (below_drewN (Below.refl _ _) _)
    clear hw dF
    obtain ⟨p7, c7, w7, r7, cc7, ff7, m7⟩ := (unhide M6).by (unhide HQ) (unhide HC) by'
    rw [← unhide HNB] at r7 cc7 m7
    have yb : ∀ o, (v6.alloc o).cell? ⟨W.heap.size, 2, none⟩ = some (.slice a.pB nB a.cB) := fun o => by rw [World.cell?_alloc_lt _ _ _ (unhide M6).ltq, (unhide M6).cq 2, unhide HNB]; rfl
    obtain ⟨X7, hX7⟩ : ∃ X, X = w7.setCell ⟨bp, 2, none⟩ (.slice p7 (1 + nB) c7) := ⟨_, rfl⟩
    rw [← hX7] at m7
    have M7 := hide m7
    have HR7 := hide r7
    clear r7 m7
    go_upto_region 16 with (at_builtin; refine wpList_append_run rfl _ _ 28 rfl _ _ _ _ rfl rfl (unhide HR7) ?_)
    rw [← hX7]
    clear hX7 cc7 ff7 yb HR7
    have dC := hide ((unhide M7).check (unhide HT) ((unhide M7).inq (unhide HQ).nn (by show (_ :: _).length ≤ _; have := (unhide HQ).nb; have := unhide HRB; simp only [List.length_cons]; omega) (unhide HQ).ns (unhide HQ).no))
    have lp := (unhide M7).ldp
    obtain ⟨zp, hzp⟩ : ∃ v, v = qV ⟨q.nodes, q.wh, by' :: q.by', q.sh, q.ords, q.lim⟩ ⟨bb5.pN, bb5.cN, p7, c7, bb5.pS, bb5.cS, bb5.pO, bb5.cO⟩ := ⟨_, rfl⟩
    rw [← hzp] at dC lp
    clear hzp
    obtain ⟨E7, hE7⟩ : ∃ v, v = chkE ⟨q.nodes, q.wh, by' :: q.by', q.sh, q.ords, q.lim⟩ := ⟨_, rfl⟩
    rw [← hE7] at dC
    have HE7 := hide hE7
    clear hE7
    go_wp2_with fail
    refine (unhide dC).mono ?_
    rintro e w8 ⟨p8, n8, c8, rfl, hr8⟩
    have HR8 := hide hr8
    have M8 := hide ((unhide M7).keep hr8.bel)
    clear hr8 dC lp
    by_cases hF : isF by' = true
    · have hE7 : E7 = 0 := by
        have h1 := (more_by (unhide HOK) by').1
        rw [hF] at h1
        exact (unhide HE7).trans (chk_ok h1).1
      have hL7 := (more_by (unhide HOK) by').2 hF
      have h8' := unhide HR8
      rw [hL7, unhide HTB] at h8'
      have hn8 : n8 = ln + 1 := by have h1 := h8'.len; rw [List.length_cons, (unhide M8).ll.len] at h1; exact h1.symm
      subst hn8
      obtain ⟨g8, hg8, _, _, _, _⟩ := h8'.start (by omega)
      have hc8 : ln + 1 ≤ c8 := by
        obtain ⟨_, _, e1, _, e3⟩ := row_slice h8'.row
        cases e1
        exact (e3 _ hg8).2.2.2
      subst hg8
      have hl8 := h8'.lies kI_ok
      have a0 : w8.cell? ⟨g8, 0, none⟩ = some (.int .i64 tb) := by
        obtain ⟨b', o', e', _, hr'⟩ := hl8.2 0 (by simp)
        cases e'
        have := hr' 0 (.int .i64 tb) rfl
        simpa using this
      have hpart := hl8.part 1 ln
      have ht0 : (tb == 0) = false := by
        have h1 := fldT_ne by'
        rw [hF, unhide HTB] at h1
        simpa using h1
      have ht1 : (tb != 0) = true := by simp only [bne, ht0]; rfl
      have ht2 : ¬ tb = 0 := by intro e; rw [e] at ht0; simp at ht0
      have hlen : (chkL q).length = ln := (unhide M8).ll.len
      have hpl : Lies kI w8 (some ⟨g8, 1, none⟩) (chkL q) := by
        have h1 := hpart
        rw [List.drop_succ_cons, List.drop_zero, List.take_of_length_le (by omega)] at h1
        exact h1
      have hln1 : 1 ≤ ln := by have := unhide HLN; omega
      have dS := hide (same_any (c1 := c8 - 1) (c2 := cl) hlen hlen hpl ((unhide M8).ll.lies kI_ok) (by have := unhide HLN; have := unhide HNB; have := unhide HNS; have := unhide HRB; have := unhide HRS; omega) (by have := unhide HLN; have := unhide HNB; have := unhide HNS; have := unhide HRB; have := unhide HRS; omega))
      rw [decide_eq_true rfl] at dS
      have hc81 : ¬ c8 = 1 := by omega
      have hc82 : (1 : Int) ≤ (c8 : Int) := by omega
      have hc83 : ¬ (c8 : Int) = 1 := by omega
      have hw1 : IntKind.i64.wrap ((ln : Int) + 1) = (ln : Int) + 1 := by rw [IntKind.wrap_i64]; have := unhide HLN; have := unhide HNB; have := unhide HNS; have := unhide HRB; have := unhide HRS; omega
      have h1ln : (1 : Int) ≤ (ln : Int) + 1 := by omega
      subst hE7
      clear hL7 h8' hl8 hpart hpl hlen HR8 hF
      go_upto_region 19 with (first | (go_at_call 17; refine (unhide dS).mono ?_; rintro e w9 ⟨rfl, hw⟩))
      have M9 := hide ((unhide M8).keep hw)
      clear hw dS hw1 hc81 hc82 hc83 ht0 ht1 ht2 a0 hc8 h1ln
      have dt := hide ((unhide M9).twn (unhide HQ) (unhide HC))
      have lt := (unhide M9).ldq
      rw [← unhide HQQ] at dt lt
      go_wp2_with fail
      refine (unhide dt).mono ?_
      rintro e v9 ⟨b9, rfl, ht⟩
      obtain ⟨hst, hm⟩ := (unhide M9).twin ht
      obtain ⟨X10, hX10⟩ : ∃ X, X = v9.setCells bp 0 (qC q b9) := ⟨_, rfl⟩
      rw [← hX10] at hst hm
      have M10 := hide hm
      obtain ⟨z9, hz⟩ : ∃ v, v = qV q b9 := ⟨_, rfl⟩
      rw [← hz] at hst ⊢
      clear hz ht hm dt lt hX10
      go_upto_region 20 with fail
      clear hst
      obtain ⟨⟨x1, x2⟩, RS, hsh⟩ : ∃ x R, q.sh = x :: R := by
        cases hq : q.sh with
        | nil => have h1 := hS0; rw [unhide HNS, hq] at h1; exact absurd h1 (by decide)
        | cons x R => exact ⟨x, R, rfl⟩
      obtain ⟨bS, oS, haS, hbS, hrS⟩ := (unhide HQ).s.2 0 (by rw [hsh]; simp)
      have hrS0 : W.cell? ⟨bS, oS, none⟩ = some (.int .i64 x1) := by have := hrS 0 (.int .i64 x1) (by simp [hsh, kG]); simpa using this
      have hrS1 : W.cell? ⟨bS, oS + 1, none⟩ = some (.int .i64 x2) := by have := hrS 1 (.int .i64 x2) (by simp [hsh, kG]); simpa using this
      have HS20 : Hid (∀ X, Below W.heap.size W X → X.heap[W.heap.size]? = some (.cells (qC q a).toArray 32 (0, 0)) → X.cell? ⟨bp, 3, none⟩ = some (.slice b9.pS nS b9.cS) → (fun X => X.cell? ⟨bp, 3, none⟩ = some (.slice b9.pS nS b9.cS) ∧ X.cell? ⟨W.heap.size, 3, none⟩ = some (.slice (some ⟨bS, oS, none⟩) nS a.cS) ∧ X.cell? ⟨bS, oS, none⟩ = some (.int .i64 x1) ∧ X.cell? ⟨bS, oS + 1, none⟩ = some (.int .i64 x2)) X) := fun X h1 h2 h3 => ⟨h3, by rw [cell_at h2, ← haS, unhide HNS]; rfl, (h1.cell (p := ⟨bS, oS, none⟩) hbS).trans hrS0, (h1.cell (p := ⟨bS, oS + 1, none⟩) hbS).trans hrS1⟩
      have hmem : (x1, x2) ∈ q.sh := by rw [hsh]; simp
      have HSH := hide hsh; have HMEM := hide hmem
      have M10d := hide ((unhide M10).keep (Below.refl _ X10).drew)
      obtain ⟨p11, c11, w11, r11, hw11, cc11, ff11, m11⟩ := (unhide M10d).sh (unhide HQ) (x1, x2)
      rw [← unhide HNS] at r11 cc11 m11
      have c3 : X10.drew.cell? ⟨bp, 3, none⟩ = some (.slice b9.pS nS b9.cS) := by rw [(unhide M10d).cp 3, unhide HNS]; rfl
      have c3a : (X10.drew.alloc (.cells #[.int .i64 x1, .int .i64 x2] 45)).cell? ⟨bp, 3, none⟩ = some (.slice b9.pS nS b9.cS) := by rw [World.cell?_alloc_lt _ _ _ (unhide M10d).ltp]; exact c3
      have SA := hide (unhide HS20 _ (unhide M10d).bel (unhide M10d).qb c3)
      have SB := hide (unhide HS20 _ ((unhide M10d).bel.alloc (unhide M10d).bel.size _) ((Below.heap_alloc _ _ _ (unhide M10d).ltq).trans (unhide M10d).qb) c3a)
      have SC := hide (unhide HS20 _ hw11.1 hw11.2 cc11)
      obtain ⟨X12, hX12⟩ : ∃ X, X = w11.setCell ⟨bp, 3, none⟩ (.slice p11 (nS + 1) c11) := ⟨_, rfl⟩
      rw [← hX12] at m11
      have M12 := hide m11
      have r11' : (Builtin.append_ #[29, 29] 29 #[.slice b9.pS nS b9.cS, .slice (some ⟨X10.drew.heap.size, 0, none⟩) 1 1]).run Tryd.prog (X10.drew.alloc (.cells #[.int .i64 x1, .int .i64 x2] 45)) = .ok (.slice p11 (nS + 1) c11) w11 := r11
      have HR11 := hide r11'
      have hS0' : (0 : Int) < (nS : Int) := by omega
      clear r11 r11' m11 hsh hmem hrS haS hbS hrS0 hrS1 c3a c3 hw11
      refine wp_region_last (n := 8) (S := (fun X => X.cell? ⟨bp, 3, none⟩ = some (.slice b9.pS nS b9.cS) ∧ X.cell? ⟨W.heap.size, 3, none⟩ = some (.slice (some ⟨bS, oS, none⟩) nS a.cS) ∧ X.cell? ⟨bS, oS, none⟩ = some (.int .i64 x1) ∧ X.cell? ⟨bS, oS + 1, none⟩ = some (.int .i64 x2))) (by kernel_rfl) (unhide SA) (fun hHeld => ?_)
      refine tkW 0 ?_; refine tkS 1 ?_; refine tkW 2 ?_; refine tkS 3 ?_; refine tkW 4 ?_; refine tkS 5 ?_
      refine wpAnyL_one (i := 6) (by kernel_rfl) rfl (fun KK hK => ?_)
      go_simp
      refine hK.out _ _ (unhide SB) (fun hHeld => ?_)
      clear hK KK
      refine wpAnyL_one (i := 7) (by kernel_rfl) rfl (fun KK hK => ?_)
      refine step_append_run _ (by rfl) _ _ _ (by rfl) _ _ _ _ (by rfl) (by rfl) (unhide HR11) ?_
      simp only [Act.put, List.setIfInBounds_toArray]
      refine hK.out _ _ (unhide SC) (fun hHeld => ?_)
      clear hK KK
      refine wpAnyL_past (i := 8) (by kernel_rfl) rfl (by kernel_rfl) (fun KK hK => ?_)
      go_simp
      refine hK.out _ _ ?_
      clear hK KK
      refine wpAnyL_past (i := 9) (by kernel_rfl) rfl (by kernel_rfl) (fun KK hK => ?_)
      go_simp
      rw [← hX12]
      refine hK.out _ _ ?_
      clear hK KK
      refine wpAnyL_done (by kernel_rfl) ?_
      clear hHeld SA SB SC HS20 HR11 cc11 ff11 hX12
      have dC := hide ((unhide M12).check (unhide HT) ((unhide M12).inq (unhide HQ).nn (unhide HQ).nb (by show List.length (q.sh ++ [(x1, x2)]) ≤ _; have := unhide HRS; simp only [List.length_append, List.length_cons, List.length_nil]; omega) (unhide HQ).no))
      have lp := (unhide M12).ldp
      obtain ⟨zp, hzp⟩ : ∃ v, v = qV ⟨q.nodes, q.wh, q.by', q.sh ++ [(x1, x2)], q.ords, q.lim⟩ ⟨b9.pN, b9.cN, b9.pB, b9.cB, p11, c11, b9.pO, b9.cO⟩ := ⟨_, rfl⟩
      rw [← hzp] at dC lp
      clear hzp
      rw [(chk_ok (more_show (unhide HOK) (unhide HMEM)).1).1, (more_show (unhide HOK) (unhide HMEM)).2] at dC
      go_wp2_with fail
      refine (unhide dC).mono ?_
      rintro e w13 ⟨p13, n13, c13, rfl, hr13⟩
      have M13 := hide ((unhide M12).keep hr13.bel)
      have hn13 : n13 = ln + 1 := by have h1 := hr13.len; rw [List.length_append, (unhide M13).ll.len] at h1; exact h1.symm
      subst hn13
      obtain ⟨g13, hg13, _, _, _, _⟩ := hr13.start (by omega)
      have hc13 : ln + 1 ≤ c13 := by
        obtain ⟨_, _, e1, _, e3⟩ := row_slice hr13.row
        cases e1
        exact (e3 _ hg13).2.2.2
      subst hg13
      obtain ⟨gl, hgl, _, hglt, _, _⟩ := (unhide M13).ll.start (by omega)
      have hl13 := hr13.lies kI_ok
      have hlen : (chkL q).length = ln := (unhide M13).ll.len
      have hg13lt : g13 < w13.heap.size := (row_block hr13.row rfl).2.1
      obtain ⟨cx, hcx⟩ : ∃ v, v = colT (tyL q.nodes) (x1, x2) := ⟨_, rfl⟩
      have hcf := col_first (unhide HOK) (unhide HSH)
      rw [← hcx] at hcf hl13
      have hpl13 : Lies kI w13 (some ⟨g13, 0, none⟩) (chkL q) := by
        have h1 := hl13.part 0 ln
        rw [List.drop_zero, List.take_append_of_le_length (by omega), List.take_of_length_le (by omega)] at h1
        simpa using h1
      have hnBl : nB < ln := by have := unhide HLN; omega
      have A13 : Hid (∀ P : Bel w13, P.W.cell? ⟨g13, ln, none⟩ = some (.int .i64 cx)) := fun P => by
        obtain ⟨b', o', e', _, hr'⟩ := hl13.2 ln (by rw [List.length_append, hlen]; simp)
        cases e'
        have h1 := hr' 0 (.int .i64 cx) (by rw [List.getElem_append_right (by omega)]; simp [kI])
        have h2 := (P.h.cell (p := ⟨g13, ln, none⟩) hg13lt)
        rw [h2]
        simpa [kI] using h1
      have hll := (unhide M13).ll.lies kI_ok
      rw [hgl] at hll
      have L13 : Hid (∀ P : Bel w13, P.W.cell? ⟨gl, nB, none⟩ = some (.int .i64 cx)) := fun P => by
        have hk : nB < (chkL q).length := by omega
        obtain ⟨b', o', e', _, hr'⟩ := hll.2 nB hk
        cases e'
        have h1 := hr' 0 (.int .i64 cx) (by
          rw [← unhide HNB, List.getElem?_eq_getElem hk] at hcf
          rw [Option.some.inj hcf]; rfl)
        have h2 := (P.h.cell (p := ⟨gl, nB, none⟩) hglt)
        rw [h2]
        simpa [kI] using h1
      have Q13 : Hid (∀ P : Bel w13, P.W.cell? ⟨W.heap.size, 2, none⟩ = some (.slice a.pB nB a.cB)) := fun P => by
        rw [P.h.cell (p := ⟨W.heap.size, 2, none⟩) (unhide M13).ltq, (unhide M13).cq 2, unhide HNB]; rfl
      have S13 : Hid (∀ P : Bel w13, Calls Tryd.prog 17 #[.slice (some ⟨g13, 0, none⟩) ln c13, .slice (some ⟨gl, 0, none⟩) ln cl] P.W fun e w' => e = .returned (.bool true) ∧ ∃ q' : Bel w13, w' = q'.W) := fun P => P.calls (by
        have h1 := same_any (c1 := c13) (c2 := cl) hlen hlen (hpl13.below P.h) (hll.below P.h) (by have := unhide HLN; have := unhide HNB; have := unhide HNS; have := unhide HRB; have := unhide HRS; omega) (by have := unhide HLN; have := unhide HNB; have := unhide HNS; have := unhide HRB; have := unhide HRS; omega)
        rw [decide_eq_true rfl] at h1
        exact h1)
      have a13 := unhide A13; have l13 := unhide L13; have q13 := unhide Q13
      have hw1 : IntKind.i64.wrap ((ln : Int) + 1) = (ln : Int) + 1 := by rw [IntKind.wrap_i64]; have := unhide HLN; have := unhide HNB; have := unhide HNS; have := unhide HRB; have := unhide HRS; omega
      have k1 : (ln : Int) < (ln : Int) + 1 := by omega
      have k2 : (nB : Int) < (ln : Int) := by omega
      have k3 : (ln : Int) ≤ (c13 : Int) := by omega
      have k4 : ¬ (c13 : Int) < (ln : Int) := by omega
      have k5 : ln ≤ c13 := by omega
      have k6 : (cx != cx) = false := by simp
      have k7 : (((ln : Int) + 1) != ((ln : Int) + 1)) = false := by simp
      have HGL := hide hgl
      rw [hgl]
      clear hr13 hl13 hpl13 hll hcf hcx hgl hlen dC lp A13 L13 Q13
      go_upto_region 22 with fail
      refine wp_region_quiet_below (by kernel_rfl) (by kernel_rfl) ?_
      repeat (go_big_quiet_step (first | (go_at_call 17; refine unhide S13 _)))
      refine wpQuiet_nil ?_
      rintro _ ⟨P, rfl⟩
      have M14 := hide ((unhide M13).keep P.h)
      obtain ⟨X14, hX14⟩ : ∃ X, X = P.W := ⟨_, rfl⟩
      rw [← hX14] at M14 ⊢
      clear hX14 a13 l13 q13 S13 hw1 k1 k2 k3 k4 k5 k6 k7 P
      have wc : X14.cell? ⟨W.heap.size, 1, none⟩ = some (.int .i64 q.wh) := (unhide M14).cq 1
      by_cases hwn : q.wh < 0
      · go_wp2_with fail
        go_ret
        exact ⟨rfl, (unhide M14).bel⟩
      have hw0 : 0 ≤ q.wh := by omega
      have dt := hide ((unhide M14).twn (unhide HQ) (unhide HC))
      have lt := (unhide M14).ldq
      rw [← unhide HQQ] at dt lt
      go_upto_region 26 with fail
      go_wp2_with fail
      refine (unhide dt).mono ?_
      rintro e v15 ⟨b15, rfl, ht⟩
      obtain ⟨hst, hm⟩ := (unhide M14).twin ht
      obtain ⟨X15, hX15⟩ : ∃ X, X = v15.setCells bp 0 (qC q b15) := ⟨_, rfl⟩
      rw [← hX15] at hst hm
      have M15 := hide hm
      obtain ⟨z15, hz⟩ : ∃ v, v = qV q b15 := ⟨_, rfl⟩
      rw [← hz] at hst ⊢
      clear hz ht hm dt lt hX15
      go_upto_region 27 with fail
      clear hst
      have hwc : X15.cell? ⟨W.heap.size, 1, none⟩ = some (.int .i64 q.wh) := (unhide M15).cq 1
      have hnc : X15.cell? ⟨W.heap.size, 0, none⟩ = some (.slice a.pN nN a.cN) := by rw [(unhide M15).cq 0, unhide HN]; rfl
      have hpc : X15.cell? ⟨bp, 0, none⟩ = some (.slice b15.pN nN b15.cN) := by rw [(unhide M15).cp 0, unhide HN]; rfl
      obtain ⟨p16, c16, w16, r16, cc16, ff16, m16⟩ := (unhide M15).nds (unhide HQ) (ndNot q.wh) (ndAnd q.wh q.nodes.length)
      rw [← unhide HN] at r16 cc16 m16
      have r16' : (Builtin.append_ #[27, 27] 27 #[.slice b15.pN nN b15.cN, .slice (some ⟨X15.heap.size, 0, none⟩) 2 2]).run Tryd.prog (X15.alloc (.cells #[.int .i64 3, .int .i64 q.wh, .int .i64 (-1), .int .i64 0, .int .i64 0, .string ⟨#[]⟩, .int .i64 2, .int .i64 q.wh, .int .i64 nN, .int .i64 0, .int .i64 0, .string ⟨#[]⟩] 37)) = .ok (.slice p16 (nN + 2) c16) w16 := r16
      have HR16 := hide r16'
      obtain ⟨X16, hX16⟩ : ∃ X, X = w16.setCell ⟨bp, 0, none⟩ (.slice p16 (nN + 2) c16) := ⟨_, rfl⟩
      rw [← hX16] at m16
      have M16 := hide m16
      clear r16 r16' m16 wc
      go_upto_region 28 with (at_builtin; refine wpList_append_run rfl _ _ 27 rfl _ _ _ _ rfl rfl (unhide HR16) ?_)
      rw [← hX16]
      clear hX16 cc16 ff16 HR16 hwc hnc hpc
      have hnc : X16.cell? ⟨W.heap.size, 0, none⟩ = some (.slice a.pN nN a.cN) := by rw [(unhide M16).cq 0, unhide HN]; rfl
      have hpc : X16.cell? ⟨bp, 1, none⟩ = some (.int .i64 q.wh) := (unhide M16).cp 1
      have hpf := (unhide M16).fp 1
      have hwn1 : IntKind.i64.wrap ((nN : Int) + 1) = (nN : Int) + 1 := by rw [IntKind.wrap_i64]; have := unhide HRN; have := unhide HN; omega
      obtain ⟨X17, hX17⟩ : ∃ X, X = X16.setCell ⟨bp, 1, none⟩ (.int .i64 ((nN : Int) + 1)) := ⟨_, rfl⟩
      have M17 := hide ((unhide M16).set1 ((nN : Int) + 1))
      rw [← hX17] at M17
      go_upto_region 29 with fail
      rw [← hX17]
      clear hX17 hnc hpc hpf
      have hml : likS ⟨q.nodes ++ [ndNot q.wh, ndAnd q.wh nN], (nN : Int) + 1, q.by', q.sh, q.ords, q.lim⟩ q = true := by rw [unhide HN]; exact more_not (unhide HOK) hw0
      have dl := hide ((unhide M17).like (unhide HT) (unhide HQ) ((unhide M17).inq (by show List.length (q.nodes ++ [ndNot q.wh, ndAnd q.wh nN]) ≤ _; have := unhide HRN; simp only [List.length_append, List.length_cons, List.length_nil]; omega) (unhide HQ).nb (unhide HQ).ns (unhide HQ).no) hml)
      have lp := (unhide M17).ldp
      have lq := (unhide M17).ldq
      rw [← unhide HQQ] at dl lq
      obtain ⟨zp, hzp⟩ : ∃ v, v = qV ⟨q.nodes ++ [ndNot q.wh, ndAnd q.wh nN], (nN : Int) + 1, q.by', q.sh, q.ords, q.lim⟩ ⟨p16, c16, b15.pB, b15.cB, b15.pS, b15.cS, b15.pO, b15.cO⟩ := ⟨_, rfl⟩
      rw [← hzp] at dl lp
      clear hzp hml
      go_wp2_with fail
      refine (unhide dl).mono ?_
      rintro e Y17 ⟨rfl, hw⟩
      have N17 := hide ((unhide M17).keep hw)
      clear hw dl lp lq
      go_wp2_with fail
      go_ret
      exact ⟨rfl, (unhide N17).bel⟩
    · have hF' : isF by' = false := by simpa using hF
      have hE7 : E7 = 140 := by
        have h1 := (more_by (unhide HOK) by').1
        rw [hF'] at h1
        exact (unhide HE7).trans (chk_bad h1).1
      have ht0 : tb = 0 := by
        have h1 := fldT_ne by'
        rw [hF', unhide HTB] at h1
        simpa using h1
      obtain ⟨w9, hw9⟩ : ∃ w, w = w8 := ⟨_, rfl⟩
      have M9 := M8
      rw [← hw9] at M9 ⊢
      subst hE7 ht0
      clear hw9 HR8 hF hF' HTB
      have hln1 : 1 ≤ ln := by have := unhide HLN; omega
      go_upto_region 19 with fail
      have dt := hide ((unhide M9).twn (unhide HQ) (unhide HC))
      have lt := (unhide M9).ldq
      rw [← unhide HQQ] at dt lt
      go_wp2_with fail
      refine (unhide dt).mono ?_
      rintro e v9 ⟨b9, rfl, ht⟩
      obtain ⟨hst, hm⟩ := (unhide M9).twin ht
      obtain ⟨X10, hX10⟩ : ∃ X, X = v9.setCells bp 0 (qC q b9) := ⟨_, rfl⟩
      rw [← hX10] at hst hm
      have M10 := hide hm
      obtain ⟨z9, hz⟩ : ∃ v, v = qV q b9 := ⟨_, rfl⟩
      rw [← hz] at hst ⊢
      clear hz ht hm dt lt hX10
      go_upto_region 20 with fail
      clear hst
      obtain ⟨⟨x1, x2⟩, RS, hsh⟩ : ∃ x R, q.sh = x :: R := by
        cases hq : q.sh with
        | nil => have h1 := hS0; rw [unhide HNS, hq] at h1; exact absurd h1 (by decide)
        | cons x R => exact ⟨x, R, rfl⟩
      obtain ⟨bS, oS, haS, hbS, hrS⟩ := (unhide HQ).s.2 0 (by rw [hsh]; simp)
      have hrS0 : W.cell? ⟨bS, oS, none⟩ = some (.int .i64 x1) := by have := hrS 0 (.int .i64 x1) (by simp [hsh, kG]); simpa using this
      have hrS1 : W.cell? ⟨bS, oS + 1, none⟩ = some (.int .i64 x2) := by have := hrS 1 (.int .i64 x2) (by simp [hsh, kG]); simpa using this
      have HS20 : Hid (∀ X, Below W.heap.size W X → X.heap[W.heap.size]? = some (.cells (qC q a).toArray 32 (0, 0)) → X.cell? ⟨bp, 3, none⟩ = some (.slice b9.pS nS b9.cS) → (fun X => X.cell? ⟨bp, 3, none⟩ = some (.slice b9.pS nS b9.cS) ∧ X.cell? ⟨W.heap.size, 3, none⟩ = some (.slice (some ⟨bS, oS, none⟩) nS a.cS) ∧ X.cell? ⟨bS, oS, none⟩ = some (.int .i64 x1) ∧ X.cell? ⟨bS, oS + 1, none⟩ = some (.int .i64 x2)) X) := fun X h1 h2 h3 => ⟨h3, by rw [cell_at h2, ← haS, unhide HNS]; rfl, (h1.cell (p := ⟨bS, oS, none⟩) hbS).trans hrS0, (h1.cell (p := ⟨bS, oS + 1, none⟩) hbS).trans hrS1⟩
      have hmem : (x1, x2) ∈ q.sh := by rw [hsh]; simp
      have HSH := hide hsh; have HMEM := hide hmem
      have M10d := hide ((unhide M10).keep (Below.refl _ X10).drew)
      obtain ⟨p11, c11, w11, r11, hw11, cc11, ff11, m11⟩ := (unhide M10d).sh (unhide HQ) (x1, x2)
      rw [← unhide HNS] at r11 cc11 m11
      have c3 : X10.drew.cell? ⟨bp, 3, none⟩ = some (.slice b9.pS nS b9.cS) := by rw [(unhide M10d).cp 3, unhide HNS]; rfl
      have c3a : (X10.drew.alloc (.cells #[.int .i64 x1, .int .i64 x2] 45)).cell? ⟨bp, 3, none⟩ = some (.slice b9.pS nS b9.cS) := by rw [World.cell?_alloc_lt _ _ _ (unhide M10d).ltp]; exact c3
      have SA := hide (unhide HS20 _ (unhide M10d).bel (unhide M10d).qb c3)
      have SB := hide (unhide HS20 _ ((unhide M10d).bel.alloc (unhide M10d).bel.size _) ((Below.heap_alloc _ _ _ (unhide M10d).ltq).trans (unhide M10d).qb) c3a)
      have SC := hide (unhide HS20 _ hw11.1 hw11.2 cc11)
      obtain ⟨X12, hX12⟩ : ∃ X, X = w11.setCell ⟨bp, 3, none⟩ (.slice p11 (nS + 1) c11) := ⟨_, rfl⟩
      rw [← hX12] at m11
      have M12 := hide m11
      have r11' : (Builtin.append_ #[29, 29] 29 #[.slice b9.pS nS b9.cS, .slice (some ⟨X10.drew.heap.size, 0, none⟩) 1 1]).run Tryd.prog (X10.drew.alloc (.cells #[.int .i64 x1, .int .i64 x2] 45)) = .ok (.slice p11 (nS + 1) c11) w11 := r11
      have HR11 := hide r11'
      have hS0' : (0 : Int) < (nS : Int) := by omega
      clear r11 r11' m11 hsh hmem hrS haS hbS hrS0 hrS1 c3a c3 hw11
      refine wp_region_last (n := 8) (S := (fun X => X.cell? ⟨bp, 3, none⟩ = some (.slice b9.pS nS b9.cS) ∧ X.cell? ⟨W.heap.size, 3, none⟩ = some (.slice (some ⟨bS, oS, none⟩) nS a.cS) ∧ X.cell? ⟨bS, oS, none⟩ = some (.int .i64 x1) ∧ X.cell? ⟨bS, oS + 1, none⟩ = some (.int .i64 x2))) (by kernel_rfl) (unhide SA) (fun hHeld => ?_)
      refine tkW 0 ?_; refine tkS 1 ?_; refine tkW 2 ?_; refine tkS 3 ?_; refine tkW 4 ?_; refine tkS 5 ?_
      refine wpAnyL_one (i := 6) (by kernel_rfl) rfl (fun KK hK => ?_)
      go_simp
      refine hK.out _ _ (unhide SB) (fun hHeld => ?_)
      clear hK KK
      refine wpAnyL_one (i := 7) (by kernel_rfl) rfl (fun KK hK => ?_)
      refine step_append_run _ (by rfl) _ _ _ (by rfl) _ _ _ _ (by rfl) (by rfl) (unhide HR11) ?_
      simp only [Act.put, List.setIfInBounds_toArray]
      refine hK.out _ _ (unhide SC) (fun hHeld => ?_)
      clear hK KK
      refine wpAnyL_past (i := 8) (by kernel_rfl) rfl (by kernel_rfl) (fun KK hK => ?_)
      go_simp
      refine hK.out _ _ ?_
      clear hK KK
      refine wpAnyL_past (i := 9) (by kernel_rfl) rfl (by kernel_rfl) (fun KK hK => ?_)
      go_simp
      rw [← hX12]
      refine hK.out _ _ ?_
      clear hK KK
      refine wpAnyL_done (by kernel_rfl) ?_
      clear hHeld SA SB SC HS20 HR11 cc11 ff11 hX12
      have dC := hide ((unhide M12).check (unhide HT) ((unhide M12).inq (unhide HQ).nn (unhide HQ).nb (by show List.length (q.sh ++ [(x1, x2)]) ≤ _; have := unhide HRS; simp only [List.length_append, List.length_cons, List.length_nil]; omega) (unhide HQ).no))
      have lp := (unhide M12).ldp
      obtain ⟨zp, hzp⟩ : ∃ v, v = qV ⟨q.nodes, q.wh, q.by', q.sh ++ [(x1, x2)], q.ords, q.lim⟩ ⟨b9.pN, b9.cN, b9.pB, b9.cB, p11, c11, b9.pO, b9.cO⟩ := ⟨_, rfl⟩
      rw [← hzp] at dC lp
      clear hzp
      rw [(chk_ok (more_show (unhide HOK) (unhide HMEM)).1).1, (more_show (unhide HOK) (unhide HMEM)).2] at dC
      go_wp2_with fail
      refine (unhide dC).mono ?_
      rintro e w13 ⟨p13, n13, c13, rfl, hr13⟩
      have M13 := hide ((unhide M12).keep hr13.bel)
      have hn13 : n13 = ln + 1 := by have h1 := hr13.len; rw [List.length_append, (unhide M13).ll.len] at h1; exact h1.symm
      subst hn13
      obtain ⟨g13, hg13, _, _, _, _⟩ := hr13.start (by omega)
      have hc13 : ln + 1 ≤ c13 := by
        obtain ⟨_, _, e1, _, e3⟩ := row_slice hr13.row
        cases e1
        exact (e3 _ hg13).2.2.2
      subst hg13
      obtain ⟨gl, hgl, _, hglt, _, _⟩ := (unhide M13).ll.start (by omega)
      have hl13 := hr13.lies kI_ok
      have hlen : (chkL q).length = ln := (unhide M13).ll.len
      have hg13lt : g13 < w13.heap.size := (row_block hr13.row rfl).2.1
      obtain ⟨cx, hcx⟩ : ∃ v, v = colT (tyL q.nodes) (x1, x2) := ⟨_, rfl⟩
      have hcf := col_first (unhide HOK) (unhide HSH)
      rw [← hcx] at hcf hl13
      have hpl13 : Lies kI w13 (some ⟨g13, 0, none⟩) (chkL q) := by
        have h1 := hl13.part 0 ln
        rw [List.drop_zero, List.take_append_of_le_length (by omega), List.take_of_length_le (by omega)] at h1
        simpa using h1
      have hnBl : nB < ln := by have := unhide HLN; omega
      have A13 : Hid (∀ P : Bel w13, P.W.cell? ⟨g13, ln, none⟩ = some (.int .i64 cx)) := fun P => by
        obtain ⟨b', o', e', _, hr'⟩ := hl13.2 ln (by rw [List.length_append, hlen]; simp)
        cases e'
        have h1 := hr' 0 (.int .i64 cx) (by rw [List.getElem_append_right (by omega)]; simp [kI])
        have h2 := (P.h.cell (p := ⟨g13, ln, none⟩) hg13lt)
        rw [h2]
        simpa [kI] using h1
      have hll := (unhide M13).ll.lies kI_ok
      rw [hgl] at hll
      have L13 : Hid (∀ P : Bel w13, P.W.cell? ⟨gl, nB, none⟩ = some (.int .i64 cx)) := fun P => by
        have hk : nB < (chkL q).length := by omega
        obtain ⟨b', o', e', _, hr'⟩ := hll.2 nB hk
        cases e'
        have h1 := hr' 0 (.int .i64 cx) (by
          rw [← unhide HNB, List.getElem?_eq_getElem hk] at hcf
          rw [Option.some.inj hcf]; rfl)
        have h2 := (P.h.cell (p := ⟨gl, nB, none⟩) hglt)
        rw [h2]
        simpa [kI] using h1
      have Q13 : Hid (∀ P : Bel w13, P.W.cell? ⟨W.heap.size, 2, none⟩ = some (.slice a.pB nB a.cB)) := fun P => by
        rw [P.h.cell (p := ⟨W.heap.size, 2, none⟩) (unhide M13).ltq, (unhide M13).cq 2, unhide HNB]; rfl
      have S13 : Hid (∀ P : Bel w13, Calls Tryd.prog 17 #[.slice (some ⟨g13, 0, none⟩) ln c13, .slice (some ⟨gl, 0, none⟩) ln cl] P.W fun e w' => e = .returned (.bool true) ∧ ∃ q' : Bel w13, w' = q'.W) := fun P => P.calls (by
        have h1 := same_any (c1 := c13) (c2 := cl) hlen hlen (hpl13.below P.h) (hll.below P.h) (by have := unhide HLN; have := unhide HNB; have := unhide HNS; have := unhide HRB; have := unhide HRS; omega) (by have := unhide HLN; have := unhide HNB; have := unhide HNS; have := unhide HRB; have := unhide HRS; omega)
        rw [decide_eq_true rfl] at h1
        exact h1)
      have a13 := unhide A13; have l13 := unhide L13; have q13 := unhide Q13
      have hw1 : IntKind.i64.wrap ((ln : Int) + 1) = (ln : Int) + 1 := by rw [IntKind.wrap_i64]; have := unhide HLN; have := unhide HNB; have := unhide HNS; have := unhide HRB; have := unhide HRS; omega
      have k1 : (ln : Int) < (ln : Int) + 1 := by omega
      have k2 : (nB : Int) < (ln : Int) := by omega
      have k3 : (ln : Int) ≤ (c13 : Int) := by omega
      have k4 : ¬ (c13 : Int) < (ln : Int) := by omega
      have k5 : ln ≤ c13 := by omega
      have k6 : (cx != cx) = false := by simp
      have k7 : (((ln : Int) + 1) != ((ln : Int) + 1)) = false := by simp
      have HGL := hide hgl
      rw [hgl]
      clear hr13 hl13 hpl13 hll hcf hcx hgl hlen dC lp A13 L13 Q13
      go_upto_region 22 with fail
      refine wp_region_quiet_below (by kernel_rfl) (by kernel_rfl) ?_
      repeat (go_big_quiet_step (first | (go_at_call 17; refine unhide S13 _)))
      refine wpQuiet_nil ?_
      rintro _ ⟨P, rfl⟩
      have M14 := hide ((unhide M13).keep P.h)
      obtain ⟨X14, hX14⟩ : ∃ X, X = P.W := ⟨_, rfl⟩
      rw [← hX14] at M14 ⊢
      clear hX14 a13 l13 q13 S13 hw1 k1 k2 k3 k4 k5 k6 k7 P
      have wc : X14.cell? ⟨W.heap.size, 1, none⟩ = some (.int .i64 q.wh) := (unhide M14).cq 1
      by_cases hwn : q.wh < 0
      · go_wp2_with fail
        go_ret
        exact ⟨rfl, (unhide M14).bel⟩
      have hw0 : 0 ≤ q.wh := by omega
      have dt := hide ((unhide M14).twn (unhide HQ) (unhide HC))
      have lt := (unhide M14).ldq
      rw [← unhide HQQ] at dt lt
      go_upto_region 26 with fail
      go_wp2_with fail
      refine (unhide dt).mono ?_
      rintro e v15 ⟨b15, rfl, ht⟩
      obtain ⟨hst, hm⟩ := (unhide M14).twin ht
      obtain ⟨X15, hX15⟩ : ∃ X, X = v15.setCells bp 0 (qC q b15) := ⟨_, rfl⟩
      rw [← hX15] at hst hm
      have M15 := hide hm
      obtain ⟨z15, hz⟩ : ∃ v, v = qV q b15 := ⟨_, rfl⟩
      rw [← hz] at hst ⊢
      clear hz ht hm dt lt hX15
      go_upto_region 27 with fail
      clear hst
      have hwc : X15.cell? ⟨W.heap.size, 1, none⟩ = some (.int .i64 q.wh) := (unhide M15).cq 1
      have hnc : X15.cell? ⟨W.heap.size, 0, none⟩ = some (.slice a.pN nN a.cN) := by rw [(unhide M15).cq 0, unhide HN]; rfl
      have hpc : X15.cell? ⟨bp, 0, none⟩ = some (.slice b15.pN nN b15.cN) := by rw [(unhide M15).cp 0, unhide HN]; rfl
      obtain ⟨p16, c16, w16, r16, cc16, ff16, m16⟩ := (unhide M15).nds (unhide HQ) (ndNot q.wh) (ndAnd q.wh q.nodes.length)
      rw [← unhide HN] at r16 cc16 m16
      have r16' : (Builtin.append_ #[27, 27] 27 #[.slice b15.pN nN b15.cN, .slice (some ⟨X15.heap.size, 0, none⟩) 2 2]).run Tryd.prog (X15.alloc (.cells #[.int .i64 3, .int .i64 q.wh, .int .i64 (-1), .int .i64 0, .int .i64 0, .string ⟨#[]⟩, .int .i64 2, .int .i64 q.wh, .int .i64 nN, .int .i64 0, .int .i64 0, .string ⟨#[]⟩] 37)) = .ok (.slice p16 (nN + 2) c16) w16 := r16
      have HR16 := hide r16'
      obtain ⟨X16, hX16⟩ : ∃ X, X = w16.setCell ⟨bp, 0, none⟩ (.slice p16 (nN + 2) c16) := ⟨_, rfl⟩
      rw [← hX16] at m16
      have M16 := hide m16
      clear r16 r16' m16 wc
      go_upto_region 28 with (at_builtin; refine wpList_append_run rfl _ _ 27 rfl _ _ _ _ rfl rfl (unhide HR16) ?_)
      rw [← hX16]
      clear hX16 cc16 ff16 HR16 hwc hnc hpc
      have hnc : X16.cell? ⟨W.heap.size, 0, none⟩ = some (.slice a.pN nN a.cN) := by rw [(unhide M16).cq 0, unhide HN]; rfl
      have hpc : X16.cell? ⟨bp, 1, none⟩ = some (.int .i64 q.wh) := (unhide M16).cp 1
      have hpf := (unhide M16).fp 1
      have hwn1 : IntKind.i64.wrap ((nN : Int) + 1) = (nN : Int) + 1 := by rw [IntKind.wrap_i64]; have := unhide HRN; have := unhide HN; omega
      obtain ⟨X17, hX17⟩ : ∃ X, X = X16.setCell ⟨bp, 1, none⟩ (.int .i64 ((nN : Int) + 1)) := ⟨_, rfl⟩
      have M17 := hide ((unhide M16).set1 ((nN : Int) + 1))
      rw [← hX17] at M17
      go_upto_region 29 with fail
      rw [← hX17]
      clear hX17 hnc hpc hpf
      have hml : likS ⟨q.nodes ++ [ndNot q.wh, ndAnd q.wh nN], (nN : Int) + 1, q.by', q.sh, q.ords, q.lim⟩ q = true := by rw [unhide HN]; exact more_not (unhide HOK) hw0
      have dl := hide ((unhide M17).like (unhide HT) (unhide HQ) ((unhide M17).inq (by show List.length (q.nodes ++ [ndNot q.wh, ndAnd q.wh nN]) ≤ _; have := unhide HRN; simp only [List.length_append, List.length_cons, List.length_nil]; omega) (unhide HQ).nb (unhide HQ).ns (unhide HQ).no) hml)
      have lp := (unhide M17).ldp
      have lq := (unhide M17).ldq
      rw [← unhide HQQ] at dl lq
      obtain ⟨zp, hzp⟩ : ∃ v, v = qV ⟨q.nodes ++ [ndNot q.wh, ndAnd q.wh nN], (nN : Int) + 1, q.by', q.sh, q.ords, q.lim⟩ ⟨p16, c16, b15.pB, b15.cB, b15.pS, b15.cS, b15.pO, b15.cO⟩ := ⟨_, rfl⟩
      rw [← hzp] at dl lp
      clear hzp hml
      go_wp2_with fail
      refine (unhide dl).mono ?_
      rintro e Y17 ⟨rfl, hw⟩
      have N17 := hide ((unhide M17).keep hw)
      clear hw dl lp lq
      go_wp2_with fail
      go_ret
      exact ⟨rfl, (unhide N17).bel⟩
end Go.Proofs.YtcelllihidkphaaDoor
