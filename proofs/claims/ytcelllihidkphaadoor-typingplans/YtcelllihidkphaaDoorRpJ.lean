/- typing, the document's: Plan 23. -/
import Derived.Test.YtcelllihidkphaaDoorRpI
import Derived.Test.YtcelllihidkphaaDoorWyA
namespace Go.Proofs.YtcelllihidkphaaDoor
open Go Go.Shelf Go.ChangeShapes Go.WideShapes Go.ChangeAt Go.RowKit Go.Maps
set_option linter.unusedVariables false
set_option linter.unusedSimpArgs false
set_option maxRecDepth 100000
set_option maxHeartbeats 8000000
attribute [local go_sem ↓] ld32_is ld37_is ld77_is st77_is
theorem rplan_any {W : World} {q : Qy} {a : Qa} (hq : QIn W q a) : Calls Tryd.prog 23 #[qV q a] W fun e w' => e = .returned (.int .i64 (planS q)) ∧ Below W.heap.size W w' := by
  obtain ⟨nN, hnN⟩ : ∃ n, n = q.nodes.length := ⟨_, rfl⟩
  obtain ⟨W1, hW1⟩ : ∃ X, X = W.alloc (.cells (qC q a).toArray 32) := ⟨_, rfl⟩
  have hB1 : Below W.heap.size W W1 := by rw [hW1]; exact Below.a1 W _
  have hlt : W.heap.size < W1.heap.size := by rw [hW1]; simp
  have hb1 : W1.heap[W.heap.size]? = some (.cells (qC q a).toArray 32 (0, 0)) := by rw [hW1]; exact heap_new _ _
  have HC : Hid (∀ X, Below W1.heap.size W1 X → X.heap[W.heap.size]? = some (.cells (qC q a).toArray 32 (0, 0))) := fun X h => (h.block _ hlt).trans hb1
  have HLD : Hid (∀ X, Below W1.heap.size W1 X → (ld32 (.pointer (some ⟨W.heap.size, 0, none⟩))).run Tryd.prog X = .ok (qV q a) X) := fun X h => run_ld32 (fun j u hu => by rw [Nat.zero_add, cell_at (unhide HC X h)]; simpa using hu)
  have HWB : Hid (∀ X, Below W1.heap.size W1 X → Below W.heap.size W X) := fun X h => hB1.trans (h.mono hB1.size)
  have l1 := unhide HLD _ (Below.refl _ W1)
  have d1 := hide (rcheck_any (hq.below hB1))
  have hW1' : W1 = W.alloc (.cells #[.slice a.pN nN a.cN, .int .i64 q.wh, .slice a.pB q.by'.length a.cB, .slice a.pS q.sh.length a.cS, .slice a.pO q.ords.length a.cO, .int .i64 q.lim] 32) := by rw [hW1, hnN]; rfl
  have hgo : qV q a = .agg #[.slice a.pN nN a.cN, .int .i64 q.wh, .slice a.pB q.by'.length a.cB, .slice a.pS q.sh.length a.cS, .slice a.pO q.ords.length a.cO, .int .i64 q.lim] := by rw [hnN]; rfl
  have HQ := hide (hq.below hB1); have HN := hide hnN
  obtain ⟨qq, hqq⟩ : ∃ v, v = qV q a := ⟨_, rfl⟩
  have HQQ := hide hqq
  rw [← hqq] at l1 d1 HLD
  rw [hgo]
  obtain ⟨ok, hok⟩ : ∃ v, v = okQ q := ⟨_, rfl⟩
  have HE : Hid (chkE q = if ok then 0 else 140) := by rw [hok]; rfl
  obtain ⟨ce, hce⟩ : ∃ v, v = chkE q := ⟨_, rfl⟩
  rw [← hce] at d1 HE
  have HOK := hide hok
  clear hq hB1 hlt hb1 hW1 hgo hqq hnN hok hce
  go_enter Tryd.func23, Tryd.ntmps23
  go_upto_region 1 with fail
  rw [← hW1']
  clear hW1'
  go_wp2_with fail
  refine (unhide d1).mono ?_
  rintro e w1 ⟨pc, nc, cc, rfl, R1⟩
  have HB2 := hide R1.bel
  clear R1 d1 l1
  cases ok with
  | false =>
    have he : ce = 140 := unhide HE
    subst he
    have hfin : Hid (planS q = 1) := by
      have hb : ¬ bareS q = true := by unfold bareS; rw [← unhide HOK]; simp
      show _ = _
      unfold planS
      rw [if_neg hb]
    clear HE
    go_wp2_with fail
    go_ret
    exact ⟨by rw [unhide hfin] <;> rfl, unhide HWB _ (unhide HB2)⟩
  | true =>
    have he : ce = 0 := unhide HE
    subst he
    have l2 := unhide HLD _ (unhide HB2)
    have d2 := rbare_any ((unhide HQ).below (unhide HB2)) (unhide HOK).symm
    rw [← unhide HQQ] at d2
    obtain ⟨bs, hbs⟩ : ∃ v, v = bareS q := ⟨_, rfl⟩
    rw [← hbs] at d2
    have D2 := hide d2; have HBS := hide hbs
    clear d2 hbs HE
    go_upto_region 5 with (first | (go_at_call 39; refine (unhide D2).mono ?_; rintro e w2 ⟨rfl, hw2⟩))
    have HB3 : Hid (Below W1.heap.size W1 w2) := (unhide HB2).trans (hw2.mono (unhide HB2).size)
    clear hw2 D2 l2 HB2
    cases bs with
    | false =>
      have hfin : Hid (planS q = 1) := by
        have hb : ¬ bareS q = true := by rw [← unhide HBS]; simp
        show _ = _
        unfold planS
        rw [if_neg hb]
      go_wp2_with fail
      go_ret
      exact ⟨by rw [unhide hfin] <;> rfl, unhide HWB _ (unhide HB3)⟩
    | true =>
      have c1 : w2.cell? ⟨W.heap.size, 1, none⟩ = some (.int .i64 q.wh) := by rw [cell_at (unhide HC _ (unhide HB3))]; rfl
      have hP := (ok_iff q).1 (unhide HOK).symm
      by_cases hwh : q.wh = -1
      · have hfin : Hid (planS q = 2) := by show _ = _; unfold planS; rw [if_pos (unhide HBS).symm, if_pos hwh]
        have hneg : q.wh < 0 := by omega
        rw [hwh] at c1
        clear hwh hneg hP
        go_wp2_with fail
        go_ret
        exact ⟨by rw [unhide hfin] <;> rfl, unhide HWB _ (unhide HB3)⟩
      · have hw4 : tat (tyL q.nodes) q.wh = 4 := hP.p2.elim (fun e => absurd e hwh) id
        obtain ⟨i1, i2⟩ := tat_nz (T := tyL q.nodes) (i := q.wh) (by rw [hw4]; decide)
        rw [tyL_len] at i2
        have hwf := wf_of hP.p1
        have d4 := rparts_any ((unhide HQ).below (unhide HB3)) hwf i1 i2
        have l3 := unhide HLD _ (unhide HB3)
        rw [← unhide HQQ] at d4
        obtain ⟨w, hw⟩ : ∃ w : Nat, q.wh = w := ⟨q.wh.toNat, by omega⟩
        have hwL : w < q.nodes.length := by omega
        have hpl := rpl_is (unhide HBS).symm hwh (by omega)
        obtain ⟨x, hx⟩ : ∃ x, x = q.nodes[w] := ⟨_, rfl⟩
        unfold rplS at hpl
        rw [hw, Int.toNat_natCast, List.getElem?_eq_getElem hwL, ← hx] at hpl
        simp only at hpl
        have hok4 := talS_ok q
        obtain ⟨T, hT⟩ : ∃ T, T = talS q := ⟨_, rfl⟩
        rw [← hT] at hpl hok4 d4
        obtain ⟨t1, t2, t3, t4⟩ := T
        unfold Ok4 at hok4
        simp only at hpl hok4
        unfold T4.val at d4
        simp only at d4
        rw [hw] at d4 c1
        have HPL : Hid (planS q = if x.op ≠ 2 ∧ t1 + t2 = 1 then 2 else if t1 = 1 ∧ t2 = 0 ∧ 0 < t3 ∧ t4 = 0 then 3 else 1) := hpl
        have D4 := hide d4
        obtain ⟨bN, off, eN, hbl, hr⟩ := ((unhide HQ).n.below (unhide HB3)).2 w hwL
        rw [← hx] at hr
        have hwr : IntKind.i64.wrap (t1 + t2) = t1 + t2 := by rw [IntKind.wrap_i64]; omega
        have hw0 : ¬ (w : Int) < 0 := by omega
        have hwn : (w : Int) < (nN : Int) := by rw [unhide HN]; omega
        have HWW := hide hw; have HEN := hide eN; have HR := hide hr; have HBL := hide hbl
        have sN := run_st77_new
        clear hP hw4 i1 i2 hwf d4 hwL hpl hT hok4 hx hw hwh eN hr hbl
        go_upto_region 10 with (first | (go_at_call 40; refine (unhide D4).mono ?_; rintro e w3 ⟨rfl, hw3⟩))
        obtain ⟨X, hX⟩ : ∃ X, X = w3.alloc (.cells #[.int .i64 t1, .int .i64 t2, .int .i64 t3, .int .i64 t4] 77) := ⟨_, rfl⟩
        rw [← hX]
        obtain ⟨b6, hb6⟩ : ∃ n, n = w3.heap.size := ⟨_, rfl⟩
        rw [← hb6]
        have hXb : X.heap[b6]? = some (.cells #[.int .i64 t1, .int .i64 t2, .int .i64 t3, .int .i64 t4] 77 (0, 0)) := by rw [hX, hb6]; exact heap_new _ _
        have hX2 : Below w2.heap.size w2 X := by rw [hX]; exact hw3.alloc hw3.size _
        have HBX : Hid (Below W1.heap.size W1 X) := (unhide HB3).trans (hX2.mono (unhide HB3).size)
        have HBY : Hid (Below W.heap.size W X) := unhide HWB _ (unhide HBX)
        have x0 : X.cell? ⟨b6, 0, none⟩ = some (.int .i64 t1) := by rw [cell_at hXb]; rfl
        have x1 : X.cell? ⟨b6, 1, none⟩ = some (.int .i64 t2) := by rw [cell_at hXb]; rfl
        have x2 : X.cell? ⟨b6, 2, none⟩ = some (.int .i64 t3) := by rw [cell_at hXb]; rfl
        have x3 : X.cell? ⟨b6, 3, none⟩ = some (.int .i64 t4) := by rw [cell_at hXb]; rfl
        have y0 : X.cell? ⟨W.heap.size, 0, none⟩ = some (.slice (some ⟨bN, off, none⟩) nN a.cN) := by rw [cell_at (unhide HC _ (unhide HBX)), ← unhide HEN, unhide HN]; rfl
        have y1 : X.cell? ⟨W.heap.size, 1, none⟩ = some (.int .i64 (w : Int)) := by rw [cell_at (unhide HC _ (unhide HBX)), ← unhide HWW]; rfl
        have z0 : X.cell? ⟨bN, off + w * 6, none⟩ = some (.int .i64 x.op) := (hX2.cell (p := ⟨bN, off + w * 6, none⟩) (unhide HBL)).trans (unhide HR 0 _ rfl)
        clear hX hb6 hXb hX2 hw3 D4 l3 c1 sN HB3 HBX HR HBL HEN HWW HC HLD HWB HQ HQQ HOK HBS
        by_cases hop : x.op = 2
        · have hop' := beqT hop
          have hno : ¬ (x.op ≠ 2 ∧ t1 + t2 = 1) := fun h => h.1 hop
          have hopn : (x.op != 2) = false := by simp [hop]
          clear hop
          go_upto_region 12 with fail
          by_cases e1 : t1 = 1
          · have e1' := beqT e1
            by_cases e2 : t2 = 0
            · have e2' := beqT e2
              by_cases e3 : t3 > 0
              · by_cases e4 : t4 = 0
                · have e4' := beqT e4
                  have HP : Hid (planS q = 3) := by show _ = _; rw [unhide HPL, if_neg hno, if_pos ⟨e1, e2, e3, e4⟩]
                  clear HPL hno
                  go_wp2_with fail
                  go_ret
                  exact ⟨by rw [unhide HP] <;> rfl, unhide HBY⟩
                · have e4' := beqF e4
                  have HP : Hid (planS q = 1) := by show _ = _; rw [unhide HPL, if_neg hno, if_neg (fun h => e4 h.2.2.2)]
                  clear HPL hno
                  go_wp2_with fail
                  go_ret
                  exact ⟨by rw [unhide HP] <;> rfl, unhide HBY⟩
              · have HP : Hid (planS q = 1) := by show _ = _; rw [unhide HPL, if_neg hno, if_neg (fun h => e3 h.2.2.1)]
                clear HPL hno
                go_wp2_with fail
                go_ret
                exact ⟨by rw [unhide HP] <;> rfl, unhide HBY⟩
            · have e2' := beqF e2
              have HP : Hid (planS q = 1) := by show _ = _; rw [unhide HPL, if_neg hno, if_neg (fun h => e2 h.2.1)]
              clear HPL hno
              go_wp2_with fail
              go_ret
              exact ⟨by rw [unhide HP] <;> rfl, unhide HBY⟩
          · have e1' := beqF e1
            have HP : Hid (planS q = 1) := by show _ = _; rw [unhide HPL, if_neg hno, if_neg (fun h => e1 h.1)]
            clear HPL hno
            go_wp2_with fail
            go_ret
            exact ⟨by rw [unhide HP] <;> rfl, unhide HBY⟩
        · have hop' := beqF hop
          have hopn : (x.op != 2) = true := by simp [hop]
          by_cases hs : t1 + t2 = 1
          · have hs' := beqT hs
            have HP : Hid (planS q = 2) := by show _ = _; rw [unhide HPL, if_pos ⟨hop, hs⟩]
            clear HPL hop
            go_wp2_with fail
            go_ret
            exact ⟨by rw [unhide HP] <;> rfl, unhide HBY⟩
          · have hs' := beqF hs
            have hno : ¬ (x.op ≠ 2 ∧ t1 + t2 = 1) := fun h => hs h.2
            clear hop
            go_upto_region 12 with fail
            by_cases e1 : t1 = 1
            · have e1' := beqT e1
              by_cases e2 : t2 = 0
              · have e2' := beqT e2
                exact absurd (by omega) hs
              · have e2' := beqF e2
                have HP : Hid (planS q = 1) := by show _ = _; rw [unhide HPL, if_neg hno, if_neg (fun h => e2 h.2.1)]
                clear HPL hno
                go_wp2_with fail
                go_ret
                exact ⟨by rw [unhide HP] <;> rfl, unhide HBY⟩
            · have e1' := beqF e1
              have HP : Hid (planS q = 1) := by show _ = _; rw [unhide HPL, if_neg hno, if_neg (fun h => e1 h.1)]
              clear HPL hno
              go_wp2_with fail
              go_ret
              exact ⟨by rw [unhide HP] <;> rfl, unhide HBY⟩
end Go.Proofs.YtcelllihidkphaaDoor
