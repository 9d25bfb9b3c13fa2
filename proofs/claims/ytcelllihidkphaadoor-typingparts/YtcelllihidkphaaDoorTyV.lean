/- typing: TypingParts 4. -/
import Derived.Test.YtcelllihidkphaaDoorTyU
namespace Go.Proofs.YtcelllihidkphaaDoor
open Go Go.Shelf Go.ChangeShapes Go.WideShapes Go.ChangeAt Go.RowKit Go.Maps
set_option linter.unusedVariables false
set_option maxRecDepth 100000
set_option maxHeartbeats 8000000
attribute [local go_sem ↓] ld32_is st32_is
theorem parts_walk {W : World} (hT : Tab W) {q : Qy} {a : Qa} (hq : QIn W q a) (hc : QCp a) (at' num : Int) (text : ByteArray) (field : Int) : Calls Tryd.prog 4 #[qV q a, .int .i64 at', .int .i64 num, .string text, .int .i64 field] W fun e w' => e = .returned (.bool true) ∧ Below W.heap.size W w' := by
  obtain ⟨nN, hnN⟩ : ∃ n, n = q.nodes.length := ⟨_, rfl⟩
  obtain ⟨W1, hW1⟩ : ∃ X, X = W.alloc (.cells #[.slice a.pN nN a.cN, .int .i64 q.wh, .slice a.pB q.by'.length a.cB, .slice a.pS q.sh.length a.cS, .slice a.pO q.ords.length a.cO, .int .i64 q.lim] 32) := ⟨_, rfl⟩
  have hB1 : Below W.heap.size W W1 := by rw [hW1]; exact Below.a1 W _
  have hb1 : W1.heap[W.heap.size]? = some (.cells (qC q a).toArray 32 (0, 0)) := by rw [hW1, hnN]; exact heap_new _ _
  have d1 := hide (first_any (hT.below hB1))
  have HQV : Hid (qV q a = .agg #[.slice a.pN nN a.cN, .int .i64 q.wh, .slice a.pB q.by'.length a.cB, .slice a.pS q.sh.length a.cS, .slice a.pO q.ords.length a.cO, .int .i64 q.lim]) := by show _ = _; rw [hnN]; rfl
  have HT := hide hT; have HQ := hide hq; have HC := hide hc; have HB1 := hide hB1; have Hb1 := hide hb1; have HN := hide hnN
  have HLT : Hid (W.heap.size < W1.heap.size) := by rw [hW1]; simp [Hid]
  rw [unhide HQV]
  clear hT hq hc hB1 hb1 hnN
  go_enter Tryd.func4, Tryd.ntmps4
  go_upto_region 1 with fail
  rw [← hW1]
  clear hW1
  go_wp2_with fail
  refine (unhide d1).mono ?_
  rintro e w2 ⟨rfl, hw2⟩
  have HB2 := hide hw2
  have HBW : Hid (Below W.heap.size W w2) := (unhide HB1).trans (hw2.mono (unhide HB1).size)
  have hqb : w2.heap[W.heap.size]? = some (.cells (qC q a).toArray 32 (0, 0)) := (hw2.block _ (unhide HLT)).trans (unhide Hb1)
  have l2 := run_ld32 (w := w2) (b := W.heap.size) (o := 0) (q := q) (a := a) (fun j u hu => by rw [Nat.zero_add, cell_at hqb]; simpa using hu)
  have HQB := hide hqb
  have d2 := hide (twin_any ((unhide HQ).below (unhide HBW)) (unhide HC))
  obtain ⟨qq, hqq⟩ : ∃ v, v = qV q a := ⟨_, rfl⟩
  rw [← hqq] at l2 d2
  clear hw2 d1 hqb hqq
  go_wp2_with fail
  refine (unhide d2).mono ?_
  rintro e w3 ⟨b, rfl, ht3⟩
  obtain ⟨bp, hbp⟩ : ∃ n, n = w3.heap.size := ⟨_, rfl⟩
  have hqv2 : qV q b = .agg #[.slice b.pN nN b.cN, .int .i64 q.wh, .slice b.pB q.by'.length b.cB, .slice b.pS q.sh.length b.cS, .slice b.pO q.ords.length b.cO, .int .i64 q.lim] := by rw [unhide HN]; rfl
  obtain ⟨X1, hX1⟩ : ∃ X, X = w3.alloc (.cells #[.slice b.pN nN b.cN, .int .i64 q.wh, .slice b.pB q.by'.length b.cB, .slice b.pS q.sh.length b.cS, .slice b.pO q.ords.length b.cO, .int .i64 q.lim] 32) := ⟨_, rfl⟩
  have s3 := run_st32_new (w := w3) (v0 := .slice b.pN nN b.cN) (v1 := .int .i64 q.wh) (v2 := .slice b.pB q.by'.length b.cB) (v3 := .slice b.pS q.sh.length b.cS) (v4 := .slice b.pO q.ords.length b.cO) (v5 := .int .i64 q.lim) (fun u hu => by simp at hu; rcases hu with rfl | rfl | rfl | rfl | rfl | rfl <;> rfl)
  have HL1 : Hid (Lw W X1 q a q.nodes b W.heap.size bp) := by
    have hba : Below w3.heap.size w3 X1 := by rw [hX1]; exact Below.a1 w3 _
    refine ⟨?_, ?_, (ht3.up (unhide HBW)).below hba, rfl⟩
    · have hlt2 : W.heap.size < w2.heap.size := (Array.getElem?_eq_some_iff.1 (unhide HQB)).1
      exact (hba.block _ (Nat.lt_of_lt_of_le hlt2 ht3.bel.size)).trans ((ht3.bel.block _ hlt2).trans (unhide HQB))
    · rw [hX1, hbp, unhide HN]; exact heap_new _ _
  rw [hqv2]
  clear ht3 hqv2 d2 l2 HB2 HB1 Hb1 HLT HQB HBW
  go_upto_region 3 with fail
  rw [← hX1]
  clear hX1 s3
  rw [← hbp]
  have HBP := hide hbp
  clear hbp
  have cp := (unhide HL1).cp
  rw [← unhide HN] at cp
  by_cases h0 : at' < 0
  · go_wp2_with fail
    go_ret
    exact ⟨rfl, (unhide HL1).bel⟩
  by_cases h1 : at' ≥ (nN : Int)
  · go_wp2_with fail
    go_ret
    exact ⟨rfl, (unhide HL1).bel⟩
  obtain ⟨k, rfl⟩ : ∃ k : Nat, at' = k := ⟨at'.toNat, by omega⟩
  have hkn : (k : Int) < (nN : Int) := by omega
  have hk : k < q.nodes.length := by rw [← unhide HN]; omega
  obtain ⟨g, hg, hg1, hg2, cur, hgc⟩ := (unhide HL1).tw.n.start (by show 0 < q.nodes.length; omega)
  obtain ⟨x, hx⟩ : ∃ x, x = q.nodes[k] := ⟨_, rfl⟩
  have HG := hide hg
  have HX := hide hx
  have HCF0 : Hid (∀ X, Lw W X q a q.nodes b W.heap.size bp → ∀ (j : Nat) (v : Value), x.vals[j]? = some v → X.cell? ⟨g, k * 6 + j, none⟩ = some v ∧ X.frozen? ⟨g, k * 6 + j, none⟩ = false) := fun X h j v hv => by
    have hnr := h.tw.n
    rw [unhide HG] at hnr
    exact hnr.cell kN_ok (k := k) (j := j) hk (v := v) (by show ((q.nodes[k]).vals)[j]? = _; rw [← unhide HX]; exact hv)
  have HCF := hide (unhide HCF0 _ (unhide HL1))
  have c0 : X1.cell? ⟨g, k * 6, none⟩ = some (.int .i64 x.op) := (unhide HCF 0 _ rfl).1
  rw [hg] at cp
  clear hx hgc hg
  by_cases g17 : x.op = 17
  · rw [g17] at c0
    have cf := (unhide HCF 4 (.int .i64 x.num) rfl)
    obtain ⟨cc, ff⟩ := cf
    obtain ⟨X4, hX4⟩ : ∃ X, X = X1.setCell ⟨g, k * 6 + 4, none⟩ (.int .i64 num) := ⟨_, rfl⟩
    obtain ⟨N4, hN4⟩ : ∃ N, N = q.nodes.set k ⟨x.op, x.left, x.right, x.field, num, x.text⟩ := ⟨_, rfl⟩
    have HL4 : Hid (Lw W X4 q a N4 b W.heap.size bp) := by
      rw [hX4, hN4]
      exact (unhide HL1).node (unhide HG) hk (j := 4) (by decide) (by rw [← unhide HX]; rfl)
    have hty : tyL N4 = tyL q.nodes := by
      rw [hN4]
      refine tyL_set hk ?_
      rw [← unhide HX]
      exact nt_num g17 num _
    go_upto_region 19 with fail
    rw [← hX4]
    clear hX4 cc ff
    have d9 := hide ((unhide HL4).like (unhide HT) (unhide HQ) hty)
    have l8 := (unhide HL4).ldp
    have l9 := (unhide HL4).ldq
    obtain ⟨v8, hv8⟩ : ∃ v, v = qV (q.with N4) b := ⟨_, rfl⟩
    obtain ⟨v9, hv9⟩ : ∃ v, v = qV q a := ⟨_, rfl⟩
    rw [← hv8] at d9 l8
    rw [← hv9] at d9 l9
    clear hv8 hv9 hty hN4 HQV
    go_wp2_with fail
    refine (unhide d9).mono ?_
    rintro e w9 ⟨rfl, hw⟩
    have HW := hide hw
    clear hw
    go_wp2_with fail
    go_ret
    exact ⟨rfl, (unhide HL4).bel.trans ((unhide HW).mono (unhide HL4).bel.size)⟩
  · have k17 := beqF g17
    by_cases g18 : x.op = 18
    · rw [g18] at c0
      have cf := (unhide HCF 5 (.string x.text) rfl)
      obtain ⟨cc, ff⟩ := cf
      obtain ⟨X4, hX4⟩ : ∃ X, X = X1.setCell ⟨g, k * 6 + 5, none⟩ (.string text) := ⟨_, rfl⟩
      obtain ⟨N4, hN4⟩ : ∃ N, N = q.nodes.set k ⟨x.op, x.left, x.right, x.field, x.num, text⟩ := ⟨_, rfl⟩
      have HL4 : Hid (Lw W X4 q a N4 b W.heap.size bp) := by
        rw [hX4, hN4]
        exact (unhide HL1).node (unhide HG) hk (j := 5) (by decide) (by rw [← unhide HX]; rfl)
      have hty : tyL N4 = tyL q.nodes := by
        rw [hN4]
        refine tyL_set hk ?_
        rw [← unhide HX]
        exact nt_text g18 text _
      go_upto_region 19 with fail
      rw [← hX4]
      clear hX4 cc ff
      have d9 := hide ((unhide HL4).like (unhide HT) (unhide HQ) hty)
      have l8 := (unhide HL4).ldp
      have l9 := (unhide HL4).ldq
      obtain ⟨v8, hv8⟩ : ∃ v, v = qV (q.with N4) b := ⟨_, rfl⟩
      obtain ⟨v9, hv9⟩ : ∃ v, v = qV q a := ⟨_, rfl⟩
      rw [← hv8] at d9 l8
      rw [← hv9] at d9 l9
      clear hv8 hv9 hty hN4 HQV
      go_wp2_with fail
      refine (unhide d9).mono ?_
      rintro e w9 ⟨rfl, hw⟩
      have HW := hide hw
      clear hw
      go_wp2_with fail
      go_ret
      exact ⟨rfl, (unhide HL4).bel.trans ((unhide HW).mono (unhide HL4).bel.size)⟩
    · have k18 := beqF g18
      by_cases g19 : x.op = 19
      · rw [g19] at c0
        have c4 : X1.cell? ⟨g, k * 6 + 4, none⟩ = some (.int .i64 x.num) := (unhide HCF 4 _ rfl).1
        by_cases hd : dayB x.num = true ∧ dayB num = true
        · have hd' := hd
          unfold dayB at hd'
          simp only [Bool.and_eq_true, decide_eq_true_eq] at hd'
          obtain ⟨⟨t1, t2⟩, t3, t4⟩ := hd'
          have cf := (unhide HCF 4 (.int .i64 x.num) rfl)
          obtain ⟨cc, ff⟩ := cf
          obtain ⟨X4, hX4⟩ : ∃ X, X = X1.setCell ⟨g, k * 6 + 4, none⟩ (.int .i64 num) := ⟨_, rfl⟩
          obtain ⟨N4, hN4⟩ : ∃ N, N = q.nodes.set k ⟨x.op, x.left, x.right, x.field, num, x.text⟩ := ⟨_, rfl⟩
          have HL4 : Hid (Lw W X4 q a N4 b W.heap.size bp) := by
            rw [hX4, hN4]
            exact (unhide HL1).node (unhide HG) hk (j := 4) (by decide) (by rw [← unhide HX]; rfl)
          have hty : tyL N4 = tyL q.nodes := by
            rw [hN4]
            refine tyL_set hk ?_
            rw [← unhide HX]
            exact nt_day g19 hd.1 hd.2 _
          clear hd
          go_upto_region 19 with fail
          rw [← hX4]
          clear hX4 cc ff
          have d9 := hide ((unhide HL4).like (unhide HT) (unhide HQ) hty)
          have l8 := (unhide HL4).ldp
          have l9 := (unhide HL4).ldq
          obtain ⟨v8, hv8⟩ : ∃ v, v = qV (q.with N4) b := ⟨_, rfl⟩
          obtain ⟨v9, hv9⟩ : ∃ v, v = qV q a := ⟨_, rfl⟩
          rw [← hv8] at d9 l8
          rw [← hv9] at d9 l9
          clear hv8 hv9 hty hN4 HQV
          go_wp2_with fail
          refine (unhide d9).mono ?_
          rintro e w9 ⟨rfl, hw⟩
          have HW := hide hw
          clear hw
          go_wp2_with fail
          go_ret
          exact ⟨rfl, (unhide HL4).bel.trans ((unhide HW).mono (unhide HL4).bel.size)⟩
        · have hdd : ¬ (((1 ≤ x.num ∧ x.num ≤ 3652059) ∧ 1 ≤ num) ∧ num ≤ 3652059) := fun h => hd (by
            unfold dayB
            simp only [Bool.and_eq_true, decide_eq_true_eq]
            omega)
          clear hd
          by_cases t1 : 1 ≤ x.num
          · by_cases t2 : x.num ≤ 3652059
            · by_cases t3 : 1 ≤ num
              · have t4 : ¬ num ≤ 3652059 := by omega
                clear hdd
                have HL4 : Hid (Lw W X1 q a q.nodes b W.heap.size bp) := unhide HL1
                obtain ⟨N4, hN4⟩ : ∃ N, N = q.nodes := ⟨_, rfl⟩
                have hty : tyL N4 = tyL q.nodes := by rw [hN4]
                rw [← hN4] at HL4
                have d9 := hide ((unhide HL4).like (unhide HT) (unhide HQ) hty)
                have l8 := (unhide HL4).ldp
                have l9 := (unhide HL4).ldq
                obtain ⟨v8, hv8⟩ : ∃ v, v = qV (q.with N4) b := ⟨_, rfl⟩
                obtain ⟨v9, hv9⟩ : ∃ v, v = qV q a := ⟨_, rfl⟩
                rw [← hv8] at d9 l8
                rw [← hv9] at d9 l9
                clear hv8 hv9 hty hN4 HQV
                go_wp2_with fail
                refine (unhide d9).mono ?_
                rintro e w9 ⟨rfl, hw⟩
                have HW := hide hw
                clear hw
                go_wp2_with fail
                go_ret
                exact ⟨rfl, (unhide HL4).bel.trans ((unhide HW).mono (unhide HL4).bel.size)⟩
              · clear hdd
                have HL4 : Hid (Lw W X1 q a q.nodes b W.heap.size bp) := unhide HL1
                obtain ⟨N4, hN4⟩ : ∃ N, N = q.nodes := ⟨_, rfl⟩
                have hty : tyL N4 = tyL q.nodes := by rw [hN4]
                rw [← hN4] at HL4
                have d9 := hide ((unhide HL4).like (unhide HT) (unhide HQ) hty)
                have l8 := (unhide HL4).ldp
                have l9 := (unhide HL4).ldq
                obtain ⟨v8, hv8⟩ : ∃ v, v = qV (q.with N4) b := ⟨_, rfl⟩
                obtain ⟨v9, hv9⟩ : ∃ v, v = qV q a := ⟨_, rfl⟩
                rw [← hv8] at d9 l8
                rw [← hv9] at d9 l9
                clear hv8 hv9 hty hN4 HQV
                go_wp2_with fail
                refine (unhide d9).mono ?_
                rintro e w9 ⟨rfl, hw⟩
                have HW := hide hw
                clear hw
                go_wp2_with fail
                go_ret
                exact ⟨rfl, (unhide HL4).bel.trans ((unhide HW).mono (unhide HL4).bel.size)⟩
            · clear hdd
              have HL4 : Hid (Lw W X1 q a q.nodes b W.heap.size bp) := unhide HL1
              obtain ⟨N4, hN4⟩ : ∃ N, N = q.nodes := ⟨_, rfl⟩
              have hty : tyL N4 = tyL q.nodes := by rw [hN4]
              rw [← hN4] at HL4
              have d9 := hide ((unhide HL4).like (unhide HT) (unhide HQ) hty)
              have l8 := (unhide HL4).ldp
              have l9 := (unhide HL4).ldq
              obtain ⟨v8, hv8⟩ : ∃ v, v = qV (q.with N4) b := ⟨_, rfl⟩
              obtain ⟨v9, hv9⟩ : ∃ v, v = qV q a := ⟨_, rfl⟩
              rw [← hv8] at d9 l8
              rw [← hv9] at d9 l9
              clear hv8 hv9 hty hN4 HQV
              go_wp2_with fail
              refine (unhide d9).mono ?_
              rintro e w9 ⟨rfl, hw⟩
              have HW := hide hw
              clear hw
              go_wp2_with fail
              go_ret
              exact ⟨rfl, (unhide HL4).bel.trans ((unhide HW).mono (unhide HL4).bel.size)⟩
          · clear hdd
            have HL4 : Hid (Lw W X1 q a q.nodes b W.heap.size bp) := unhide HL1
            obtain ⟨N4, hN4⟩ : ∃ N, N = q.nodes := ⟨_, rfl⟩
            have hty : tyL N4 = tyL q.nodes := by rw [hN4]
            rw [← hN4] at HL4
            have d9 := hide ((unhide HL4).like (unhide HT) (unhide HQ) hty)
            have l8 := (unhide HL4).ldp
            have l9 := (unhide HL4).ldq
            obtain ⟨v8, hv8⟩ : ∃ v, v = qV (q.with N4) b := ⟨_, rfl⟩
            obtain ⟨v9, hv9⟩ : ∃ v, v = qV q a := ⟨_, rfl⟩
            rw [← hv8] at d9 l8
            rw [← hv9] at d9 l9
            clear hv8 hv9 hty hN4 HQV
            go_wp2_with fail
            refine (unhide d9).mono ?_
            rintro e w9 ⟨rfl, hw⟩
            have HW := hide hw
            clear hw
            go_wp2_with fail
            go_ret
            exact ⟨rfl, (unhide HL4).bel.trans ((unhide HW).mono (unhide HL4).bel.size)⟩
      · have k19 := beqF g19
        by_cases g16 : x.op = 16
        · rw [g16] at c0
          have c3 : X1.cell? ⟨g, k * 6 + 3, none⟩ = some (.int .i64 x.field) := (unhide HCF 3 _ rfl).1
          have dA := hide (field_any ((unhide HT).below (unhide HL1).bel).f x.field)
          have dB : Hid (∀ m, Calls Tryd.prog 9 #[.int .i64 field] (X1.drewN m) fun e w' => e = .returned (.tuple #[.string (fldS field).1, .int .i64 (fldS field).2]) ∧ ∃ m', w' = (X1.drewN m).drewN m') := fun m => field_any ((unhide HT).below (below_drewN (unhide HL1).bel m)).f field
          have HLd : Hid (∀ m, Lw W (X1.drewN m) q a q.nodes b W.heap.size bp) := fun m => (unhide HL1).keep (below_drewN (Below.refl _ _) m)
          have HTE : Hid ((fldS field).2 = (fldS x.field).2 ↔ (fldS x.field).2 = (fldS field).2) := ⟨Eq.symm, Eq.symm⟩
          obtain ⟨na, hna⟩ : ∃ v, v = (fldS x.field).1 := ⟨_, rfl⟩
          obtain ⟨ta, hta⟩ : ∃ v, v = (fldS x.field).2 := ⟨_, rfl⟩
          obtain ⟨nb, hnb⟩ : ∃ v, v = (fldS field).1 := ⟨_, rfl⟩
          obtain ⟨tb, htb⟩ : ∃ v, v = (fldS field).2 := ⟨_, rfl⟩
          rw [← hna, ← hta] at dA
          rw [← hnb, ← htb] at dB
          have HTA := hide hta; have HTB := hide htb
          clear hna hta hnb htb
          go_upto_region 16 with (first | (go_at_call 9; refine (unhide dA).mono ?_; rintro e w5 ⟨rfl, m, hw⟩; rw [hw]; clear hw w5))
          go_upto_region 17 with (first | (go_at_call 9; refine (unhide dB _).mono ?_; rintro e w6 ⟨rfl, m', hw⟩; rw [hw]; clear hw w6))
          have HL2 := hide (unhide HLd (m + m'))
          obtain ⟨X2, hX2⟩ : ∃ X, X = X1.drewN (m + m') := ⟨_, rfl⟩
          rw [← hX2] at HL2 ⊢
          have HCF := hide (unhide HCF0 _ (unhide HL2))
          clear hX2 cp c0 c3 dA dB HLd
          by_cases he : ta = tb
          · have hff : Hid ((fldS field).2 = (fldS x.field).2) := by rw [← unhide HTA, ← unhide HTB]; exact he.symm
            subst he
            have cf := (unhide HCF 3 (.int .i64 x.field) rfl)
            obtain ⟨cc, ff⟩ := cf
            obtain ⟨X4, hX4⟩ : ∃ X, X = X2.setCell ⟨g, k * 6 + 3, none⟩ (.int .i64 field) := ⟨_, rfl⟩
            obtain ⟨N4, hN4⟩ : ∃ N, N = q.nodes.set k ⟨x.op, x.left, x.right, field, x.num, x.text⟩ := ⟨_, rfl⟩
            have HL4 : Hid (Lw W X4 q a N4 b W.heap.size bp) := by
              rw [hX4, hN4]
              exact (unhide HL2).node (unhide HG) hk (j := 3) (by decide) (by rw [← unhide HX]; rfl)
            have hty : tyL N4 = tyL q.nodes := by
              rw [hN4]
              refine tyL_set hk ?_
              rw [← unhide HX]
              exact nt_field g16 (unhide hff) _
            go_upto_region 19 with fail
            rw [← hX4]
            clear hX4 cc ff
            have d9 := hide ((unhide HL4).like (unhide HT) (unhide HQ) hty)
            have l8 := (unhide HL4).ldp
            have l9 := (unhide HL4).ldq
            obtain ⟨v8, hv8⟩ : ∃ v, v = qV (q.with N4) b := ⟨_, rfl⟩
            obtain ⟨v9, hv9⟩ : ∃ v, v = qV q a := ⟨_, rfl⟩
            rw [← hv8] at d9 l8
            rw [← hv9] at d9 l9
            clear hv8 hv9 hty hN4 HQV
            go_wp2_with fail
            refine (unhide d9).mono ?_
            rintro e w9 ⟨rfl, hw⟩
            have HW := hide hw
            clear hw
            go_wp2_with fail
            go_ret
            exact ⟨rfl, (unhide HL4).bel.trans ((unhide HW).mono (unhide HL4).bel.size)⟩
          · have he' := beqF he
            have HL4 : Hid (Lw W X2 q a q.nodes b W.heap.size bp) := unhide HL2
            obtain ⟨N4, hN4⟩ : ∃ N, N = q.nodes := ⟨_, rfl⟩
            have hty : tyL N4 = tyL q.nodes := by rw [hN4]
            rw [← hN4] at HL4
            have d9 := hide ((unhide HL4).like (unhide HT) (unhide HQ) hty)
            have l8 := (unhide HL4).ldp
            have l9 := (unhide HL4).ldq
            obtain ⟨v8, hv8⟩ : ∃ v, v = qV (q.with N4) b := ⟨_, rfl⟩
            obtain ⟨v9, hv9⟩ : ∃ v, v = qV q a := ⟨_, rfl⟩
            rw [← hv8] at d9 l8
            rw [← hv9] at d9 l9
            clear hv8 hv9 hty hN4 HQV
            go_wp2_with fail
            refine (unhide d9).mono ?_
            rintro e w9 ⟨rfl, hw⟩
            have HW := hide hw
            clear hw
            go_wp2_with fail
            go_ret
            exact ⟨rfl, (unhide HL4).bel.trans ((unhide HW).mono (unhide HL4).bel.size)⟩
        · have k16 := beqF g16
          have HL4 : Hid (Lw W X1 q a q.nodes b W.heap.size bp) := unhide HL1
          obtain ⟨N4, hN4⟩ : ∃ N, N = q.nodes := ⟨_, rfl⟩
          have hty : tyL N4 = tyL q.nodes := by rw [hN4]
          rw [← hN4] at HL4
          have d9 := hide ((unhide HL4).like (unhide HT) (unhide HQ) hty)
          have l8 := (unhide HL4).ldp
          have l9 := (unhide HL4).ldq
          obtain ⟨v8, hv8⟩ : ∃ v, v = qV (q.with N4) b := ⟨_, rfl⟩
          obtain ⟨v9, hv9⟩ : ∃ v, v = qV q a := ⟨_, rfl⟩
          rw [← hv8] at d9 l8
          rw [← hv9] at d9 l9
          clear hv8 hv9 hty hN4 HQV
          go_wp2_with fail
          refine (unhide d9).mono ?_
          rintro e w9 ⟨rfl, hw⟩
          have HW := hide hw
          clear hw
          go_wp2_with fail
          go_ret
          exact ⟨rfl, (unhide HL4).bel.trans ((unhide HW).mono (unhide HL4).bel.size)⟩
end Go.Proofs.YtcelllihidkphaaDoor
