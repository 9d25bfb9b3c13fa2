import Derived.Test.YtbenciieenbmeaaGreatDoorW33
/- typing, the document's: Check 38. -/
namespace Go.Proofs.YtbenciieenbmeaaGreatDoor
open Go Go.Shelf Go.ChangeShapes Go.WideShapes Go.ChangeAt Go.RowKit Go.Maps
set_option linter.unusedVariables false
set_option linter.unusedSimpArgs false
set_option maxRecDepth 100000
set_option maxHeartbeats 16000000
attribute [local go_sem ↓] ld32_is ld45_is
theorem rcheck_any {W : World} {q : Qy} {a : Qa} (hq : QIn W q a) : Calls Tryz.prog 18 #[qV q a] W fun e w' => ∃ p n c, e = .returned (.tuple #[.slice p n c, .int .i64 (chkE q)]) ∧ Rw kI W w' (.slice p n c) n (chkL q) := by
  obtain ⟨nN, hnN⟩ : ∃ n, n = q.nodes.length := ⟨_, rfl⟩
  obtain ⟨nB, hnB⟩ : ∃ n, n = q.by'.length := ⟨_, rfl⟩
  obtain ⟨nS, hnS⟩ : ∃ n, n = q.sh.length := ⟨_, rfl⟩
  obtain ⟨nO, hnO⟩ : ∃ n, n = q.ords.length := ⟨_, rfl⟩
  obtain ⟨W1, hW1⟩ : ∃ X, X = W.alloc (.cells (qC q a).toArray 27) := ⟨_, rfl⟩
  have hB1 : Below W.heap.size W W1 := by rw [hW1]; exact Below.a1 W _
  have hlt1 : W.heap.size < W1.heap.size := by rw [hW1]; simp
  have hb1 : W1.heap[W.heap.size]? = some (.cells (qC q a).toArray 27 (0, 0)) := by rw [hW1]; exact heap_new _ _
  have HC : Hid (∀ X, Below W1.heap.size W1 X → X.heap[W.heap.size]? = some (.cells (qC q a).toArray 27 (0, 0))) := fun X h => (h.block _ hlt1).trans hb1
  have hl := run_ld32 (w := W1) (b := W.heap.size) (o := 0) (q := q) (a := a) (fun j u hu => by rw [Nat.zero_add, cell_at hb1]; simpa using hu)
  have hW1' : W1 = W.alloc (.cells #[.slice a.pN nN a.cN, .int .i64 q.wh, .slice a.pB nB a.cB, .slice a.pS nS a.cS, .slice a.pO nO a.cO, .int .i64 q.lim] 27) := by rw [hW1, hnN, hnB, hnS, hnO]; rfl
  have hgo : qV q a = .agg #[.slice a.pN nN a.cN, .int .i64 q.wh, .slice a.pB nB a.cB, .slice a.pS nS a.cS, .slice a.pO nO a.cO, .int .i64 q.lim] := by rw [hnN, hnB, hnS, hnO]; rfl
  have dT := hide (rtypes_any (hq.below hB1))
  have hbn : nN ≤ 2600000000000 := by rw [hnN]; exact hq.nn
  have hbb : nB ≤ 17600000000000 := by rw [hnB]; exact hq.nb
  have hbs : nS ≤ 8800000000000 := by rw [hnS]; exact hq.ns
  have hbo : nO ≤ 8800000000000 := by rw [hnO]; exact hq.no
  have HLB : Hid (nB ≤ 17600000000000) := by rw [hnB]; exact hq.nb
  have HLS : Hid (nS ≤ 8800000000000) := by rw [hnS]; exact hq.ns
  have HBAD : Hid (∀ X : World, Hid (okQ q = false) → Hid (Below W.heap.size W X) → ∃ p n c, Ending.returned (.tuple #[.slice none 0 0, .int .i64 140]) = .returned (.tuple #[.slice p n c, .int .i64 (chkE q)]) ∧ Rw kI W X (.slice p n c) n (chkL q)) := fun X h1 h2 => ⟨none, 0, 0, by rw [(chk_bad (unhide h1)).1], by rw [(chk_bad (unhide h1)).2]; exact Rw.none (unhide h2)⟩
  obtain ⟨qq, hqq⟩ : ∃ v, v = qV q a := ⟨_, rfl⟩
  rw [← hqq] at hl dT
  rw [← hnN] at dT
  have HQ := hide (hq.below hB1); have HB1 := hide hB1; have HN := hide hnN; have HNB := hide hnB; have HNS := hide hnS; have HNO := hide hnO
  rw [hgo]
  clear hq hB1 hlt1 hb1 hW1 hgo hqq hnN hnB hnS hnO
  go_enter Tryz.func18, Tryz.ntmps18
  go_upto_region 1 with fail
  rw [← hW1']
  clear hW1'
  go_wp2_with fail
  refine (unhide dT).mono ?_
  rintro e X ⟨pT, cT, rfl, hrT⟩
  have HRT := hide hrT
  have HX := hide hrT.bel
  have HBX : Hid (Below W.heap.size W X) := (unhide HB1).trans (hrT.bel.mono (unhide HB1).size)
  have HCX : Hid (∀ Z, Below X.heap.size X Z → Z.cell? ⟨W.heap.size, 1, none⟩ = some (.int .i64 q.wh) ∧ Z.cell? ⟨W.heap.size, 2, none⟩ = some (.slice a.pB nB a.cB) ∧ Z.cell? ⟨W.heap.size, 3, none⟩ = some (.slice a.pS nS a.cS) ∧ Z.cell? ⟨W.heap.size, 4, none⟩ = some (.slice a.pO nO a.cO) ∧ Z.cell? ⟨W.heap.size, 5, none⟩ = some (.int .i64 q.lim)) := fun Z hZ => by
    have h := unhide HC Z ((unhide HX).trans (hZ.mono (unhide HX).size))
    refine ⟨?_, ?_, ?_, ?_, ?_⟩ <;> rw [cell_at h]
    · rfl
    · rw [unhide HNB]; rfl
    · rw [unhide HNS]; rfl
    · rw [unhide HNO]; rfl
    · rfl
  obtain ⟨T, hTt⟩ : ∃ T, T = tyL q.nodes := ⟨_, rfl⟩
  have HTT := hide hTt
  have HLT : Hid (Lies kI X pT T) := by rw [hTt]; exact hrT.lies kI_ok
  have HTL : Hid (T.length = nN) := by rw [hTt]; exact hrT.len
  clear hrT dT hl hTt
  go_wp2_with fail
  go_loopw [5] (fun v5 wr => ∃ (i : Nat), v5 = .int .i64 i ∧ i ≤ nN ∧ wr = X ∧ Hid (∀ t ∈ T.take i, t ≠ 0)) (fun v5 _ => nN - (intOf v5).toNat)
  case atStart => exact ⟨0, rfl, by omega, rfl, fun t ht => by simp at ht⟩
  case round =>
    obtain ⟨i, rfl, hi, hwr, hrel⟩ := hrel
    rw [hwr]
    clear hwr wr
    by_cases hlt : i < nN
    · have hil : i < T.length := by rw [unhide HTL]; exact hlt
      obtain ⟨b, off, e1, hbl, hr⟩ := (unhide HLT).2 i hil
      obtain ⟨t, ht⟩ : ∃ t, t = T[i] := ⟨_, rfl⟩
      rw [← ht] at hr
      have ct := hr 0 (.int .i64 t) rfl
      simp only [kI, Nat.mul_one, Nat.add_zero] at ct
      have hin : (i : Int) < (nN : Int) := by omega
      have hi0 : ¬ (i : Int) < 0 := by omega
      by_cases t0 : t = 0
      · have hbad : Hid (okQ q = false) := by
          show _ = _
          cases h : okQ q with
          | false => rfl
          | true => exact absurd (show T[i] = 0 by rw [← ht]; exact t0) (((ok_iff q).1 h).p1 _ (by rw [← unhide HTT]; exact List.getElem_mem hil))
        have HBEL := HBX
        subst e1 t0
        clear hr ht hbl
        go_wp2_with fail
        go_ret2
        exact unhide HBAD _ hbad HBEL
      have t0' := beqF t0
      have hnx : Hid (∀ t ∈ T.take (i + 1), t ≠ 0) := fun y hy => by
        rw [List.take_succ_eq_append_getElem hil, List.mem_append, List.mem_singleton, ← ht] at hy
        rcases hy with h | h
        · exact unhide hrel y h
        · rw [h]; exact t0
      subst e1
      clear hr ht hbl
      go_wp2_with fail
      exact ⟨⟨i + 1, by go_num, by omega, by trivial, hnx⟩, by simp [intOf]; omega⟩
    have hin : i = nN := by omega
    subst hin
    have HTY : Hid (∀ t ∈ tyL q.nodes, t ≠ 0) := fun t ht => unhide hrel t (by rw [List.take_of_length_le (by rw [unhide HTL]; exact Nat.le_refl _), unhide HTT]; exact ht)
    clear hrel hi hlt
    have c1 := (unhide HCX X (Below.refl _ _)).1
    by_cases hw1 : q.wh = -1
    · have HWH : Hid (q.wh = -1 ∨ tat (tyL q.nodes) q.wh = 4) := .inl hw1
      have hw1' : (q.wh != -1) = false := by rw [hw1]; rfl
      go_upto_region 9 with fail
      go_wp2_with fail
      clear c1 hw1 hw1'
      -- By's columns
      go_loopw [6, 7] (fun v6 v7 wr => ∃ (k : Nat) (p : Option Addr) (c : Nat), v7 = .int .i64 k ∧ k ≤ nB ∧ v6 = .slice p k c ∧ Hid (Rw kI X wr (.slice p k c) k ((q.by'.take k).map fldT'))) (fun _ v7 _ => nB - (intOf v7).toNat)
      case atStart => exact ⟨0, none, 0, rfl, by omega, rfl, Rw.nil X⟩
      case round =>
        obtain ⟨k, p, c, rfl, hk, rfl, hrel⟩ := hrel
        have c2 := (unhide HCX _ (unhide hrel).bel).2.1
        by_cases hlt : k < nB
        · have hkl : k < q.by'.length := by rw [← unhide HNB]; exact hlt
          obtain ⟨b, off, e1, hbl, hr⟩ := (unhide HQ).b.2 k hkl
          obtain ⟨f, hf⟩ : ∃ x, x = q.by'[k] := ⟨_, rfl⟩
          rw [← hf] at hr
          have cf : wr.cell? ⟨b, off + k, none⟩ = some (.int .i64 f) := by
            have h1 := hr 0 (.int .i64 f) rfl
            simp only [kI, Nat.mul_one, Nat.add_zero] at h1
            exact (((unhide HX).trans ((unhide hrel).bel.mono (unhide HX).size)).cell (p := ⟨b, off + k, none⟩) hbl).trans h1
          have htk : Hid ((q.by'.take (k + 1)).map fldT' = (q.by'.take k).map fldT' ++ [fldT' f]) := by show _ = _; rw [List.take_succ_eq_append_getElem hkl, List.map_append, ← hf]; rfl
          have d1 := hide (rfield_any wr f)
          obtain ⟨nm, hnm⟩ : ∃ v, v = (fldS f).1 := ⟨_, rfl⟩
          obtain ⟨tx, htx⟩ : ∃ v, v = fldT' f := ⟨_, rfl⟩
          rw [← hnm, show (fldS f).2 = fldT' f from rfl, ← htx] at d1
          rw [← htx] at htk
          have hkn : (k : Int) < (nB : Int) := by omega
          have hk0 : ¬ (k : Int) < 0 := by omega
          rw [e1] at c2
          clear hr hf hnm htx hbl e1
          go_wp2_with fail
          refine (unhide d1).mono ?_
          rintro e w2 ⟨rfl, hw⟩
          obtain ⟨p8, c8, w8, r8, o8⟩ := ((unhide hrel).below hw).put kI_ok tx #[.int .i64 tx] rfl 23 (by have := unhide HLB; omega) (nat_bound (c := 26400000000000) (by have := unhide HLB; omega) (by decide))
          have r8 : (Builtin.append_ #[23, 23] 23 #[.slice p k c, .slice (some ⟨w2.heap.size, 0, none⟩) 1 1]).run Tryz.prog (w2.alloc (.cells #[.int .i64 tx] 3)) = .ok (.slice p8 (k + 1) c8) w8 := r8
          have HR8 := hide r8; have HO8 := hide o8
          clear hw r8 o8
          go_wp2_with (at_builtin; refine wpList_append_run rfl _ _ 23 rfl _ _ _ _ rfl rfl (unhide HR8) ?_)
          refine ⟨⟨k + 1, p8, c8, by go_num, by omega, rfl, ?_⟩, by simp [intOf]; omega⟩
          show Rw _ _ _ _ _ _
          rw [unhide htk]
          exact unhide HO8
        have hkn : k = nB := by omega
        subst hkn
        have h1 := unhide hrel
        rw [List.take_of_length_le (by rw [unhide HNB]; exact Nat.le_refl _)] at h1
        have HR1 := hide h1
        clear hrel h1 hk hlt
        go_wp2_with fail
        -- Show's
        go_loopw [6, 10] (fun v6 v10 wr => ∃ (j : Nat) (p : Option Addr) (c : Nat), v10 = .int .i64 j ∧ j ≤ nS ∧ v6 = .slice p (k + j) c ∧ Hid (Rw kI X wr (.slice p (k + j) c) (k + j) (q.by'.map fldT' ++ (q.sh.take j).map (shnS (tyL q.nodes))))) (fun _ v10 _ => nS - (intOf v10).toNat)
        case atStart => exact ⟨0, p, c, rfl, by omega, rfl, by simpa [Hid] using unhide HR1⟩
        case round =>
          obtain ⟨j, p, c, rfl, hj, rfl, hrel⟩ := hrel
          have c3 := (unhide HCX _ (unhide hrel).bel).2.2.1
          by_cases hlt : j < nS
          · have hkl : j < q.sh.length := by rw [← unhide HNS]; exact hlt
            obtain ⟨b, off, e1, hbl, hr⟩ := (unhide HQ).s.2 j hkl
            obtain ⟨x, hx⟩ : ∃ x, x = q.sh[j] := ⟨_, rfl⟩
            rw [← hx] at hr
            have hB := (unhide HX).trans ((unhide hrel).bel.mono (unhide HX).size)
            have l1 := run_ld45 (w := wr) (b := b) (o := off + j * 2) (x := x) (fun i u hu => (hB.cell (p := ⟨b, off + j * 2 + i, none⟩) hbl).trans (hr i u hu))
            have htk : Hid ((q.by'.map fldT' ++ (q.sh.take (j + 1)).map (shnS (tyL q.nodes))) = (q.by'.map fldT' ++ (q.sh.take j).map (shnS (tyL q.nodes))) ++ [shnS (tyL q.nodes) x]) := by show _ = _; rw [List.take_succ_eq_append_getElem hkl, List.map_append, ← hx, List.append_assoc]; rfl
            have d1 := hide (rshown_any (c := cT) (unhide HRT).len (((unhide HRT).below (unhide hrel).bel).lies kI_ok) x)
            obtain ⟨xv, hxv⟩ : ∃ v, v = Value.agg #[.int .i64 x.1, .int .i64 x.2] := ⟨_, rfl⟩
            obtain ⟨tx, htx⟩ : ∃ v, v = shnS (tyL q.nodes) x := ⟨_, rfl⟩
            rw [← hxv] at l1 d1
            rw [← htx] at d1 htk
            have hkn : (j : Int) < (nS : Int) := by omega
            have hk0 : ¬ (j : Int) < 0 := by omega
            rw [e1] at c3
            clear hr hx hxv htx hbl e1 hB
            go_wp2_with fail
            refine (unhide d1).mono ?_
            rintro e w2 ⟨rfl, hw⟩
            obtain ⟨p8, c8, w8, r8, o8⟩ := ((unhide hrel).below hw).put kI_ok tx #[.int .i64 tx] rfl 23 (by have := unhide HLB; have := unhide HLS; omega) (nat_bound (c := 26400000000000) (by have := unhide HLB; have := unhide HLS; omega) (by decide))
            have r8 : (Builtin.append_ #[23, 23] 23 #[.slice p (k + j) c, .slice (some ⟨w2.heap.size, 0, none⟩) 1 1]).run Tryz.prog (w2.alloc (.cells #[.int .i64 tx] 3)) = .ok (.slice p8 (k + j + 1) c8) w8 := r8
            have HR8 := hide r8; have HO8 := hide o8
            clear hw r8 o8
            go_wp2_with (at_builtin; refine wpList_append_run rfl _ _ 23 rfl _ _ _ _ rfl rfl (unhide HR8) ?_)
            refine ⟨⟨j + 1, p8, c8, by go_num, by omega, rfl, ?_⟩, by simp [intOf]; omega⟩
            show Rw _ _ _ _ _ _
            rw [unhide htk]
            exact unhide HO8
          have hkn : j = nS := by omega
          subst hkn
          have h1 := unhide hrel
          rw [List.take_of_length_le (by rw [unhide HNS]; exact Nat.le_refl _)] at h1
          have HR2 := hide h1
          clear hrel h1 hj hlt
          obtain ⟨Y, hY⟩ : ∃ Y, Y = wr := ⟨_, rfl⟩
          rw [← hY] at HR2 c3 ⊢
          clear hY
          have HY : Hid (Below W.heap.size W Y) := (unhide HB1).trans ((unhide HX).trans ((unhide HR2).bel.mono (unhide HX).size) |>.mono (unhide HB1).size)
          have c4 := (unhide HCX _ (unhide HR2).bel).2.2.2.1
          have c5 := (unhide HCX _ (unhide HR2).bel).2.2.2.2
          obtain ⟨nA, hnA⟩ : ∃ n, n = k + j := ⟨_, rfl⟩
          rw [← hnA] at HR2 ⊢
          have hnab : nA ≤ 26400000000000 := by omega
          have HNA : Hid (nA = q.by'.length + q.sh.length) := by show _ = _; rw [hnA, unhide HNB, unhide HNS]
          obtain ⟨cl, hcl⟩ : ∃ l, l = q.by'.map fldT' ++ q.sh.map (shnS (tyL q.nodes)) := ⟨_, rfl⟩
          rw [← hcl] at HR2
          have HCL := hide hcl
          clear hnA hcl
          go_wp2_with fail
          go_loopw [12] (fun v12 wr => ∃ (i : Nat), v12 = .int .i64 i ∧ i ≤ nA ∧ wr = Y ∧ Hid (∀ t ∈ cl.take i, t ≠ 0)) (fun v12 _ => nA - (intOf v12).toNat)
          case atStart => exact ⟨0, rfl, by omega, rfl, fun t ht => by simp at ht⟩
          case round =>
            obtain ⟨i, rfl, hi, hwr, hrel⟩ := hrel
            rw [hwr]
            clear hwr wr
            by_cases hlt : i < nA
            · have hil : i < cl.length := by rw [(unhide HR2).len]; exact hlt
              obtain ⟨b, off, e1, hbl, hr⟩ := ((unhide HR2).lies kI_ok).2 i hil
              obtain ⟨t, ht⟩ : ∃ t, t = cl[i] := ⟨_, rfl⟩
              rw [← ht] at hr
              have ct := hr 0 (.int .i64 t) rfl
              simp only [kI, Nat.mul_one, Nat.add_zero] at ct
              have hin : (i : Int) < (nA : Int) := by omega
              have hi0 : ¬ (i : Int) < 0 := by omega
              by_cases t0 : t = 0
              · have hbad : Hid (okQ q = false) := by
                  show _ = _
                  cases h : okQ q with
                  | false => rfl
                  | true =>
                    have hp := (ok_iff q).1 h
                    have hm : (0 : Int) ∈ cl := by rw [← t0, ht]; exact List.getElem_mem hil
                    rw [unhide HCL, List.mem_append, List.mem_map, List.mem_map] at hm
                    rcases hm with ⟨f, hf, h0⟩ | ⟨x, hx, h0⟩
                    · have h1 := fldT_ne f
                      rw [h0, hp.p3 f hf] at h1; exact absurd h1 (by decide)
                    · have h1 := shn_nz (tyL q.nodes) x
                      rw [h0, hp.p5 x hx] at h1; exact absurd h1 (by decide)
                have HBEL := HY
                subst e1 t0
                clear hr ht hbl
                go_wp2_with fail
                go_ret2
                exact unhide HBAD _ hbad HBEL
              have t0' := beqF t0
              have hnx : Hid (∀ t ∈ cl.take (i + 1), t ≠ 0) := fun y hy => by
                rw [List.take_succ_eq_append_getElem hil, List.mem_append, List.mem_singleton, ← ht] at hy
                rcases hy with h | h
                · exact unhide hrel y h
                · rw [h]; exact t0
              subst e1
              clear hr ht hbl
              go_wp2_with fail
              exact ⟨⟨i + 1, by go_num, by omega, by trivial, hnx⟩, by simp [intOf]; omega⟩
            have hin : i = nA := by omega
            subst hin
            have HALL : Hid (∀ t ∈ cl, t ≠ 0) := fun t ht => unhide hrel t (by rw [List.take_of_length_le (by rw [(unhide HR2).len]; exact Nat.le_refl _)]; exact ht)
            clear hrel hi hlt
            go_wp2_with fail
            go_loopw [13] (fun v13 wr => ∃ (m : Nat), v13 = .int .i64 m ∧ m ≤ nO ∧ wr = Y ∧ Hid (∀ x ∈ q.ords.take m, ordS (q.by'.length + q.sh.length) x = true)) (fun v13 _ => nO - (intOf v13).toNat)
            case atStart => exact ⟨0, rfl, by omega, rfl, fun t ht => by simp at ht⟩
            case round =>
              obtain ⟨m, rfl, hm, hwr, hrel⟩ := hrel
              rw [hwr]
              clear hwr wr
              by_cases hlt : m < nO
              · have hml : m < q.ords.length := by rw [← unhide HNO]; exact hlt
                obtain ⟨b, off, e1, hbl, hr⟩ := ((unhide HQ).below ((unhide HX).trans ((unhide HR2).bel.mono (unhide HX).size))).o.2 m hml
                obtain ⟨x, hx⟩ : ∃ x, x = q.ords[m] := ⟨_, rfl⟩
                rw [← hx] at hr
                have ct := hr 0 (.int .i64 x.1) rfl
                simp only [kO, Nat.add_zero] at ct
                have hmn : (m : Int) < (nO : Int) := by omega
                have hm0 : ¬ (m : Int) < 0 := by omega
                obtain ⟨xo, hxo⟩ : ∃ v, v = x.1 := ⟨_, rfl⟩
                rw [← hxo] at ct
                have HXO : Hid (ordS (q.by'.length + q.sh.length) x = (decide (0 ≤ xo) && decide (xo < (i : Int)))) := by show _ = _; unfold ordS; rw [← hxo, unhide HNA]; push_cast; rfl
                rw [e1] at c4
                have hbad0 : Hid (ordS (q.by'.length + q.sh.length) x = false → okQ q = false) := fun h => by
                  cases h' : okQ q with
                  | false => rfl
                  | true => rw [((ok_iff q).1 h').p6 x (by rw [hx]; exact List.getElem_mem hml)] at h; exact absurd h (by decide)
                have hnx : Hid (ordS (q.by'.length + q.sh.length) x = true → ∀ y ∈ q.ords.take (m + 1), ordS (q.by'.length + q.sh.length) y = true) := fun hxx y hy => by
                  rw [List.take_succ_eq_append_getElem hml, List.mem_append, List.mem_singleton, ← hx] at hy
                  rcases hy with h | h
                  · exact unhide hrel y h
                  · rw [h]; exact hxx
                clear hr hx hbl e1 hxo
                by_cases x0 : xo < 0
                · have hbad : Hid (okQ q = false) := unhide hbad0 (by rw [unhide HXO, decide_eq_false (show ¬ 0 ≤ xo by omega)]; rfl)
                  have HBEL := HY
                  go_wp2_with fail
                  go_ret2
                  exact unhide HBAD _ hbad HBEL
                by_cases x1 : xo ≥ (i : Int)
                · have hbad : Hid (okQ q = false) := unhide hbad0 (by rw [unhide HXO, decide_eq_false (show ¬ xo < (i : Int) by omega), Bool.and_false])
                  have HBEL := HY
                  go_wp2_with fail
                  go_ret2
                  exact unhide HBAD _ hbad HBEL
                have hn2 := hide (unhide hnx (by rw [unhide HXO, decide_eq_true (show 0 ≤ xo by omega), decide_eq_true (show xo < (i : Int) by omega)]; rfl))
                go_wp2_with fail
                exact ⟨⟨m + 1, by go_num, by omega, by trivial, hn2⟩, by simp [intOf]; omega⟩
              have hmn : m = nO := by omega
              subst hmn
              have HORD : Hid (∀ x ∈ q.ords, ordS (q.by'.length + q.sh.length) x = true) := fun x hx => unhide hrel x (by rw [List.take_of_length_le (by rw [unhide HNO]; exact Nat.le_refl _)]; exact hx)
              clear hrel hm hlt
              by_cases hs0 : j = 0
              · have hbad : Hid (okQ q = false) := by
                  show _ = _
                  cases h' : okQ q with
                  | false => rfl
                  | true => have := ((ok_iff q).1 h').p4; rw [← unhide HNS, hs0] at this; exact absurd this (by decide)
                have HBEL := HY
                subst hs0
                go_wp2_with fail
                go_ret2
                exact unhide HBAD _ hbad HBEL
              have hs0' : ((j : Int) == 0) = false := by rw [beq_eq_false_iff_ne]; omega
              have hs0'' : ¬ (j : Int) = 0 := by omega
              by_cases hl1 : q.lim < -1
              · have hbad : Hid (okQ q = false) := by
                  show _ = _
                  cases h' : okQ q with
                  | false => rfl
                  | true => have := ((ok_iff q).1 h').p7; omega
                have HBEL := HY
                go_wp2_with fail
                go_ret2
                exact unhide HBAD _ hbad HBEL
              have HOK : Hid (okQ q = true) := (ok_iff q).2 ⟨unhide HTY, unhide HWH, fun f hf => by
                  have h1 := fldT_ne f
                  have h2 := unhide HALL (fldT' f) (by rw [unhide HCL]; exact List.mem_append.2 (.inl (List.mem_map.2 ⟨f, hf, rfl⟩)))
                  rw [← h1, beqF h2]; rfl, by rw [← unhide HNS]; omega, fun x hx => by
                  have h1 := shn_nz (tyL q.nodes) x
                  have h2 := unhide HALL (shnS (tyL q.nodes) x) (by rw [unhide HCL]; exact List.mem_append.2 (.inr (List.mem_map.2 ⟨x, hx, rfl⟩)))
                  rw [beqF h2] at h1; simpa using h1.symm, unhide HORD, by omega⟩
              have HCC : Hid (cl = colS q (tyL q.nodes)) := by
                show _ = _
                rw [unhide HCL]
                unfold colS
                congr 1
                apply List.map_congr_left
                intro x hx
                unfold shnS
                rw [if_pos (((ok_iff q).1 (unhide HOK)).p5 x hx)]
              go_wp2_with fail
              go_ret2
              refine ⟨p, i, c, ?_, ?_⟩
              · rw [(chk_ok (unhide HOK)).1]; rfl
              · rw [(chk_ok (unhide HOK)).2, ← unhide HCC]
                exact (unhide HR2).up ((unhide HB1).trans ((unhide HX).mono (unhide HB1).size))
    have hw1' : (q.wh != -1) = true := by simpa using hw1
    by_cases hw0 : q.wh < 0
    · have hbad : Hid (okQ q = false) := by
        show _ = _
        cases h : okQ q with
        | false => rfl
        | true =>
          rcases ((ok_iff q).1 h).p2 with e | e
          · exact absurd e hw1
          · rw [tat_out (.inl hw0)] at e; exact absurd e (by decide)
      have HBEL := HBX
      go_wp2_with fail
      go_ret2
      exact unhide HBAD _ hbad HBEL
    by_cases hwn : q.wh ≥ (i : Int)
    · have hbad : Hid (okQ q = false) := by
        show _ = _
        cases h : okQ q with
        | false => rfl
        | true =>
          rcases ((ok_iff q).1 h).p2 with e | e
          · exact absurd e hw1
          · rw [tat_out (.inr (by rw [← unhide HTT, unhide HTL]; exact hwn))] at e; exact absurd e (by decide)
      have HBEL := HBX
      go_wp2_with fail
      go_ret2
      exact unhide HBAD _ hbad HBEL
    obtain ⟨wi, hwi⟩ : ∃ k : Nat, q.wh = k := ⟨q.wh.toNat, by omega⟩
    have hwl : wi < T.length := by rw [unhide HTL]; omega
    have hta : tat T wi = T[wi] := by unfold tat; rw [if_neg (by omega)]; simp [List.getD, hwl]
    obtain ⟨b, off, e1, hbl, hr⟩ := (unhide HLT).2 wi hwl
    have ct := hr 0 (.int .i64 (T[wi])) rfl
    rw [← hta] at ct
    simp only [kI, Nat.mul_one, Nat.add_zero] at ct
    obtain ⟨t, ht⟩ : ∃ t, t = tat T wi := ⟨_, rfl⟩
    rw [← ht] at ct
    have HWT : Hid (tat (tyL q.nodes) q.wh = t) := by show _ = _; rw [ht, hwi, unhide HTT]
    have HW1 := hide hw1
    rw [hwi] at c1 hw1' hw0 hwn
    have hwlt : (wi : Int) < (i : Int) := by omega
    subst e1
    clear hr hta hbl ht hwl hw1
    by_cases t4 : t = 4
    · have HWH : Hid (q.wh = -1 ∨ tat (tyL q.nodes) q.wh = 4) := .inr ((unhide HWT).trans t4)
      have hwi' := hide hwi
      clear hwi
      subst t4
      go_upto_region 9 with fail
      go_wp2_with fail
      clear c1 hw1' hw0 hwn hwlt ct
      -- By's columns
      go_loopw [6, 7] (fun v6 v7 wr => ∃ (k : Nat) (p : Option Addr) (c : Nat), v7 = .int .i64 k ∧ k ≤ nB ∧ v6 = .slice p k c ∧ Hid (Rw kI X wr (.slice p k c) k ((q.by'.take k).map fldT'))) (fun _ v7 _ => nB - (intOf v7).toNat)
      case atStart => exact ⟨0, none, 0, rfl, by omega, rfl, Rw.nil X⟩
      case round =>
        obtain ⟨k, p, c, rfl, hk, rfl, hrel⟩ := hrel
        have c2 := (unhide HCX _ (unhide hrel).bel).2.1
        by_cases hlt : k < nB
        · have hkl : k < q.by'.length := by rw [← unhide HNB]; exact hlt
          obtain ⟨b, off, e1, hbl, hr⟩ := (unhide HQ).b.2 k hkl
          obtain ⟨f, hf⟩ : ∃ x, x = q.by'[k] := ⟨_, rfl⟩
          rw [← hf] at hr
          have cf : wr.cell? ⟨b, off + k, none⟩ = some (.int .i64 f) := by
            have h1 := hr 0 (.int .i64 f) rfl
            simp only [kI, Nat.mul_one, Nat.add_zero] at h1
            exact (((unhide HX).trans ((unhide hrel).bel.mono (unhide HX).size)).cell (p := ⟨b, off + k, none⟩) hbl).trans h1
          have htk : Hid ((q.by'.take (k + 1)).map fldT' = (q.by'.take k).map fldT' ++ [fldT' f]) := by show _ = _; rw [List.take_succ_eq_append_getElem hkl, List.map_append, ← hf]; rfl
          have d1 := hide (rfield_any wr f)
          obtain ⟨nm, hnm⟩ : ∃ v, v = (fldS f).1 := ⟨_, rfl⟩
          obtain ⟨tx, htx⟩ : ∃ v, v = fldT' f := ⟨_, rfl⟩
          rw [← hnm, show (fldS f).2 = fldT' f from rfl, ← htx] at d1
          rw [← htx] at htk
          have hkn : (k : Int) < (nB : Int) := by omega
          have hk0 : ¬ (k : Int) < 0 := by omega
          rw [e1] at c2
          clear hr hf hnm htx hbl e1
          go_wp2_with fail
          refine (unhide d1).mono ?_
          rintro e w2 ⟨rfl, hw⟩
          obtain ⟨p8, c8, w8, r8, o8⟩ := ((unhide hrel).below hw).put kI_ok tx #[.int .i64 tx] rfl 23 (by have := unhide HLB; omega) (nat_bound (c := 26400000000000) (by have := unhide HLB; omega) (by decide))
          have r8 : (Builtin.append_ #[23, 23] 23 #[.slice p k c, .slice (some ⟨w2.heap.size, 0, none⟩) 1 1]).run Tryz.prog (w2.alloc (.cells #[.int .i64 tx] 3)) = .ok (.slice p8 (k + 1) c8) w8 := r8
          have HR8 := hide r8; have HO8 := hide o8
          clear hw r8 o8
          go_wp2_with (at_builtin; refine wpList_append_run rfl _ _ 23 rfl _ _ _ _ rfl rfl (unhide HR8) ?_)
          refine ⟨⟨k + 1, p8, c8, by go_num, by omega, rfl, ?_⟩, by simp [intOf]; omega⟩
          show Rw _ _ _ _ _ _
          rw [unhide htk]
          exact unhide HO8
        have hkn : k = nB := by omega
        subst hkn
        have h1 := unhide hrel
        rw [List.take_of_length_le (by rw [unhide HNB]; exact Nat.le_refl _)] at h1
        have HR1 := hide h1
        clear hrel h1 hk hlt
        go_wp2_with fail
        -- Show's
        go_loopw [6, 10] (fun v6 v10 wr => ∃ (j : Nat) (p : Option Addr) (c : Nat), v10 = .int .i64 j ∧ j ≤ nS ∧ v6 = .slice p (k + j) c ∧ Hid (Rw kI X wr (.slice p (k + j) c) (k + j) (q.by'.map fldT' ++ (q.sh.take j).map (shnS (tyL q.nodes))))) (fun _ v10 _ => nS - (intOf v10).toNat)
        case atStart => exact ⟨0, p, c, rfl, by omega, rfl, by simpa [Hid] using unhide HR1⟩
        case round =>
          obtain ⟨j, p, c, rfl, hj, rfl, hrel⟩ := hrel
          have c3 := (unhide HCX _ (unhide hrel).bel).2.2.1
          by_cases hlt : j < nS
          · have hkl : j < q.sh.length := by rw [← unhide HNS]; exact hlt
            obtain ⟨b, off, e1, hbl, hr⟩ := (unhide HQ).s.2 j hkl
            obtain ⟨x, hx⟩ : ∃ x, x = q.sh[j] := ⟨_, rfl⟩
            rw [← hx] at hr
            have hB := (unhide HX).trans ((unhide hrel).bel.mono (unhide HX).size)
            have l1 := run_ld45 (w := wr) (b := b) (o := off + j * 2) (x := x) (fun i u hu => (hB.cell (p := ⟨b, off + j * 2 + i, none⟩) hbl).trans (hr i u hu))
            have htk : Hid ((q.by'.map fldT' ++ (q.sh.take (j + 1)).map (shnS (tyL q.nodes))) = (q.by'.map fldT' ++ (q.sh.take j).map (shnS (tyL q.nodes))) ++ [shnS (tyL q.nodes) x]) := by show _ = _; rw [List.take_succ_eq_append_getElem hkl, List.map_append, ← hx, List.append_assoc]; rfl
            have d1 := hide (rshown_any (c := cT) (unhide HRT).len (((unhide HRT).below (unhide hrel).bel).lies kI_ok) x)
            obtain ⟨xv, hxv⟩ : ∃ v, v = Value.agg #[.int .i64 x.1, .int .i64 x.2] := ⟨_, rfl⟩
            obtain ⟨tx, htx⟩ : ∃ v, v = shnS (tyL q.nodes) x := ⟨_, rfl⟩
            rw [← hxv] at l1 d1
            rw [← htx] at d1 htk
            have hkn : (j : Int) < (nS : Int) := by omega
            have hk0 : ¬ (j : Int) < 0 := by omega
            rw [e1] at c3
            clear hr hx hxv htx hbl e1 hB
            go_wp2_with fail
            refine (unhide d1).mono ?_
            rintro e w2 ⟨rfl, hw⟩
            obtain ⟨p8, c8, w8, r8, o8⟩ := ((unhide hrel).below hw).put kI_ok tx #[.int .i64 tx] rfl 23 (by have := unhide HLB; have := unhide HLS; omega) (nat_bound (c := 26400000000000) (by have := unhide HLB; have := unhide HLS; omega) (by decide))
            have r8 : (Builtin.append_ #[23, 23] 23 #[.slice p (k + j) c, .slice (some ⟨w2.heap.size, 0, none⟩) 1 1]).run Tryz.prog (w2.alloc (.cells #[.int .i64 tx] 3)) = .ok (.slice p8 (k + j + 1) c8) w8 := r8
            have HR8 := hide r8; have HO8 := hide o8
            clear hw r8 o8
            go_wp2_with (at_builtin; refine wpList_append_run rfl _ _ 23 rfl _ _ _ _ rfl rfl (unhide HR8) ?_)
            refine ⟨⟨j + 1, p8, c8, by go_num, by omega, rfl, ?_⟩, by simp [intOf]; omega⟩
            show Rw _ _ _ _ _ _
            rw [unhide htk]
            exact unhide HO8
          have hkn : j = nS := by omega
          subst hkn
          have h1 := unhide hrel
          rw [List.take_of_length_le (by rw [unhide HNS]; exact Nat.le_refl _)] at h1
          have HR2 := hide h1
          clear hrel h1 hj hlt
          obtain ⟨Y, hY⟩ : ∃ Y, Y = wr := ⟨_, rfl⟩
          rw [← hY] at HR2 c3 ⊢
          clear hY
          have HY : Hid (Below W.heap.size W Y) := (unhide HB1).trans ((unhide HX).trans ((unhide HR2).bel.mono (unhide HX).size) |>.mono (unhide HB1).size)
          have c4 := (unhide HCX _ (unhide HR2).bel).2.2.2.1
          have c5 := (unhide HCX _ (unhide HR2).bel).2.2.2.2
          obtain ⟨nA, hnA⟩ : ∃ n, n = k + j := ⟨_, rfl⟩
          rw [← hnA] at HR2 ⊢
          have hnab : nA ≤ 26400000000000 := by omega
          have HNA : Hid (nA = q.by'.length + q.sh.length) := by show _ = _; rw [hnA, unhide HNB, unhide HNS]
          obtain ⟨cl, hcl⟩ : ∃ l, l = q.by'.map fldT' ++ q.sh.map (shnS (tyL q.nodes)) := ⟨_, rfl⟩
          rw [← hcl] at HR2
          have HCL := hide hcl
          clear hnA hcl
          go_wp2_with fail
          go_loopw [12] (fun v12 wr => ∃ (i : Nat), v12 = .int .i64 i ∧ i ≤ nA ∧ wr = Y ∧ Hid (∀ t ∈ cl.take i, t ≠ 0)) (fun v12 _ => nA - (intOf v12).toNat)
          case atStart => exact ⟨0, rfl, by omega, rfl, fun t ht => by simp at ht⟩
          case round =>
            obtain ⟨i, rfl, hi, hwr, hrel⟩ := hrel
            rw [hwr]
            clear hwr wr
            by_cases hlt : i < nA
            · have hil : i < cl.length := by rw [(unhide HR2).len]; exact hlt
              obtain ⟨b, off, e1, hbl, hr⟩ := ((unhide HR2).lies kI_ok).2 i hil
              obtain ⟨t, ht⟩ : ∃ t, t = cl[i] := ⟨_, rfl⟩
              rw [← ht] at hr
              have ct := hr 0 (.int .i64 t) rfl
              simp only [kI, Nat.mul_one, Nat.add_zero] at ct
              have hin : (i : Int) < (nA : Int) := by omega
              have hi0 : ¬ (i : Int) < 0 := by omega
              by_cases t0 : t = 0
              · have hbad : Hid (okQ q = false) := by
                  show _ = _
                  cases h : okQ q with
                  | false => rfl
                  | true =>
                    have hp := (ok_iff q).1 h
                    have hm : (0 : Int) ∈ cl := by rw [← t0, ht]; exact List.getElem_mem hil
                    rw [unhide HCL, List.mem_append, List.mem_map, List.mem_map] at hm
                    rcases hm with ⟨f, hf, h0⟩ | ⟨x, hx, h0⟩
                    · have h1 := fldT_ne f
                      rw [h0, hp.p3 f hf] at h1; exact absurd h1 (by decide)
                    · have h1 := shn_nz (tyL q.nodes) x
                      rw [h0, hp.p5 x hx] at h1; exact absurd h1 (by decide)
                have HBEL := HY
                subst e1 t0
                clear hr ht hbl
                go_wp2_with fail
                go_ret2
                exact unhide HBAD _ hbad HBEL
              have t0' := beqF t0
              have hnx : Hid (∀ t ∈ cl.take (i + 1), t ≠ 0) := fun y hy => by
                rw [List.take_succ_eq_append_getElem hil, List.mem_append, List.mem_singleton, ← ht] at hy
                rcases hy with h | h
                · exact unhide hrel y h
                · rw [h]; exact t0
              subst e1
              clear hr ht hbl
              go_wp2_with fail
              exact ⟨⟨i + 1, by go_num, by omega, by trivial, hnx⟩, by simp [intOf]; omega⟩
            have hin : i = nA := by omega
            subst hin
            have HALL : Hid (∀ t ∈ cl, t ≠ 0) := fun t ht => unhide hrel t (by rw [List.take_of_length_le (by rw [(unhide HR2).len]; exact Nat.le_refl _)]; exact ht)
            clear hrel hi hlt
            go_wp2_with fail
            go_loopw [13] (fun v13 wr => ∃ (m : Nat), v13 = .int .i64 m ∧ m ≤ nO ∧ wr = Y ∧ Hid (∀ x ∈ q.ords.take m, ordS (q.by'.length + q.sh.length) x = true)) (fun v13 _ => nO - (intOf v13).toNat)
            case atStart => exact ⟨0, rfl, by omega, rfl, fun t ht => by simp at ht⟩
            case round =>
              obtain ⟨m, rfl, hm, hwr, hrel⟩ := hrel
              rw [hwr]
              clear hwr wr
              by_cases hlt : m < nO
              · have hml : m < q.ords.length := by rw [← unhide HNO]; exact hlt
                obtain ⟨b, off, e1, hbl, hr⟩ := ((unhide HQ).below ((unhide HX).trans ((unhide HR2).bel.mono (unhide HX).size))).o.2 m hml
                obtain ⟨x, hx⟩ : ∃ x, x = q.ords[m] := ⟨_, rfl⟩
                rw [← hx] at hr
                have ct := hr 0 (.int .i64 x.1) rfl
                simp only [kO, Nat.add_zero] at ct
                have hmn : (m : Int) < (nO : Int) := by omega
                have hm0 : ¬ (m : Int) < 0 := by omega
                obtain ⟨xo, hxo⟩ : ∃ v, v = x.1 := ⟨_, rfl⟩
                rw [← hxo] at ct
                have HXO : Hid (ordS (q.by'.length + q.sh.length) x = (decide (0 ≤ xo) && decide (xo < (i : Int)))) := by show _ = _; unfold ordS; rw [← hxo, unhide HNA]; push_cast; rfl
                rw [e1] at c4
                have hbad0 : Hid (ordS (q.by'.length + q.sh.length) x = false → okQ q = false) := fun h => by
                  cases h' : okQ q with
                  | false => rfl
                  | true => rw [((ok_iff q).1 h').p6 x (by rw [hx]; exact List.getElem_mem hml)] at h; exact absurd h (by decide)
                have hnx : Hid (ordS (q.by'.length + q.sh.length) x = true → ∀ y ∈ q.ords.take (m + 1), ordS (q.by'.length + q.sh.length) y = true) := fun hxx y hy => by
                  rw [List.take_succ_eq_append_getElem hml, List.mem_append, List.mem_singleton, ← hx] at hy
                  rcases hy with h | h
                  · exact unhide hrel y h
                  · rw [h]; exact hxx
                clear hr hx hbl e1 hxo
                by_cases x0 : xo < 0
                · have hbad : Hid (okQ q = false) := unhide hbad0 (by rw [unhide HXO, decide_eq_false (show ¬ 0 ≤ xo by omega)]; rfl)
                  have HBEL := HY
                  go_wp2_with fail
                  go_ret2
                  exact unhide HBAD _ hbad HBEL
                by_cases x1 : xo ≥ (i : Int)
                · have hbad : Hid (okQ q = false) := unhide hbad0 (by rw [unhide HXO, decide_eq_false (show ¬ xo < (i : Int) by omega), Bool.and_false])
                  have HBEL := HY
                  go_wp2_with fail
                  go_ret2
                  exact unhide HBAD _ hbad HBEL
                have hn2 := hide (unhide hnx (by rw [unhide HXO, decide_eq_true (show 0 ≤ xo by omega), decide_eq_true (show xo < (i : Int) by omega)]; rfl))
                go_wp2_with fail
                exact ⟨⟨m + 1, by go_num, by omega, by trivial, hn2⟩, by simp [intOf]; omega⟩
              have hmn : m = nO := by omega
              subst hmn
              have HORD : Hid (∀ x ∈ q.ords, ordS (q.by'.length + q.sh.length) x = true) := fun x hx => unhide hrel x (by rw [List.take_of_length_le (by rw [unhide HNO]; exact Nat.le_refl _)]; exact hx)
              clear hrel hm hlt
              by_cases hs0 : j = 0
              · have hbad : Hid (okQ q = false) := by
                  show _ = _
                  cases h' : okQ q with
                  | false => rfl
                  | true => have := ((ok_iff q).1 h').p4; rw [← unhide HNS, hs0] at this; exact absurd this (by decide)
                have HBEL := HY
                subst hs0
                go_wp2_with fail
                go_ret2
                exact unhide HBAD _ hbad HBEL
              have hs0' : ((j : Int) == 0) = false := by rw [beq_eq_false_iff_ne]; omega
              have hs0'' : ¬ (j : Int) = 0 := by omega
              by_cases hl1 : q.lim < -1
              · have hbad : Hid (okQ q = false) := by
                  show _ = _
                  cases h' : okQ q with
                  | false => rfl
                  | true => have := ((ok_iff q).1 h').p7; omega
                have HBEL := HY
                go_wp2_with fail
                go_ret2
                exact unhide HBAD _ hbad HBEL
              have HOK : Hid (okQ q = true) := (ok_iff q).2 ⟨unhide HTY, unhide HWH, fun f hf => by
                  have h1 := fldT_ne f
                  have h2 := unhide HALL (fldT' f) (by rw [unhide HCL]; exact List.mem_append.2 (.inl (List.mem_map.2 ⟨f, hf, rfl⟩)))
                  rw [← h1, beqF h2]; rfl, by rw [← unhide HNS]; omega, fun x hx => by
                  have h1 := shn_nz (tyL q.nodes) x
                  have h2 := unhide HALL (shnS (tyL q.nodes) x) (by rw [unhide HCL]; exact List.mem_append.2 (.inr (List.mem_map.2 ⟨x, hx, rfl⟩)))
                  rw [beqF h2] at h1; simpa using h1.symm, unhide HORD, by omega⟩
              have HCC : Hid (cl = colS q (tyL q.nodes)) := by
                show _ = _
                rw [unhide HCL]
                unfold colS
                congr 1
                apply List.map_congr_left
                intro x hx
                unfold shnS
                rw [if_pos (((ok_iff q).1 (unhide HOK)).p5 x hx)]
              go_wp2_with fail
              go_ret2
              refine ⟨p, i, c, ?_, ?_⟩
              · rw [(chk_ok (unhide HOK)).1]; rfl
              · rw [(chk_ok (unhide HOK)).2, ← unhide HCC]
                exact (unhide HR2).up ((unhide HB1).trans ((unhide HX).mono (unhide HB1).size))
    have t4' : (t != 4) = true := by simpa using t4
    have hbad : Hid (okQ q = false) := by
      show _ = _
      cases h : okQ q with
      | false => rfl
      | true =>
        rcases ((ok_iff q).1 h).p2 with e | e
        · exact absurd e (unhide HW1)
        · rw [unhide HWT] at e; exact absurd e t4
    have HBEL := HBX
    have hwi' := hide hwi
    clear hwi
    go_wp2_with fail
    go_ret2
    exact unhide HBAD _ hbad HBEL
end Go.Proofs.YtbenciieenbmeaaGreatDoor
