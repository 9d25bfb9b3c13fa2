/- DailyDays (6): its walk. -/
import Derived.Test.YtenoaechonpjgaaDoorBkA
import Derived.Test.YtenoaechonpjgaaDoorDyN
import Derived.Test.YtenoaechonpjgaaDoorQuB
import Derived.Deep.DeepCutAuto
namespace Go.Proofs.YtenoaechonpjgaaDoor
open Go Go.Shelf Go.ChangeShapes Go.WideShapes Go.ChangeAt Go.RowKit Go.Maps Go.Sort
set_option linter.unusedVariables false
attribute [local go_sem ↓] ld44_is
set_option maxRecDepth 100000 in
set_option maxHeartbeats 8000000 in
theorem days_walk (R0 : List Ro) (h0 : Can R0) (hl0 : R0.length ≤ 1048576) (pu : Option Addr) (cu : Nat) (s : ByteArray) (hs : s.size < 4611686018427387904) (fr ct tt : Int) (hfr : -9223372036854775808 ≤ fr ∧ fr ≤ 9223372036854775807) (hct : -9223372036854775808 ≤ ct ∧ ct ≤ 9223372036854775807) (htt : -9223372036854775808 ≤ tt ∧ tt ≤ 9223372036854775807) (w : World) (hcu : pu = none → cu = 0) (hI0 : Lies kR w pu R0) :
    Calls Tryd.prog 6 #[.slice pu R0.length cu, .string s, .int .i64 fr, .int .i64 ct, .int .i64 tt] w fun e w' => e = .returned (.bool true) ∧ Below w.heap.size w w' := by
  have H0 := hide h0; have HI0 := hide hI0; have HCU := hide hcu; have HS := hide hs
  obtain ⟨N0, hN0⟩ : ∃ N, N = R0.length := ⟨_, rfl⟩
  rw [← hN0] at hl0 ⊢
  have HN0 := hide hN0
  clear hcu hI0 hN0 h0 hs
  have dF := hide (first_any w)
  go_enter Tryd.func6, Tryd.ntmps6
  go_wp2_with fail
  refine (unhide dF).mono ?_
  rintro e w1 ⟨rfl, hb1⟩
  obtain ⟨O2, hO2⟩ : ∃ O, O = Obj.cells #[.map none] 48 := ⟨_, rfl⟩
  have dN := hide (new_any w1)
  rw [← hO2] at dN
  have hV2 : Vw (w1.alloc O2) (w1.heap.size + 1) w1.heap.size [] := by rw [hO2]; exact Vw.made w1
  have hB2 : Below w.heap.size w (w1.alloc O2) := hb1.alloc hb1.size O2
  have hs2 : (w1.alloc O2).heap.size = w1.heap.size + 1 := by simp
  obtain ⟨w2, hw2⟩ : ∃ w2, w2 = w1.alloc O2 := ⟨_, rfl⟩
  rw [← hw2] at hV2 hB2 hs2 dN
  obtain ⟨p3, c3, w3, hap, hR3, hb3⟩ := run_copy (W := w2) 22 pu cu R0 (unhide HCU) ((unhide HI0).below hB2) (by have := unhide HN0; omega)
  have hV3 := hV2.below hb3
  have hL3 := own_lies kR_ok rfl hR3
  rw [← unhide HN0] at hap
  have dA := hide (apply_vw (cR := c3) hV3 (by simp) (unhide HN0).symm (by omega) hL3 (unhide H0))
  have hz1 := hb1.size
  have HAP := hide hap; have HB2 := hide hB2; have HB3 := hide hb3; have HZ1 := hide hz1; have HS2 := hide hs2
  clear hap hB2 hb3 hV3 hV2 hz1 hs2 hR3 hL3 hb1 hw2 hO2 dF
  go_wp2_with fail
  refine (unhide dN).mono ?_
  rintro e wx ⟨rfl, hw⟩
  rw [hw]
  clear hw wx dN
  go_wp2_with (at_builtin; refine wpList_append_runG rfl _ _ 22 rfl _ _ _ _ rfl rfl (unhide HAP) ?_)
  refine (unhide dA).mono ?_
  rintro e w4 hO
  have hB3 : Below w.heap.size w w3 := (unhide HB2).trans ((unhide HB3).mono (by have := unhide HS2; have := unhide HZ1; omega))
  have hz3 : w1.heap.size + 1 ≤ w3.heap.size := by have := unhide HS2; have := (unhide HB3).size; omega
  rcases hO with ⟨hno, ⟨x, rfl, hx⟩, hb4⟩ | ⟨hok0, rfl, hV4, hfr4⟩
  · have HB4 := hide (hB3.trans (hb4.mono (by have := unhide HZ1; omega)))
    have hxb : (x != 0) = true := by rcases hx with rfl | rfl <;> rfl
    have hxb2 : (x == 0) = false := by rcases hx with rfl | rfl <;> rfl
    clear hb4 hno hx hB3 hz3
    go_wp2_with fail
    go_ret
    exact ⟨rfl, unhide HB4⟩
  rw [List.nil_append] at hV4
  have hB4 : Below w.heap.size w w4 := hB3.trans ((hfr4.below hz3 (by omega)).mono (unhide HZ1))
  have hlR : R0.length ≤ 137438953472 := by rw [← unhide HN0]; omega
  obtain ⟨S, hS⟩ := hV4.ser s.data.toList
  have dB := hide (btw_vw hV4 hlR (unhide HS) hS fr tt)
  have hSl : S.length ≤ 1048576 := by
    have h1 := ser_le hS
    have h2 := tol_len R0 s.data.toList
    have h3 := unhide HN0
    omega
  have HV4 := hide hV4; have HB4 := hide hB4; have HSE := hide hS; have HLR := hide hlR; have HSL := hide hSl
  clear hV4 hB4 hok0 hz3 hB3 hfr4 dA HAP HB2 HB3 hS hlR hSl
  go_wp2_with fail
  refine (unhide dB).mono ?_
  rintro e w5 ⟨p5, c5, rfl, hrow5, hb5⟩
  obtain ⟨A, hA⟩ : ∃ A, A = btw S fr tt := ⟨_, rfl⟩
  rw [← hA] at hrow5 ⊢
  obtain ⟨n, hn⟩ : ∃ n, n = A.length := ⟨_, rfl⟩
  rw [← hn] at hrow5 ⊢
  have hnb : n ≤ 1048576 := by
    rw [hn, hA]
    exact Nat.le_trans (List.length_filter_le _ _) (unhide HSL)
  have hV5 := (unhide HV4).below hb5
  have hB5 : Below w.heap.size w w5 := (unhide HB4).trans (hb5.mono (unhide HB4).size)
  have HA := hide hA; have HN := hide hn; have HROW5 := hide hrow5; have HV5 := hide hV5; have HB5 := hide hB5; have H45 := hide hb5.size
  clear hA hn hrow5 hV5 hB5 hb5 dB HV4 HB4
  go_upto_region 6 with fail
  go_cut [44] (fun v44 wx => ∃ bb : Bool, v44 = .bool bb ∧ Hid (wx = w5) ∧ Hid (bb = false → fr ≤ ct ∧ ct < tt))
  case first =>
    by_cases h1 : fr > ct
    · go_wp2_with fail
      go_meet
      exact ⟨true, by simp, rfl, fun h => by cases h⟩
    · by_cases h2 : ct ≥ tt
      · go_wp2_with fail
        go_meet
        exact ⟨true, by simp, rfl, fun h => by cases h⟩
      · go_wp2_with fail
        go_meet
        exact ⟨false, by simp, rfl, fun _ => ⟨by omega, by omega⟩⟩
  obtain ⟨bb, rfl, hwc, hbb⟩ := hcut
  rw [unhide hwc]
  clear hwc wc
  go_upto_if 44 with fail
  go_cut [3] (fun v3 wx => ∃ C : Int, v3 = .int .i64 C ∧ Hid (wx = w5) ∧ Hid ((-9223372036854775808 ≤ C ∧ C ≤ 9223372036854775807) ∧ (C = tt ∨ (fr ≤ C ∧ C < tt))))
  case first =>
    cases bb
    · go_wp2_with fail
      go_meet
      exact ⟨ct, rfl, rfl, by omega, .inr (unhide hbb (by simp))⟩
    · go_wp2_with fail
      go_meet
      exact ⟨tt, rfl, rfl, by omega, .inl rfl⟩
  clear hbb bb
  obtain ⟨C, rfl, hwc, hC⟩ := hcut
  rw [unhide hwc]
  clear hwc wc
  have dB := hide (btw_vw (unhide HV5) (unhide HLR) (unhide HS) (unhide HSE) fr C)
  have hCb := (unhide hC).1
  go_upto_if 53 with (go_at_call 14; refine (unhide dB).mono ?_; rintro e w6 ⟨p6, c6, rfl, hrow6, hb6⟩)
  have hV6 := (unhide HV5).below hb6
  have HROW6 := hide hrow6; have HV6 := hide hV6; have HB6 := hide hb6
  clear hrow6 hV6 hb6 dB
  go_cut [14] (fun v14 wx => ∃ (p : Option Addr) (c : Nat), v14 = .slice p n c ∧ Hid (Lies kD wx p (A.map fun m => (s, m))) ∧ Hid (Below w5.heap.size w5 wx))
  case first =>
    rcases (unhide hC).2 with hCt | ⟨hC1, hC2⟩
    · subst hCt
      have eA := unhide HA
      have eN := unhide HN
      have hL := own_lies kD_ok (by rw [List.length_map]) (unhide HROW6)
      rw [← eA] at hL ⊢
      rw [← eN]
      have HL := hide hL
      clear hL eA eN
      go_wp2_with fail
      go_meet
      exact ⟨p6, c6, rfl, unhide HL, unhide HB6⟩
    · obtain ⟨n1, hn1⟩ : ∃ n1, n1 = (btw S fr C).length := ⟨_, rfl⟩
      have HN1 := hide hn1
      rw [← hn1]
      clear hn1
      have dB2 := hide (btw_vw (unhide HV6) (unhide HLR) (unhide HS) (unhide HSE) (C + 1) tt)
      have hwC : IntKind.i64.wrap (C + 1) = C + 1 := by rw [IntKind.wrap_i64]; omega
      go_wp2_with fail
      refine (unhide dB2).mono ?_
      rintro e w7 ⟨p7, c7, rfl, hrow7, hb7⟩
      have hrow67 := row_keep (unhide HROW6) (W' := w7) (fun g hg => hb7.block g (row_block (unhide HROW6) hg).2.1)
      have hL7 := own_lies kD_ok (by rw [List.length_map]) hrow7
      obtain ⟨p', c7', e7, hp7, _⟩ := row_slice hrow7
      have ep : p7 = p' := by injection e7
      have ec : c7 = c7' := by injection e7
      have hsplit := btw_split (unhide HSE).up hC1 hC2
      obtain ⟨p8, c8, w8, hap8, ho8, hbe8, _, _⟩ := run_app kD_ok 30 (W := w7) (B := w5.heap.size) (L := (btw S fr C).map fun m => (s, m)) (M := (btw S (C + 1) tt).map fun m => (s, m)) hrow67 (Nat.le_trans (unhide HB6).size hb7.size) p7 c7 (fun h => by rw [ec]; exact (hp7 (by rw [← ep]; exact h)).2) hL7 (by
        rw [List.length_map]
        have h1 := congrArg List.length hsplit
        rw [List.length_append, ← unhide HA, ← unhide HN] at h1
        omega)
      rw [← List.map_append, hsplit, ← unhide HA] at ho8
      have hln : (btw S fr C).length + ((btw S (C + 1) tt).map fun m => (s, m)).length = n := by
        rw [List.length_map]
        have h1 := congrArg List.length hsplit
        rw [List.length_append, ← unhide HA, ← unhide HN] at h1
        exact h1
      rw [hln] at hap8 ho8
      rw [List.length_map, ← unhide HN1] at hap8
      have HL := hide (own_lies kD_ok (by rw [List.length_map]; exact (unhide HN).symm) ho8)
      have HB8 := hide (((unhide HB6).trans (hb7.mono (unhide HB6).size)).trans hbe8)
      have HAP8 := hide hap8
      clear hrow7 hb7 hrow67 hL7 e7 hp7 ep ec hsplit hap8 ho8 hbe8 hln dB2
      go_wp2_with (at_builtin; refine wpList_append_run rfl _ _ 30 rfl _ _ _ _ rfl rfl (unhide HAP8) ?_)
      go_meet
      exact ⟨p8, c8, rfl, unhide HL, unhide HB8⟩
  obtain ⟨p6', c6', rfl, hL6, hB6⟩ := hcut
  obtain ⟨w8, hw8⟩ : ∃ w8, w8 = wc := ⟨_, rfl⟩
  subst hw8
  have hrow8 := row_keep (unhide HROW5) (W' := w8) (fun g hg => (unhide hB6).block g (row_block (unhide HROW5) hg).2.1)
  have hL5 := own_lies kD_ok (by rw [List.length_map]; exact (unhide HN).symm) hrow8
  have dE := hide (same_any (n := n) (L := A.map fun m => (s, m)) (c1 := c5) (c2 := c6') (by rw [List.length_map]; exact (unhide HN).symm) (by omega) hL5 (unhide hL6))
  have HL5 := hide hL5
  clear hrow8 hL5 HROW6 HV6 HB6 hC hCb
  go_wp2_with fail
  refine (unhide dE).mono ?_
  rintro e w9 ⟨rfl, m9, hw9⟩
  have hB59 : Below w5.heap.size w5 w9 := by rw [hw9]; exact below_drewN (unhide hB6) m9
  have hV9 := (unhide HV5).below hB59
  have hL9 : Lies kD w9 p5 (A.map fun m => (s, m)) := by rw [hw9]; exact (unhide HL5).drewN m9
  have hB9 : Below w.heap.size w w9 := (unhide HB5).trans (hB59.mono (unhide HB5).size)
  have HV9 := hide hV9; have HL9 := hide hL9; have HB9 := hide hB9
  clear hB59 hV9 hL9 hB9 hw9 dE HL5 HV5 HB5 HROW5 hL6 hB6
  go_wp2_with fail
  go_loopw [16] (fun v16 wr => ∃ (i : Nat), v16 = .int .i64 i ∧ i ≤ n ∧ Hid (Below w9.heap.size w9 wr)) (fun v16 _ => n - (intOf v16).toNat)
  case atStart => exact ⟨0, rfl, by omega, Below.refl _ _⟩
  case round =>
    obtain ⟨i, rfl, hi, hrel⟩ := hrel
    by_cases hlt : i < n
    · have hiA : i < A.length := by rw [← unhide HN]; exact hlt
      have hLr := (unhide HL9).below (unhide hrel)
      obtain ⟨q, o, e5, hq, hr⟩ := hLr.2 i (by rw [List.length_map]; exact hiA)
      subst e5
      rw [List.getElem_map] at hr
      obtain ⟨D, G, Bq, hx⟩ : ∃ D G Bq, A[i] = (D, G, Bq) := ⟨_, _, _, rfl⟩
      rw [hx] at hr
      have hxm : (D, G, Bq) ∈ btw S fr tt := by rw [← hx, ← unhide HA]; exact List.getElem_mem _
      obtain ⟨f1, f2, f3, f4, f5, f6⟩ := day_is (unhide HSE) hxm
      simp only at f1 f2 f3 f4 f5 f6
      have hdo := day_ok (unhide HV9).ok (unhide HSE) (btw_mem.1 hxm).1
      simp only at hdo
      obtain ⟨Pq, hPq⟩ : ∃ Pq, Pq = Bq - G := ⟨_, rfl⟩
      rw [← hPq] at f5
      have hfit := (unhide HV9).fit s.data.toList D
      have hGi := hfit.1
      have hown : own (tol R0 s.data.toList) D = G := by
        have := (unhide HSE).is _ (btw_mem.1 hxm).1
        exact this.1.symm
      rw [hown] at hGi
      unfold isA at hGi
      have hprev : Hid (i = 0 ∨ ∃ (j : Nat) (Y : Int), i = j + 1 ∧ (wr.cell? ⟨q, o + j * 4 + 3, none⟩ = some (.int .i64 Pq) ∧ wr.cell? ⟨q, o + j * 4 + 1, none⟩ = some (.int .i64 Y)) ∧ Y < D ∧ q < wr.heap.size) := by
        by_cases hi0 : i = 0
        · exact .inl hi0
        · obtain ⟨j, rfl⟩ : ∃ j, i = j + 1 := ⟨i - 1, by omega⟩
          obtain ⟨q', o', e', hq', hr'⟩ := hLr.2 j (by rw [List.length_map]; omega)
          have e2 : (⟨q', o', none⟩ : Addr) = ⟨q, o, none⟩ := (Option.some.inj e').symm
          have eq1 : q' = q := congrArg Addr.block e2
          have eq2 : o' = o := congrArg Addr.off e2
          subst eq1 eq2
          rw [List.getElem_map] at hr'
          have hA := unhide HA
          subst hA
          obtain ⟨g1, g2⟩ := day_next (unhide HSE) hiA
          rw [hx] at g1 g2
          simp only at g1 g2
          rw [f5] at g2
          refine .inr ⟨j, _, rfl, ⟨?_, ?_⟩, g1, hq'⟩
          · rw [g2]; exact hr' 3 _ rfl
          · exact hr' 1 _ rfl
      have hld : (ld44 (.pointer (some ⟨q, o + i * 4, none⟩))).run Tryd.prog wr = .ok (.agg #[.string s, .int .i64 D, .int .i64 G, .int .i64 Bq]) wr := run_loadAt_mid (P := Tryd.prog) _ q (o + i * 4) 44 [.string s, .int .i64 D, .int .i64 G, .int .i64 Bq] _ hr Tryd.underlying44 rfl size44
      obtain ⟨X, hX⟩ : ∃ X, X = Obj.cells #[.string s, .int .i64 D, .int .i64 G, .int .i64 Bq] 44 := ⟨_, rfl⟩
      obtain ⟨wX, hwX⟩ : ∃ wX, wX = wr.alloc X := ⟨_, rfl⟩
      have hbX : Below wr.heap.size wr wX := by rw [hwX]; exact bal (Below.refl _ _) X
      have hcX : wX.rangeAt wr.heap.size 0 [.string s, .int .i64 D, .int .i64 G, .int .i64 Bq] := fun j u hu => by
        rw [hwX, hX, World.cell?_alloc_mark, Nat.zero_add]
        simpa using hu
      have hwXs : wr.heap.size < wX.heap.size := by rw [hwX]; simp
      have hV9r := (unhide HV9).below (unhide hrel)
      have hVX := hV9r.below hbX
      have dT := hide (at_vw hVX (unhide HLR) (unhide HS) (D - 1))
      rw [f5] at dT
      have hw1 : IntKind.i64.wrap (D - 1) = D - 1 := by rw [IntKind.wrap_i64]; omega
      have hw2 : IntKind.i64.wrap (Bq - Pq) = G := by rw [IntKind.wrap_i64]; omega
      have c1X := hcX 1 _ rfl
      have HHX := hide hcX; have HVX := hide hVX; have HBX := hide hbX; have HWX := hide hwXs
      have HF4 := hide f4; have HF6 := hide f6
      clear hr hx hxm f4 f5 f6 hdo hfit hown hLr hbX hcX hwXs hV9r hVX hPq hiA hGi hq
      rw [hwX] at c1X
      subst hwX hX
      rw [Nat.zero_add] at c1X
      go_wp2_with fail
      refine (unhide dT).mono ?_
      rintro e wa ⟨rfl, hba⟩
      have hVa := (unhide HVX).below hba
      have hra : wa.rangeAt wr.heap.size 0 [.string s, .int .i64 D, .int .i64 G, .int .i64 Bq] := fun j u hu => (hba.cell (p := ⟨wr.heap.size, 0 + j, none⟩) (unhide HWX)).trans (unhide HHX j u hu)
      have c1a := hra 1 _ rfl
      rw [Nat.zero_add] at c1a
      have dB := hide (btw_vw hVa (unhide HLR) (unhide HS) (unhide HSE) D D)
      rw [unhide HF6] at dB
      have HVA := hide hVa; have HRA := hide hra; have HBA := hide hba
      have HWA : Hid (wr.heap.size < wa.heap.size) := Nat.lt_of_lt_of_le (unhide HWX) hba.size
      clear hVa hra hba dT c1X hld
      go_wp2_with fail
      refine (unhide dB).mono ?_
      rintro e wb ⟨p1, k1, rfl, hrow1, hb1⟩
      have hls := own_lies kD_ok rfl hrow1
      obtain ⟨b1, o1, e1, hlt1, hr1⟩ := hls.2 0 (by simp)
      subst e1
      have eln : ([(D, G, Bq)] : List Mk).length = 1 := rfl
      rw [eln]
      have hr1' : wb.rangeAt b1 o1 [.string s, .int .i64 D, .int .i64 G, .int .i64 Bq] := fun j u hu => by
        have := hr1 j u hu
        simpa using this
      have HWB : Hid (wr.heap.size < wb.heap.size) := Nat.lt_of_lt_of_le (unhide HWA) hb1.size
      have cX : ∀ (P : Bel wb), P.W.rangeAt wr.heap.size 0 [.string s, .int .i64 D, .int .i64 G, .int .i64 Bq] := fun P j u hu => (P.h.cell (p := ⟨wr.heap.size, 0 + j, none⟩) (unhide HWB)).trans ((hb1.cell (p := ⟨wr.heap.size, 0 + j, none⟩) (unhide HWA)).trans (unhide HRA j u hu))
      have P0 : ∀ P : Bel wb, P.W.cell? ⟨wr.heap.size, 0, none⟩ = some (.string s) := fun P => cX P 0 _ rfl
      have P1 : ∀ P : Bel wb, P.W.cell? ⟨wr.heap.size, 1, none⟩ = some (.int .i64 D) := fun P => by have := cX P 1 _ rfl; rwa [Nat.zero_add] at this
      have P2 : ∀ P : Bel wb, P.W.cell? ⟨wr.heap.size, 2, none⟩ = some (.int .i64 G) := fun P => by have := cX P 2 _ rfl; rwa [Nat.zero_add] at this
      have P3 : ∀ P : Bel wb, P.W.cell? ⟨wr.heap.size, 3, none⟩ = some (.int .i64 Bq) := fun P => by have := cX P 3 _ rfl; rwa [Nat.zero_add] at this
      have L1 : ∀ P : Bel wb, (ld44 (.pointer (some ⟨wr.heap.size, 0, none⟩))).run Tryd.prog P.W = .ok (.agg #[.string s, .int .i64 D, .int .i64 G, .int .i64 Bq]) P.W := fun P => run_loadAt_mid (P := Tryd.prog) _ wr.heap.size 0 44 _ _ (cX P) Tryd.underlying44 rfl size44
      have L2 : ∀ P : Bel wb, (ld44 (.pointer (some ⟨b1, o1, none⟩))).run Tryd.prog P.W = .ok (.agg #[.string s, .int .i64 D, .int .i64 G, .int .i64 Bq]) P.W := fun P => run_loadAt_mid (P := Tryd.prog) _ b1 o1 44 _ _ (fun j u hu => (P.h.cell (p := ⟨b1, o1 + j, none⟩) hlt1).trans (hr1' j u hu)) Tryd.underlying44 rfl size44
      have hVb := (unhide HVA).below hb1
      have HAT : Hid (∀ P : Bel wb, Calls Tryd.prog 11 #[.pointer (some ⟨w1.heap.size, 0, none⟩), .string s, .int .i64 D] P.W fun e w'' => e = .returned (.int .i64 Bq) ∧ ∃ q : Bel wb, w'' = q.W) := fun P => by
        refine (at_vw (hVb.below P.h) (unhide HLR) (unhide HS) D).mono ?_
        rintro e w'' ⟨rfl, hb''⟩
        rw [← unhide HF4]
        exact ⟨rfl, ⟨w'', P.h.trans (hb''.mono P.h.size)⟩, rfl⟩
      have HPV : Hid (∀ P : Bel wb, i = 0 ∨ ∃ (j : Nat) (Y : Int), i = j + 1 ∧ (P.W.cell? ⟨q, o + j * 4 + 3, none⟩ = some (.int .i64 Pq) ∧ P.W.cell? ⟨q, o + j * 4 + 1, none⟩ = some (.int .i64 Y)) ∧ Y < D) := fun P => by
        rcases unhide hprev with h | ⟨j, Y, h1, ⟨h2, h3⟩, h4, h5⟩
        · exact .inl h
        · have hk : ∀ k v, wr.cell? ⟨q, k, none⟩ = some v → P.W.cell? ⟨q, k, none⟩ = some v := fun k v h => by
            have a1 := ((unhide HBX).cell (p := ⟨q, k, none⟩) h5).trans h
            have h6 := unhide HWX
            have a2 := ((unhide HBA).cell (p := ⟨q, k, none⟩) (show q < _ by omega)).trans a1
            have h7 := unhide HWA
            have a3 := (hb1.cell (p := ⟨q, k, none⟩) (show q < _ by omega)).trans a2
            have h8 := unhide HWB
            exact (P.h.cell (p := ⟨q, k, none⟩) (show q < _ by omega)).trans a3
          exact .inr ⟨j, Y, h1, ⟨hk _ _ h2, hk _ _ h3⟩, h4⟩
      have HNX : Hid (∀ P : Bel wb, Below w9.heap.size w9 P.W) := fun P => by
        have a1 : Below wr.heap.size wr wb := ((unhide HBX).trans ((unhide HBA).mono (Nat.le_of_lt (unhide HWX)))).trans (hb1.mono (Nat.le_of_lt (unhide HWA)))
        exact (unhide hrel).trans ((a1.trans (P.h.mono (Nat.le_of_lt (unhide HWB)))).mono (unhide hrel).size)
      have hst := st44
      have hsh := sh44
      have heg := eg44
      have heq := eq44_same
      have t1 : decide (D < fr) = false := decide_eq_false (by omega)
      have t2 : decide (D > tt) = false := decide_eq_false (by omega)
      have t3 : decide (G = 0) = false := decide_eq_false f3
      have t4 : (G == 0) = false := by simpa using f3
      have t5 : ¬ D < fr := by omega
      have t6 : ¬ tt < D := by omega
      have t7 : decide (tt < D) = false := decide_eq_false t6
      clear hrow1 hls hr1 hr1' hb1 hVb cX dB eln c1a hprev hlt1
      go_upto_region 20 with fail
      refine wp_region_quiet_below (by kernel_rfl) (by kernel_rfl) ?_
      repeat (go_big_quiet_step (first | (go_at_call 11; refine unhide HAT _)))
      refine wpQuiet_nil ?_
      rintro _ ⟨P, rfl⟩
      have HNP : Hid (∀ m : Nat, Below w9.heap.size w9 (P.W.drewN m)) := fun m => below_drewN (unhide HNX P) m
      have d2 := P2 P
      have d3 := P3 P
      have d1 := P1 P
      rcases unhide HPV P with hi0 | ⟨j, Y, hij, ⟨hy3, hy1⟩, hYD⟩
      · subst hi0
        clear P0 P1 P2 P3 L1 L2 HPV HAT
        have z1 : (G != G) = false := by simp
        go_wp2_with fail
        go_quiet (fail)
        go_wp2_with fail
        refine ⟨⟨0 + 1, by simp, by omega, unhide HNP _⟩, by simp [intOf]; omega⟩
      · subst hij
        clear P0 P1 P2 P3 L1 L2 HPV HAT
        have z1 : (G != G) = false := by simp
        have z2 : (Pq != Pq) = false := by simp
        have z3 : decide (D ≤ Y) = false := decide_eq_false (by omega)
        have z4 : ¬ D ≤ Y := by omega
        have z5 : IntKind.i64.wrap (((j + 1 : Nat) : Int) - 1) = (j : Int) := by rw [IntKind.wrap_i64]; omega
        have z6 : IntKind.i64.wrap ((j : Int) + 1 - 1) = (j : Int) := by rw [IntKind.wrap_i64]; omega
        have z7 : (0 : Int) < (j : Int) + 1 := by omega
        have z8 : j < n := by omega
        have z9 : IntKind.i64.wrap (j : Int) = (j : Int) := by rw [IntKind.wrap_i64]; omega
        go_wp2_with fail
        go_quiet (fail)
        go_wp2_with fail
        refine ⟨⟨j + 1 + 1, by simp, by omega, unhide HNP _⟩, by simp [intOf]; omega⟩
    · have hin : i = n := by omega
      subst hin
      have HBF := hide ((unhide HB9).trans ((unhide hrel).mono (unhide HB9).size))
      go_wp2_with fail
      go_ret
      exact ⟨rfl, unhide HBF⟩
end Go.Proofs.YtenoaechonpjgaaDoor
