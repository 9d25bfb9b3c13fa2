/- SumsTree (5): its walk. -/
import Derived.Test.YtgohddimnphbkaaDoorTrB
import Derived.Test.YtgohddimnphbkaaDoorBkA
namespace Go.Proofs.YtgohddimnphbkaaDoor
open Go Go.RowKit Go.Shelf Go.ChangeShapes Go.WideShapes Go.ChangeAt Go.Maps Go.Sort
set_option linter.unusedVariables false
attribute [local go_sem ↓] ld50_is s50_is
theorem wrap64_is (x : Int) : wrap64 x = IntKind.i64.wrap x := by rw [IntKind.wrap_i64, wrap64]
theorem wrap_wrap (x : Int) : IntKind.i64.wrap (IntKind.i64.wrap x) = IntKind.i64.wrap x := by
  simp only [IntKind.wrap_i64]
  omega
theorem box_at (W : World) (b : Nat) (a : Array Value) (t : TypeId) (hb : b = W.heap.size) (j : Nat) (u : Value) (hu : a.toList[j]? = some u) : (W.alloc (.cells a t)).cell? ⟨b, j, none⟩ = some u := by
  subst hb
  rw [World.cell?_alloc_mark]
  simpa using hu
theorem heap_drewN (w : World) (m : Nat) : (w.drewN m).heap = w.heap := by simp
set_option maxRecDepth 100000 in
set_option maxHeartbeats 8000000 in
theorem tree_walk (R0 : List Ro) (h0 : Can R0) (pu : Option Addr) (cu : Nat) (w : World) (hcu : pu = none → cu = 0) (hI0 : RowsIn w pu R0) :
    Calls Tryd.prog 5 #[.slice pu R0.length cu] w fun e w' => e = .returned (.bool true) ∧ Below w.heap.size w w' := by
  have H0 := hide h0; have HI0 := hide hI0; have HCU := hide hcu
  obtain ⟨N0, hN0⟩ : ∃ N, N = R0.length := ⟨_, rfl⟩
  rw [← hN0]
  have HN0 := hide hN0
  have dF := hide (first_any w)
  clear hcu hI0 hN0 h0
  go_enter Tryd.func5, Tryd.ntmps5
  go_wp2_with fail
  refine (unhide dF).mono ?_
  rintro e w1 ⟨rfl, hb1⟩
  obtain ⟨O2, hO2⟩ : ∃ O, O = Obj.cells #[.map none, .map none, .int .i64 0, .int .i64 0] 56 := ⟨_, rfl⟩
  have dN := hide (new_any w1)
  rw [← hO2] at dN
  have hV2 : View (w1.alloc O2) w1.heap.size none none 0 [] := by rw [hO2]; exact View.made w1 0
  have hz1 := hb1.size
  have hB2 : Below w.heap.size w (w1.alloc O2) := hb1.alloc (by omega) O2
  have hs2 : (w1.alloc O2).heap.size = w1.heap.size + 1 := by simp
  obtain ⟨w2, hw2⟩ : ∃ w2, w2 = w1.alloc O2 := ⟨_, rfl⟩
  rw [← hw2] at hV2 hB2 hs2 dN
  obtain ⟨p3, c3, w3, hap, hR3, hp3, hb3⟩ := run_append_rows w2 22 pu cu R0 (unhide HCU) ((unhide HI0).below hB2) (by have := (unhide H0).len; omega)
  rw [← unhide HN0] at hap
  have hV3 := hV2.below hb3
  have dA := hide (apply_view (cR := c3) hV3 (by omega) (by have := (unhide H0).len; omega) hR3 (fun q h => by have := hp3 q h; omega) (unhide H0).acc (unhide H0).amt)
  rw [← unhide HN0] at dA
  have HAP := hide hap; have HB2 := hide hB2; have HB3 := hide hb3; have HZ1 := hide hz1; have HS2 := hide hs2
  clear hap hB2 hb3 hV3 hV2 hz1 hs2 hR3 hp3 hb1 hw2 hO2 dF
  go_wp2_with fail
  refine (unhide dN).mono ?_
  rintro e wx ⟨rfl, hw⟩
  rw [hw]
  clear hw wx dN
  go_wp2_with (at_builtin; refine wpList_append_run rfl _ _ 22 rfl _ _ _ _ rfl rfl (unhide HAP) ?_)
  refine (unhide dA).mono ?_
  rintro e w4 hO
  rcases hO with ⟨hno, ⟨x, rfl, hx⟩, hb4⟩ | ⟨hok0, rfl, mo, mr, hV4, hst4⟩
  · have HB4 : Hid (Below w.heap.size w w4) := (unhide HB2).trans (((unhide HB3).trans (hb4.mono (unhide HB3).size)).mono (by have := unhide HS2; have := unhide HZ1; omega))
    have hxb : (x != 0) = true := by rcases hx with rfl | rfl <;> rfl
    have hxb2 : (x == 0) = false := by rcases hx with rfl | rfl <;> rfl
    clear hb4 hno hx
    go_wp2_with fail
    go_ret
    exact ⟨rfl, unhide HB4⟩
  rw [List.nil_append] at hV4
  have hB3 : Below w.heap.size w w3 := (unhide HB2).trans ((unhide HB3).mono (by have := unhide HS2; have := unhide HZ1; omega))
  have hB4 : Below w.heap.size w w4 := hB3.trans (hst4.fr.toBelow (by have := unhide HZ1; have := unhide HS2; have := (unhide HB3).size; omega) (fun k hk => by
    have h1 := unhide HZ1
    rcases hk with rfl | hk | hk
    · omega
    · cases hk
    · cases hk))
  have hn4 : 0 + 7 * R0.length ≤ 68719476736 := by have := (unhide H0).len; omega
  have dS := hide (state_view hV4 hn4)
  have HV4 := hide hV4; have HB4 := hide hB4; have HN4 := hide hn4
  clear hV4 hB4 hok0 hn4 hB3 hst4 dA HAP HB2 HB3
  go_wp2_with fail
  refine (unhide dS).mono ?_
  rintro e w5 ⟨v5, hs5, rfl, hbal5, hlen5, hb5⟩
  obtain ⟨L, hL⟩ : ∃ L, L = rws R0 := ⟨_, rfl⟩
  have hV5 := (unhide HV4).below hb5
  have dT := hide (trial_any w1.heap.size mo mr (0 + 7 * R0.length) (unhide HN4) _ _ _ _ w5 hV5.at' (fits_own hV5.ok) (named_own hV5.nm))
  have HV5 := hide hV5; have HBAL := hide hbal5; have HB5 := hide ((unhide HB4).trans (hb5.mono (unhide HB4).size)); have HL5 := hide hlen5
  clear hV5 hbal5 hlen5 hb5 dS
  go_wp2_with fail
  refine (unhide dT).mono ?_
  rintro e w6 ⟨v6, ss6, rfl, hnd6, hmem6, hlen6, hrow6, hb6⟩
  have hV6 := (unhide HV5).below hb6
  have dQ := hide (totals_any _ _ _ _ _ _ _ _ w6 hV6.at')
  have hbal6 := (unhide HBAL).keep (W' := w6) (fun g hg => hb6.block g (row_block (unhide HBAL).row hg).2.1)
  have HV6 := hide hV6; have HBAL6 := hide hbal6; have HB6 := hide ((unhide HB5).trans (hb6.mono (unhide HB5).size)); have HROW6 := hide hrow6; have HL6 := hide hlen6; have HT := hide (trial_is hbal6.nd hbal6.mem hnd6 hmem6)
  clear hV6 hbal6 hrow6 hlen6 hb6 hnd6 hmem6 dT HBAL HV5
  go_wp2_with fail
  refine (unhide dQ).mono ?_
  rintro e w7 ⟨rfl, m7, hw7⟩
  have hh7 : w7.heap = w6.heap := by rw [hw7]; exact heap_drewN _ _
  have HB7 : Hid (Below w.heap.size w w7) := by rw [hw7]; exact below_drewN (unhide HB6) m7
  have hV7 : View w7 w1.heap.size mo mr (0 + 7 * R0.length) L := by rw [hL]; exact (unhide HV6).block (fun k _ => by rw [hh7])
  have hbal7 : Bal w7 w4.heap.size L v5 hs5 := by rw [hL]; exact (unhide HBAL6).keep (fun g _ => by rw [hh7])
  have hrow7 : w7.ownsRow w5.heap.size 50 3 v6 ss6.length (colC (own L) (srt ss6)) := by rw [hL]; exact row_keep (unhide HROW6) (fun g _ => by rw [hh7])
  obtain ⟨S, hS⟩ : ∃ S, S = srt hs5 := ⟨_, rfl⟩
  have hSl : S.length = hs5.length := by rw [hS, srt_len]
  have hT : srt ss6 = S.filter (tpH L) := by rw [hS, hL]; exact unhide HT
  have hTl : ss6.length = (S.filter (tpH L)).length := by rw [← hT, srt_len]
  rw [hT, hTl] at hrow7
  have hrowS := hbal7.row
  rw [← hS, ← hSl] at hrowS
  have hAll : (∀ n, ws (tfR L n) (own L n) S = roll ups L n) ∧ ws (tfT L) 0 S = IntKind.i64.wrap (DEB L - CRE L) ∧ ws (tfU L) 0 S = DEB L ∧ ws (tfD L) 0 S = CRE L := by
    rw [hS]
    exact ⟨in_all hV7.ok hbal7.nd hbal7.mem, roots_all hbal7.nd hbal7.mem, up_all hV7.ok hbal7.nd hbal7.mem, down_all hV7.ok hbal7.nd hbal7.mem⟩
  have hSnm : ∀ k ∈ S, k.length < 4611686018427387904 := fun k hk => by
    rw [hS, srt_mem, hbal7.mem] at hk
    obtain ⟨x, hx, hm⟩ := hk
    have h1 := (named_own hV7.nm x hx).2
    rcases List.mem_cons.1 hm with rfl | hm
    · exact h1
    · have := ((below_iff _ _).1 hm).1
      omega
  have hSb : S.length ≤ 412316860416 := by have := unhide HL5; have := unhide HN4; omega
  obtain ⟨n, hn⟩ : ∃ n, n = S.length := ⟨_, rfl⟩
  obtain ⟨t, ht⟩ : ∃ t, t = (S.filter (tpH L)).length := ⟨_, rfl⟩
  rw [← hn] at hrowS hSb
  rw [← ht] at hrow7
  obtain ⟨pS, cS, e5⟩ : ∃ p c, v5 = .slice p n c := by
    rcases hrowS.2 with ⟨e, h2⟩ | ⟨g, cap, cur, e, _⟩
    · exact ⟨none, 0, by rw [e, h2]⟩
    · exact ⟨_, _, e⟩
  obtain ⟨pT, cT, e6⟩ : ∃ p c, v6 = .slice p t c := by
    rcases hrow7.2 with ⟨e, h2⟩ | ⟨g, cap, cur, e, _⟩
    · exact ⟨none, 0, by rw [e, h2]⟩
    · exact ⟨_, _, e⟩
  have hcn : cP (tpH L) S = t := ht.symm
  have htn : t ≤ n := by rw [ht, hn]; exact List.length_filter_le _ _
  obtain ⟨A, hA⟩ : ∃ A, A = DEB L := ⟨_, rfl⟩
  obtain ⟨C, hC⟩ : ∃ A, A = CRE L := ⟨_, rfl⟩
  rw [← hL, ← hA, ← hC]
  rw [← hA, ← hC] at hAll
  have htot : Hid (IntKind.i64.wrap (tot (rws R0)) = IntKind.i64.wrap (A - C)) := by
    show _ = _
    rw [← hL, hA, hC]
    unfold DEB CRE
    rw [sides_tot L (nodup_nub _) (own_in L)]
  have HV7 := hide hV7; have HROWS := hide hrowS; have HROW7 := hide hrow7; have HALL := hide hAll; have HSNM := hide hSnm; have HSN := hide hn; have HTN := hide ht; have HCN := hide hcn; have HT7 := hide hT
  have HL := hide hL
  clear hw7 hh7 hV7 hbal7 hrow7 hSl hT hTl hrowS hAll hSnm hn ht hcn hS hL hA hC dQ HV6 HBAL6 HB6 HROW6 HT HL5 HL6 HB5 HV4
  subst e5 e6
  go_wp2_with fail
  go_loopw [9, 10, 11, 12, 13] (fun v9 v10 v11 v12 v13 wr => ∃ (i kk : Nat) (U D T : Int), v13 = .int .i64 i ∧ i ≤ n ∧ v9 = .int .i64 kk ∧ v10 = .int .i64 U ∧ v11 = .int .i64 D ∧ v12 = .int .i64 T ∧ Hid ((kk = cP (tpH L) (S.take i) ∧ U = ws (tfU L) 0 (S.take i) ∧ D = ws (tfD L) 0 (S.take i) ∧ T = ws (tfT L) 0 (S.take i)) ∧ Below w7.heap.size w7 wr)) (fun _ _ _ _ v13 _ => n - (intOf v13).toNat)
  case atStart => exact ⟨0, 0, 0, 0, 0, rfl, by omega, rfl, rfl, rfl, rfl, ⟨rfl, (ws_nil _ ⟨by decide, by decide⟩).symm, (ws_nil _ ⟨by decide, by decide⟩).symm, (ws_nil _ ⟨by decide, by decide⟩).symm⟩, Below.refl _ _⟩
  case round =>
    obtain ⟨i, kk, U, D, T, rfl, hi, rfl, rfl, rfl, rfl, hrel⟩ := hrel
    obtain ⟨wo, hwo⟩ : ∃ wo, wo = wr := ⟨_, rfl⟩
    subst hwo
    have HREL := hrel
    clear hrel
    by_cases hlt : i < n
    · have hiS : i < S.length := by rw [← unhide HSN]; exact hlt
      have hbr := (unhide HREL).2
      have hrowr := row_keep (unhide HROWS) (W' := wo) (fun g hg => hbr.block g (row_block (unhide HROWS) hg).2.1)
      obtain ⟨q, dq, eq, _⟩ := row3_cells (unhide HSN).symm hrowr hiS
      have hpS : pS = some ⟨q, 0, none⟩ := by injection eq
      subst hpS
      clear eq
      obtain ⟨s, hs⟩ : ∃ s : ByteArray, s = ⟨(S[i]).toArray⟩ := ⟨_, rfl⟩
      have hse : encStr S[i] = .string s := by rw [hs]
      have hsl : s.data.toList = S[i] := by rw [hs]
      have hss : s.size < 4611686018427387904 := by
        have e : s.size = (S[i]).length := by rw [hs]; simp [ByteArray.size]
        rw [e]
        exact unhide HSNM _ (List.getElem_mem hiS)
      obtain ⟨F, hF⟩ : ∃ F, F = own L S[i] := ⟨_, rfl⟩
      obtain ⟨G, hG⟩ : ∃ F, F = roll ups L S[i] := ⟨_, rfl⟩
      obtain ⟨c0, c1, c2⟩ := row3_at (unhide HSN).symm hrowr hiS
      rw [hse] at c0
      rw [← hF] at c1
      rw [← hG] at c2
      have HROWR := hide hrowr; have HF := hide hF; have HG := hide hG; have HSE := hide hsl
      have HFA : Hid (isA F) := by show isA F; rw [hF]; exact fits_own (unhide HV7).ok _
      clear hrowr hF hG hse hsl hs hbr
      go_wp2_with fail
      go_loopw [14, 15] (fun v14 v15 wi => ∃ (j m : Nat) (X : Int), v15 = .int .i64 j ∧ j ≤ n ∧ v14 = .int .i64 X ∧ Hid (X = ws (tfR L S[i]) (own L S[i]) (S.take j) ∧ wi = wo.drewN m)) (fun _ v15 _ => n - (intOf v15).toNat)
      case atStart => exact ⟨0, 0, F, rfl, by omega, rfl, by rw [List.take_zero, ← unhide HF]; exact (ws_nil _ (unhide HFA)).symm, rfl⟩
      case round =>
        obtain ⟨j, m, X, rfl, hj, rfl, hrel⟩ := hrel
        have c0i : wr.cell? ⟨q, i * 3, none⟩ = some (.string s) := by rw [(unhide hrel).2]; simpa using c0
        have c1i : wr.cell? ⟨q, i * 3 + 1, none⟩ = some (.int .i64 F) := by rw [(unhide hrel).2]; simpa using c1
        have c2i : wr.cell? ⟨q, i * 3 + 2, none⟩ = some (.int .i64 G) := by rw [(unhide hrel).2]; simpa using c2
        clear c0 c1 c2
        by_cases hjl : j < n
        · have hjS : j < S.length := by rw [← unhide HSN]; exact hjl
          obtain ⟨sj, hsj⟩ : ∃ s : ByteArray, s = ⟨(S[j]).toArray⟩ := ⟨_, rfl⟩
          have hsej : encStr S[j] = .string sj := by rw [hsj]
          have hslj : sj.data.toList = S[j] := by rw [hsj]
          have hssj : sj.size < 4611686018427387904 := by
            have e : sj.size = (S[j]).length := by rw [hsj]; simp [ByteArray.size]
            rw [e]
            exact unhide HSNM _ (List.getElem_mem hjS)
          obtain ⟨Gj, hGj⟩ : ∃ F, F = roll ups L S[j] := ⟨_, rfl⟩
          obtain ⟨d0, _, d2⟩ := row3_at (unhide HSN).symm (unhide HROWR) hjS
          rw [hsej] at d0
          rw [← hGj] at d2
          have d0i : wr.cell? ⟨q, j * 3, none⟩ = some (.string sj) := by rw [(unhide hrel).2]; simpa using d0
          have d2i : wr.cell? ⟨q, j * 3 + 2, none⟩ = some (.int .i64 Gj) := by rw [(unhide hrel).2]; simpa using d2
          have HSJ := hide hslj; have HGJ := hide hGj
          have dB := hide (below_any sj s hssj hss)
          clear d0 d2 hsej hslj hGj hsj
          cases hub : undB sj s
          · have hstep : Hid (X = ws (tfR L S[i]) (own L S[i]) (S.take (j + 1)) ∧ ∀ nq, wr.drewN nq = wo.drewN (m + nq)) := by
              refine ⟨?_, fun nq => by rw [(unhide hrel).2, drew_two]⟩
              have h := not_right hub
              rw [unhide HSJ, unhide HSE] at h
              rw [take_snoc S j hjS, ws_same _ _ _ _ (if_neg h)]
              exact (unhide hrel).1
            rw [hub] at dB
            clear hub HSJ HGJ d2i
            as_aux_lemma =>
              go_wp2_with fail
              go_quiet (first | (go_at_call 11; refine Calls.quiet_of_same (unhide dB _)))
              go_wp2_with fail
              exact ⟨⟨j + 1, m + nq, X, by simp, by omega, rfl, (unhide hstep).1, (unhide hstep).2 nq⟩, by simp [intOf]; omega⟩
          · have hul := und_lt hub
            have hul2 : (s.size : Int) + 1 ≤ (sj.size : Int) := by omega
            have hrx : (sj.extract (s.size + 1) sj.size).size < 4611686018427387904 := by rw [ByteArray.size_extract]; omega
            have dX := hide (root_any (sj.extract (s.size + 1) sj.size) hrx)
            have hri := right_is sj s hub
            rw [unhide HSJ, unhide HSE] at hri
            rw [hub] at dB
            cases hrt : rtB (sj.extract (s.size + 1) sj.size)
            · have hstep : Hid (X = ws (tfR L S[i]) (own L S[i]) (S.take (j + 1)) ∧ ∀ nq, wr.drewN nq = wo.drewN (m + nq)) := by
                refine ⟨?_, fun nq => by rw [(unhide hrel).2, drew_two]⟩
                rw [hrt] at hri
                rw [take_snoc S j hjS, ws_same _ _ _ _ (if_neg (of_decide_eq_false hri.symm))]
                exact (unhide hrel).1
              rw [hrt] at dX
              clear hub HSJ HGJ d2i hri hrt hrx
              as_aux_lemma =>
                go_wp2_with fail
                go_quiet (first | (go_at_call 11; refine Calls.quiet_of_same (unhide dB _)) | (go_at_call 16; refine Calls.quiet_of_same (unhide dX _)))
                go_wp2_with fail
                exact ⟨⟨j + 1, m + nq, X, by simp, by omega, rfl, (unhide hstep).1, (unhide hstep).2 nq⟩, by simp [intOf]; omega⟩
            · obtain ⟨Y, hY⟩ : ∃ Y, IntKind.i64.wrap (X + Gj) = Y := ⟨_, rfl⟩
              have hstep : Hid (Y = ws (tfR L S[i]) (own L S[i]) (S.take (j + 1)) ∧ ∀ nq, wr.drewN nq = wo.drewN (m + nq)) := by
                refine ⟨?_, fun nq => by rw [(unhide hrel).2, drew_two]⟩
                rw [hrt] at hri
                rw [take_snoc S j hjS, ws_snoc, ← (unhide hrel).1, ← hY]
                have e : tfR L S[i] S[j] = Gj := by unfold tfR; rw [if_pos (of_decide_eq_true hri.symm)]; exact (unhide HGJ).symm
                rw [e]
              rw [hrt] at dX
              clear hub HSJ HGJ hri hrt hrx
              as_aux_lemma =>
                go_wp2_with fail
                go_quiet (first | (go_at_call 11; refine Calls.quiet_of_same (unhide dB _)) | (go_at_call 16; refine Calls.quiet_of_same (unhide dX _)))
                go_wp2_with fail
                exact ⟨⟨j + 1, m + nq, Y, by simp, by omega, rfl, (unhide hstep).1, (unhide hstep).2 nq⟩, by simp [intOf]; omega⟩
        · have hjn : j = n := by omega
          subst hjn
          have hXG : X = G := by
            rw [(unhide hrel).1, List.take_of_length_le (by rw [← unhide HSN]; omega), (unhide HALL).1, ← unhide HG]
          subst hXG
          have hbr : Below w7.heap.size w7 wr := by rw [(unhide hrel).2]; exact below_drewN (unhide HREL).2 m
          have hVr := (unhide HV7).below hbr
          have hsm : s.size ≤ maxLen := by unfold maxLen; omega
          have dO : Hid (∀ d', Calls Tryd.prog 17 #[.pointer (some ⟨w1.heap.size, 0, none⟩), .string s] (wr.drewN d') fun e w' => e = .returned (.int .i64 F) ∧ w' = wr.drewN d') := fun d' => by
            have h := own_any s hsm _ _ _ _ _ _ _ _ (wr.drewN d') (hVr.at'.block (fun k _ => by rw [heap_drewN]))
            rw [unhide HSE, ← unhide HF] at h
            exact h
          have dG : Hid (∀ d', Calls Tryd.prog 10 #[.pointer (some ⟨w1.heap.size, 0, none⟩), .string s] (wr.drewN d') fun e w' => e = .returned (.int .i64 X) ∧ w' = wr.drewN d') := fun d' => by
            have h := roll_any s hsm _ _ _ _ _ _ _ _ (wr.drewN d') (hVr.at'.block (fun k _ => by rw [heap_drewN]))
            rw [unhide HSE, ← unhide HG] at h
            exact h
          have hXX : (X != X) = false := by simp
          have hFF : (F != F) = false := by simp
          have dT := hide (root_any s hss)
          have HBR := hide hbr
          clear hbr hVr hsm
          go_wp2_with fail
          go_quiet (first | (go_at_call 17; refine Calls.quiet_of_same (unhide dO _)) | (go_at_call 10; refine Calls.quiet_of_same (unhide dG _)))
          clear dO dG
          go_wp2_with fail
          refine (unhide dT _).mono ?_
          rintro e wz ⟨rfl, hw⟩
          rw [hw]
          clear hw wz dT
          have hrt := rt_is s
          rw [unhide HSE] at hrt
          have hUw : IntKind.i64.wrap U = U := by rw [(unhide HREL).1.2.1]; exact wrap_wrap _
          have hDw : IntKind.i64.wrap D = D := by rw [(unhide HREL).1.2.2.1]; exact wrap_wrap _
          obtain ⟨b, hb⟩ : ∃ b, b = rtB s := ⟨_, rfl⟩
          rw [← hb] at hrt ⊢
          obtain ⟨T2, hT2⟩ : ∃ T2, T2 = if b = true then IntKind.i64.wrap (T + X) else T := ⟨_, rfl⟩
          have HT2 : Hid (T2 = ws (tfT L) 0 (S.take (i + 1))) := by
            show _ = _
            rw [hT2, take_snoc S i hiS]
            cases b
            · rw [if_neg (by decide), ws_same _ _ _ _ (if_neg (of_decide_eq_false hrt.symm))]
              exact (unhide HREL).1.2.2.2
            · rw [if_pos rfl, ws_snoc, ← (unhide HREL).1.2.2.2]
              have e : tfT L S[i] = X := by unfold tfT; rw [if_pos (of_decide_eq_true hrt.symm)]; exact (unhide HG).symm
              rw [e]
          have hkz : (kk : Int) + 1 ≤ 412316860417 := by
            have h1 := (unhide HREL).1.1
            have h2 : cP (tpH L) (S.take i) ≤ i := by
              refine Nat.le_trans (List.length_filter_le _ _) ?_
              rw [List.length_take]
              omega
            omega
          have hTb : (b = true → IntKind.i64.wrap (T + X) = T2) ∧ (b = false → T = T2) := ⟨fun h => by rw [hT2, if_pos h], fun h => by rw [hT2, if_neg (by rw [h]; decide)]⟩
          clear hrt hb hT2
          by_cases hF0 : F = 0
          · have hf : (F == 0) = true := by rw [hF0]; rfl
            have hfin : Hid ((kk = cP (tpH L) (S.take (i + 1)) ∧ U = ws (tfU L) 0 (S.take (i + 1)) ∧ D = ws (tfD L) 0 (S.take (i + 1)) ∧ T2 = ws (tfT L) 0 (S.take (i + 1))) ∧ ∀ nq, Below w7.heap.size w7 (wr.drewN nq)) := by
              have h0 : own L S[i] = 0 := by rw [← unhide HF]; exact hF0
              refine ⟨⟨?_, ?_, ?_, unhide HT2⟩, fun nq => below_drewN (unhide HBR) nq⟩
              · rw [take_snoc S i hiS, cP_snoc, if_neg (by unfold tpH; rw [h0]; decide)]
                exact (unhide HREL).1.1
              · rw [take_snoc S i hiS, ws_same _ _ _ _ (by unfold tfU; rw [h0]; rfl)]
                exact (unhide HREL).1.2.1
              · rw [take_snoc S i hiS, ws_same _ _ _ _ (by unfold tfD; rw [h0]; rfl)]
                exact (unhide HREL).1.2.2.1
            clear HT2
            cases b
            · have hTT := hTb.2 rfl
              as_aux_lemma =>
                go_wp2_with fail
                exact ⟨⟨i + 1, kk, U, D, T2, by simp, by omega, rfl, rfl, rfl, rfl, (unhide hfin).1, (unhide hfin).2 _⟩, by simp [intOf]; omega⟩
            · have hTT := hTb.1 rfl
              as_aux_lemma =>
                go_wp2_with fail
                exact ⟨⟨i + 1, kk, U, D, T2, by simp, by omega, rfl, rfl, rfl, rfl, (unhide hfin).1, (unhide hfin).2 _⟩, by simp [intOf]; omega⟩
          · have hf : (F == 0) = false := by simpa using hF0
            have h0 : tpH L S[i] = true := by unfold tpH; rw [← unhide HF]; simpa using hF0
            obtain ⟨hkt, hTk⟩ := cP_at hiS h0
            rw [← (unhide HREL).1.1] at hkt
            have hTk2 : (S.filter (tpH L))[kk] = S[i] := by
              have : ∀ (x : Nat) (hx : x < (S.filter (tpH L)).length), x = cP (tpH L) (S.take i) → (S.filter (tpH L))[x] = S[i] := fun x hx e => by subst e; exact hTk
              exact this kk hkt (unhide HREL).1.1
            have hktt : kk < t := by rw [unhide HTN]; exact hkt
            have hrowT := row_keep (unhide HROW7) (W' := wr) (fun g hg => (unhide HBR).block g (row_block (unhide HROW7) hg).2.1)
            obtain ⟨qt, dt, et, rt⟩ := row3_cells (unhide HTN).symm hrowT hkt
            have hpT : pT = some ⟨qt, 0, none⟩ := by injection et
            have hqt : qt < wr.heap.size := World.block_lt_of_cell? wr _ (rt 0 _ rfl)
            subst hpT
            rw [hTk2, ← unhide HF] at rt
            have hse : encStr S[i] = .string s := by rw [← unhide HSE]
            rw [hse] at rt
            have HRT := hide rt
            have hup : Hid (∀ (k2 : Nat) (U2 D2 : Int), k2 = kk + 1 → U2 = IntKind.i64.wrap (U + pos F) → D2 = IntKind.i64.wrap (D + neg F) → k2 = cP (tpH L) (S.take (i + 1)) ∧ U2 = ws (tfU L) 0 (S.take (i + 1)) ∧ D2 = ws (tfD L) 0 (S.take (i + 1)) ∧ T2 = ws (tfT L) 0 (S.take (i + 1))) := fun k2 U2 D2 e1 e2 e3 => by
              refine ⟨?_, ?_, ?_, unhide HT2⟩
              · rw [e1, take_snoc S i hiS, cP_snoc, if_pos h0, ← (unhide HREL).1.1]
              · rw [e2, take_snoc S i hiS, ws_snoc, ← (unhide HREL).1.2.1]
                unfold tfU
                rw [← unhide HF]
              · rw [e3, take_snoc S i hiS, ws_snoc, ← (unhide HREL).1.2.2.1]
                unfold tfD
                rw [← unhide HF]
            clear et rt hrowT hTk hTk2 hkt h0 hse HT2
            by_cases hFp : F > 0
            · have hfl : decide (F < 0) = false := by simp; omega
              have hp : pos F = F := if_pos hFp
              have hn : neg F = 0 := if_pos hFp
              rw [hp, hn] at hup HRT
              obtain ⟨U2, hU2⟩ : ∃ x, IntKind.i64.wrap (U + F) = x := ⟨_, rfl⟩
              have hfin : Hid (kk + 1 = cP (tpH L) (S.take (i + 1)) ∧ U2 = ws (tfU L) 0 (S.take (i + 1)) ∧ D = ws (tfD L) 0 (S.take (i + 1)) ∧ T2 = ws (tfT L) 0 (S.take (i + 1))) := unhide hup (kk + 1) U2 D rfl hU2.symm (by rw [Int.add_zero]; exact hDw.symm)
              clear hup hp hn
              have hq : q < wr.heap.size := World.block_lt_of_cell? wr _ c0i
              have ca0 : ∀ d o, ((wr.drewN d).alloc o).cell? ⟨q, i * 3, none⟩ = some (.string s) := fun d o => (World.cell?_alloc_lt _ o _ (by simpa using hq)).trans (by simpa using c0i)
              have ca1 : ∀ d o, ((wr.drewN d).alloc o).cell? ⟨q, i * 3 + 1, none⟩ = some (.int .i64 F) := fun d o => (World.cell?_alloc_lt _ o _ (by simpa using hq)).trans (by simpa using c1i)
              have hst : ∀ d, (s50 (.pointer (some ⟨wr.heap.size, 0, none⟩)) (.agg #[.string s, .int .i64 F, .int .i64 0])).run Tryd.prog ((wr.drewN d).alloc (.cells #[.string ⟨#[]⟩, .int .i64 0, .int .i64 0] 50)) = .ok () ((wr.drewN d).alloc (.cells #[.string s, .int .i64 F, .int .i64 0] 50)) := fun d => by
                have h := run_s50 (wr.drewN d) (.string ⟨#[]⟩) (.int .i64 0) (.int .i64 0) s F 0
                rw [heap_drewN] at h
                exact h
              have hTT : Hid (b = true ∧ IntKind.i64.wrap (T + X) = T2 ∨ b = false ∧ T = T2) := by
                cases hbb : b
                · exact .inr ⟨rfl, hTb.2 hbb⟩
                · exact .inl ⟨rfl, hTb.1 hbb⟩
              rcases unhide hTT with ⟨rfl, hTq⟩ | ⟨rfl, hTq⟩
              all_goals
                go_wp2_with fail
                go_cut [18] (fun v18 wx => v18 = .pointer (some ⟨wr.heap.size, 0, none⟩) ∧ Hid (∃ d, wx = (wr.drewN d).alloc (.cells #[.string s, .int .i64 F, .int .i64 0] 50)))
                case first =>
                  as_aux_lemma =>
                    go_region
                    all_goals go_wp2_with fail
                    all_goals go_meet
                    all_goals exact ⟨rfl, _, rfl⟩
                obtain ⟨rfl, hwc⟩ := hcut
                obtain ⟨d, hwd⟩ := unhide hwc
                have e0 : wc.cell? ⟨q, i * 3, none⟩ = some (.string s) := by rw [hwd]; exact ca0 d _
                have e1 : wc.cell? ⟨q, i * 3 + 1, none⟩ = some (.int .i64 F) := by rw [hwd]; exact ca1 d _
                have p0 : wc.cell? ⟨wr.heap.size, 0, none⟩ = some (.string s) := by rw [hwd]; exact box_at _ _ _ _ (by simp) 0 _ rfl
                have p1 : wc.cell? ⟨wr.heap.size, 1, none⟩ = some (.int .i64 F) := by rw [hwd]; exact box_at _ _ _ _ (by simp) 1 _ rfl
                have p2 : wc.cell? ⟨wr.heap.size, 2, none⟩ = some (.int .i64 0) := by rw [hwd]; exact box_at _ _ _ _ (by simp) 2 _ rfl
                have hrT : wc.rangeAt qt (kk * 3) [.string s, .int .i64 F, .int .i64 0] := fun j' u hu => by
                  rw [hwd]
                  exact (World.cell?_alloc_lt _ _ ⟨qt, kk * 3 + j', none⟩ (by simpa using hqt)).trans (by simpa using unhide HRT j' u hu)
                have hrW : wc.rangeAt wr.heap.size 0 [.string s, .int .i64 F, .int .i64 0] := fun j' u hu => by
                  rw [hwd, Nat.zero_add]
                  exact box_at _ _ _ _ (by simp) j' u hu
                have lT : ∀ d', (ld50 (.pointer (some ⟨qt, kk * 3, none⟩))).run Tryd.prog (wc.drewN d') = .ok (.agg #[.string s, .int .i64 F, .int .i64 0]) (wc.drewN d') := fun d' =>
                  run_loadAt_mid (P := Tryd.prog) _ qt (kk * 3) 50 [.string s, .int .i64 F, .int .i64 0] _ (fun j' u hu => by simpa using hrT j' u hu) Tryd.underlying50 rfl size50
                have lW : ∀ d', (ld50 (.pointer (some ⟨wr.heap.size, 0, none⟩))).run Tryd.prog (wc.drewN d') = .ok (.agg #[.string s, .int .i64 F, .int .i64 0]) (wc.drewN d') := fun d' =>
                  run_loadAt_mid (P := Tryd.prog) _ wr.heap.size 0 50 [.string s, .int .i64 F, .int .i64 0] _ (fun j' u hu => by simpa using hrW j' u hu) Tryd.underlying50 rfl size50
                have hBw : Hid (∀ d', Below w7.heap.size w7 (wc.drewN d')) := fun d' => by
                  rw [hwd]
                  exact below_drewN ((below_drewN (unhide HBR) d).alloc (by rw [heap_drewN]; exact (unhide HBR).size) _) d'
                as_aux_lemma =>
                  have hst5 := st50
                  have hsh5 := sh50
                  have heg5 := eg50
                  have heq5 := eq50_same
                  clear hwd hwc hrT hrW ca0 ca1 hst c0i c1i c2i HRT
                  go_wp2_with fail
                  go_quiet (fail)
                  have HW2 := hide hU2
                  clear hst5 hsh5 heg5 heq5 lT lW p0 e0 e1 hU2 hkz hfl hf
                  go_wp2_with fail
                  have hW2 : wrap64 (U + F) = U2 := (wrap64_is _).trans (unhide HW2)
                  exact ⟨⟨i + 1, kk + 1, U2, D, T2, by simp, by omega, by simp, congrArg (Value.int .i64) hW2, rfl, rfl, unhide hfin, unhide hBw _⟩, by simp [intOf]; omega⟩
            · have hFn : F < 0 := by omega
              have hfl : decide (F < 0) = true := by simpa using hFn
              have hp : pos F = 0 := if_neg hFp
              have hn : neg F = -F := if_neg hFp
              obtain ⟨N, hN⟩ : ∃ N, N = -F := ⟨_, rfl⟩
              have hNw : IntKind.i64.wrap (-F) = N := by rw [hN]; exact wrap_isA ⟨by have := (unhide HFA).2; omega, by have := (unhide HFA).1; omega⟩
              rw [hp, hn, ← hN] at hup HRT
              obtain ⟨D2, hD2⟩ : ∃ x, IntKind.i64.wrap (D + N) = x := ⟨_, rfl⟩
              have hfin : Hid (kk + 1 = cP (tpH L) (S.take (i + 1)) ∧ U = ws (tfU L) 0 (S.take (i + 1)) ∧ D2 = ws (tfD L) 0 (S.take (i + 1)) ∧ T2 = ws (tfT L) 0 (S.take (i + 1))) := unhide hup (kk + 1) U D2 rfl (by rw [Int.add_zero]; exact hUw.symm) hD2.symm
              clear hup hp hn hN
              have hq : q < wr.heap.size := World.block_lt_of_cell? wr _ c0i
              have ca0 : ∀ d o, ((wr.drewN d).alloc o).cell? ⟨q, i * 3, none⟩ = some (.string s) := fun d o => (World.cell?_alloc_lt _ o _ (by simpa using hq)).trans (by simpa using c0i)
              have ca1 : ∀ d o, ((wr.drewN d).alloc o).cell? ⟨q, i * 3 + 1, none⟩ = some (.int .i64 F) := fun d o => (World.cell?_alloc_lt _ o _ (by simpa using hq)).trans (by simpa using c1i)
              have hst : ∀ d, (s50 (.pointer (some ⟨wr.heap.size, 0, none⟩)) (.agg #[.string s, .int .i64 F, .int .i64 0])).run Tryd.prog ((wr.drewN d).alloc (.cells #[.string ⟨#[]⟩, .int .i64 0, .int .i64 0] 50)) = .ok () ((wr.drewN d).alloc (.cells #[.string s, .int .i64 F, .int .i64 0] 50)) := fun d => by
                have h := run_s50 (wr.drewN d) (.string ⟨#[]⟩) (.int .i64 0) (.int .i64 0) s F 0
                rw [heap_drewN] at h
                exact h
              have hTT : Hid (b = true ∧ IntKind.i64.wrap (T + X) = T2 ∨ b = false ∧ T = T2) := by
                cases hbb : b
                · exact .inr ⟨rfl, hTb.2 hbb⟩
                · exact .inl ⟨rfl, hTb.1 hbb⟩
              rcases unhide hTT with ⟨rfl, hTq⟩ | ⟨rfl, hTq⟩
              all_goals
                go_wp2_with fail
                go_cut [18] (fun v18 wx => v18 = .pointer (some ⟨wr.heap.size, 0, none⟩) ∧ Hid (∃ d, wx = (wr.drewN d).alloc (.cells #[.string s, .int .i64 F, .int .i64 0] 50)))
                case first =>
                  as_aux_lemma =>
                    go_region
                    all_goals go_wp2_with fail
                    all_goals go_meet
                    all_goals exact ⟨rfl, _, rfl⟩
                obtain ⟨rfl, hwc⟩ := hcut
                obtain ⟨d, hwd⟩ := unhide hwc
                have e0 : wc.cell? ⟨q, i * 3, none⟩ = some (.string s) := by rw [hwd]; exact ca0 d _
                have e1 : wc.cell? ⟨q, i * 3 + 1, none⟩ = some (.int .i64 F) := by rw [hwd]; exact ca1 d _
                have hst2 : ∀ d', (s50 (.pointer (some ⟨wr.heap.size, 0, none⟩)) (.agg #[.string s, .int .i64 0, .int .i64 N])).run Tryd.prog (wc.drewN d') = .ok () ((wr.drewN (d + d')).alloc (.cells #[.string s, .int .i64 0, .int .i64 N] 50)) := fun d' => by
                  have h := run_s50 (wr.drewN (d + d')) (.string s) (.int .i64 F) (.int .i64 0) s 0 N
                  rw [heap_drewN] at h
                  rw [hwd, ← alloc_drewN, drew_two]
                  exact h
                have hst3 : (s50 (.pointer (some ⟨wr.heap.size, 0, none⟩)) (.agg #[.string s, .int .i64 0, .int .i64 N])).run Tryd.prog wc.drew = .ok () ((wr.drewN (d + 1)).alloc (.cells #[.string s, .int .i64 0, .int .i64 N] 50)) := hst2 1
                clear hwd hwc
                go_wp2_with fail
                go_cut [18] (fun v18 wx => v18 = .pointer (some ⟨wr.heap.size, 0, none⟩) ∧ Hid (∃ d, wx = (wr.drewN d).alloc (.cells #[.string s, .int .i64 0, .int .i64 N] 50)))
                case first =>
                  as_aux_lemma =>
                    go_region
                    all_goals go_wp2_with fail
                    all_goals go_meet
                    all_goals exact ⟨rfl, _, rfl⟩
                clear e0 e1 hst2 hst3
                obtain ⟨rfl, hwc⟩ := hcut
                obtain ⟨d, hwd⟩ := unhide hwc
                have p0 : wc.cell? ⟨wr.heap.size, 0, none⟩ = some (.string s) := by rw [hwd]; exact box_at _ _ _ _ (by simp) 0 _ rfl
                have p1 : wc.cell? ⟨wr.heap.size, 1, none⟩ = some (.int .i64 0) := by rw [hwd]; exact box_at _ _ _ _ (by simp) 1 _ rfl
                have p2 : wc.cell? ⟨wr.heap.size, 2, none⟩ = some (.int .i64 N) := by rw [hwd]; exact box_at _ _ _ _ (by simp) 2 _ rfl
                have hrT : wc.rangeAt qt (kk * 3) [.string s, .int .i64 0, .int .i64 N] := fun j' u hu => by
                  rw [hwd]
                  exact (World.cell?_alloc_lt _ _ ⟨qt, kk * 3 + j', none⟩ (by simpa using hqt)).trans (by simpa using unhide HRT j' u hu)
                have hrW : wc.rangeAt wr.heap.size 0 [.string s, .int .i64 0, .int .i64 N] := fun j' u hu => by
                  rw [hwd, Nat.zero_add]
                  exact box_at _ _ _ _ (by simp) j' u hu
                have lT : ∀ d', (ld50 (.pointer (some ⟨qt, kk * 3, none⟩))).run Tryd.prog (wc.drewN d') = .ok (.agg #[.string s, .int .i64 0, .int .i64 N]) (wc.drewN d') := fun d' =>
                  run_loadAt_mid (P := Tryd.prog) _ qt (kk * 3) 50 [.string s, .int .i64 0, .int .i64 N] _ (fun j' u hu => by simpa using hrT j' u hu) Tryd.underlying50 rfl size50
                have lW : ∀ d', (ld50 (.pointer (some ⟨wr.heap.size, 0, none⟩))).run Tryd.prog (wc.drewN d') = .ok (.agg #[.string s, .int .i64 0, .int .i64 N]) (wc.drewN d') := fun d' =>
                  run_loadAt_mid (P := Tryd.prog) _ wr.heap.size 0 50 [.string s, .int .i64 0, .int .i64 N] _ (fun j' u hu => by simpa using hrW j' u hu) Tryd.underlying50 rfl size50
                have hBw : Hid (∀ d', Below w7.heap.size w7 (wc.drewN d')) := fun d' => by
                  rw [hwd]
                  exact below_drewN ((below_drewN (unhide HBR) d).alloc (by rw [heap_drewN]; exact (unhide HBR).size) _) d'
                as_aux_lemma =>
                  have hst5 := st50
                  have hsh5 := sh50
                  have heg5 := eg50
                  have heq5 := eq50_same
                  clear hwd hwc hrT hrW ca0 ca1 hst c0i c1i c2i HRT
                  go_wp2_with fail
                  go_quiet (fail)
                  have HW2 := hide hD2
                  clear hst5 hsh5 heg5 heq5 lT lW p0 hD2 hkz hfl hf
                  go_wp2_with fail
                  have hW2 : wrap64 (D + N) = D2 := (wrap64_is _).trans (unhide HW2)
                  exact ⟨⟨i + 1, kk + 1, U, D2, T2, by simp, by omega, by simp, rfl, congrArg (Value.int .i64) hW2, rfl, unhide hfin, unhide hBw _⟩, by simp [intOf]; omega⟩
    · have hin : i = n := by omega
      subst hin
      obtain ⟨⟨hk9, hU9, hD9, hT9⟩, hb9⟩ := unhide HREL
      rw [List.take_of_length_le (by rw [← unhide HSN]; omega)] at hk9 hU9 hD9 hT9
      rw [unhide HCN] at hk9
      rw [(unhide HALL).2.2.1] at hU9
      rw [(unhide HALL).2.2.2] at hD9
      rw [(unhide HALL).2.1] at hT9
      obtain ⟨V, hV⟩ : ∃ V, IntKind.i64.wrap (A - C) = V := ⟨_, rfl⟩
      rw [hV] at hT9 htot
      subst hk9 hU9 hD9 hT9
      have HBF := hide ((unhide HB7).trans (hb9.mono (unhide HB7).size))
      have HTOT := htot
      clear hb9 HREL htot HALL
      have hN0b : N0 ≤ 1048576 := by rw [unhide HN0]; exact (unhide H0).len
      go_wp2_with fail
      go_loopw [19, 20] (fun v19 v20 wi => ∃ (j : Nat) (Z : Int), v20 = .int .i64 j ∧ j ≤ N0 ∧ v19 = .int .i64 Z ∧ Hid (Z = IntKind.i64.wrap (tot (rws (R0.take j))) ∧ wi = wo)) (fun _ v20 _ => N0 - (intOf v20).toNat)
      case atStart => exact ⟨0, 0, rfl, by omega, rfl, (wrap_isA ⟨by decide, by decide⟩).symm, rfl⟩
      case round =>
        obtain ⟨j, Z, rfl, hj, rfl, hrel⟩ := hrel
        by_cases hjl : j < N0
        · have hjR : j < R0.length := by rw [← unhide HN0]; exact hjl
          obtain ⟨b, off, hp, hlb, hr⟩ := ((unhide HI0).below (unhide HBF)).2 j hjR
          subst hp
          obtain ⟨a, ha⟩ : ∃ a, a = (R0[j]).amt := ⟨_, rfl⟩
          have hc : wr.cell? ⟨b, off + j * 9 + 6, none⟩ = some (.int .i64 a) := by rw [(unhide hrel).2, ha]; exact hr 6 _ rfl
          obtain ⟨Y, hY⟩ : ∃ Y, IntKind.i64.wrap (Z + a) = Y := ⟨_, rfl⟩
          have hstep : Hid (Y = IntKind.i64.wrap (tot (rws (R0.take (j + 1)))) ∧ wr = wo) := by
            refine ⟨?_, (unhide hrel).2⟩
            rw [take_snoc R0 j hjR, rws_append, ← hY, (unhide hrel).1, wrap_add, ha]
            unfold tot
            rw [sm_append]
            congr 1
            simp [rws, sm, Ro.row]
          clear hr hlb hrel ha
          go_wp2_with fail
          exact ⟨⟨j + 1, Y, by simp, by omega, rfl, hstep⟩, by simp [intOf]; omega⟩
        · have hjn : j = N0 := by omega
          subst hjn
          obtain ⟨hZ, hw⟩ := unhide hrel
          rw [List.take_of_length_le (by rw [← unhide HN0]; omega), unhide HTOT] at hZ
          subst hZ hw
          go_wp2_with fail
          go_ret
          exact ⟨rfl, unhide HBF⟩
end Go.Proofs.YtgohddimnphbkaaDoor
