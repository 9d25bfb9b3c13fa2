/- DailyBack (4): its walk. -/
import Derived.Test.YtenoaechonpjgaaDoorFsA
import Derived.Test.YtenoaechonpjgaaDoorBkN
namespace Go.Proofs.YtenoaechonpjgaaDoor
open Go Go.Shelf Go.ChangeShapes Go.WideShapes Go.ChangeAt Go.RowKit Go.Maps Go.Sort
set_option linter.unusedVariables false
attribute [local go_sem ↓] ld24_is
/-- a copy of rows that lie somewhere -/
theorem run_copy {W : World} (ty : TypeId) (pu : Option Addr) (cu : Nat) (R : List Ro) (hcu : pu = none → cu = 0) (hu : Lies kR W pu R) (hl : R.length ≤ 1099511627776) :
    ∃ p c w', (Builtin.append_ #[22, 22] ty #[.slice none 0 0, .slice pu R.length cu]).run Tryd.prog W = .ok (.slice p R.length c) w' ∧ w'.ownsRow W.heap.size 24 9 (.slice p R.length c) R.length (kR.flat R) ∧ Below W.heap.size W w' := by
  obtain ⟨p, c, w', h1, h2, h3, _⟩ := run_app kR_ok (L := []) (v := .slice none 0 0) (n := 0) ty (World.ownsRow_nil _ _ _ _) (Nat.le_refl _) pu cu hcu hu (by omega)
  rw [Nat.zero_add] at h1 h2
  rw [List.nil_append] at h2
  exact ⟨p, c, w', h1, h2, h3⟩
/-- an append that a guard asks for -/
theorem wpList_append_runG {P : Program} {w : World} {ops : Array Oper} {rest : List Oper} {o : Oper} {a : Act} {Q : Exit → Act → World → Prop} (hgd : Region.wanted o (yielded ops a.tmps) = true) (s x : Operand) (t : TypeId)
    (ho : o.op = .call { callee := .builtin .append, args := #[s, x], argTypes := #[t, t] }) (v u v' : Value) (w' : World) (hs : a.eval s = v) (hx : a.eval x = u) (hr : (Builtin.append_ #[t, t] o.type #[v, u]).run P w = .ok v' w')
    (h : wpList P ops Q rest (a.put o.dst v') w') : wpList P ops Q (o :: rest) a w := by
  refine wpList_step fun K hK => ?_
  rw [if_pos hgd]
  unfold Oper.wp execOp
  simp only [ho, resolve, invoke, builtin, Sem.run_bind, Sem.run_pure, Result.andThen_ok, List.map_toArray, List.map_cons, List.map_nil, hs, hx, hr]
  exact hK _ _ h
theorem take_snoc {α : Type} (L : List α) (k : Nat) (h : k < L.length) : L.take (k + 1) = L.take k ++ [L[k]] := by
  rw [List.take_succ_eq_append_getElem h]
set_option maxRecDepth 100000 in
set_option maxHeartbeats 8000000 in
theorem back_walk (R0 R1 : List Ro) (h0 : Can R0) (h1 : Can R1) (hl0 : R0.length ≤ 1048576) (hl1 : R1.length ≤ 1048576) (pu pr : Option Addr) (cu cr : Nat) (w : World) (hcu : pu = none → cu = 0) (hcr : pr = none → cr = 0) (hI0 : Lies kR w pu R0) (hI1 : Lies kR w pr R1) :
    Calls Tryd.prog 4 #[.slice pu R0.length cu, .slice pr R1.length cr] w fun e w' => e = .returned (.bool true) ∧ Below w.heap.size w w' := by
  have H0 := hide h0; have H1 := hide h1; have HI0 := hide hI0; have HI1 := hide hI1; have HCU := hide hcu; have HCR := hide hcr
  obtain ⟨N0, hN0⟩ : ∃ N, N = R0.length := ⟨_, rfl⟩
  obtain ⟨N1, hN1⟩ : ∃ N, N = R1.length := ⟨_, rfl⟩
  rw [← hN0] at hl0 ⊢
  rw [← hN1] at hl1 ⊢
  have HN0 := hide hN0; have HN1 := hide hN1
  clear hcu hcr hI0 hI1 hN0 hN1 h0 h1
  have dF := hide (first_any w)
  go_enter Tryd.func4, Tryd.ntmps4
  go_wp2_with fail
  refine (unhide dF).mono ?_
  rintro e w1 ⟨rfl, hb1⟩
  obtain ⟨O2, hO2⟩ : ∃ O, O = Obj.cells #[.map none] 48 := ⟨_, rfl⟩
  have dN := hide (new_any w1)
  rw [← hO2] at dN
  have hV2 : Vw (w1.alloc O2) (w1.heap.size + 1) w1.heap.size [] := by rw [hO2]; exact Vw.made w1
  have hB2 : Below w.heap.size w (w1.alloc O2) := hb1.alloc hb1.size O2
  have hs2 : (w1.alloc O2).heap.size = w1.heap.size + 1 := by simp
  obtain ⟨w2, hw2⟩ : ∃ w2, w2 = w1.alloc O2 := ⟨_, rfl⟩
  rw [← hw2] at hV2 hB2 hs2 dN
  obtain ⟨p3, c3, w3, hap, hR3, hb3⟩ := run_copy (W := w2) 22 pu cu R0 (unhide HCU) ((unhide HI0).below hB2) (by have := unhide HN0; omega)
  have hV3 := hV2.below hb3
  have hL3 := own_lies kR_ok rfl hR3
  rw [← unhide HN0] at hap
  have dA := hide (apply_vw (cR := c3) hV3 (by simp) (unhide HN0).symm (by omega) hL3 (unhide H0))
  have hz1 := hb1.size
  have HAP := hide hap; have HB2 := hide hB2; have HB3 := hide hb3; have HZ1 := hide hz1; have HS2 := hide hs2
  clear hap hB2 hb3 hV3 hV2 hz1 hs2 hR3 hL3 hb1 hw2 hO2 dF
  go_wp2_with fail
  refine (unhide dN).mono ?_
  rintro e wx ⟨rfl, hw⟩
  rw [hw]
  clear hw wx dN
  go_wp2_with (at_builtin; refine wpList_append_runG rfl _ _ 22 rfl _ _ _ _ rfl rfl (unhide HAP) ?_)
  refine (unhide dA).mono ?_
  rintro e w4 hO
  have hB3 : Below w.heap.size w w3 := (unhide HB2).trans ((unhide HB3).mono (by have := unhide HS2; have := unhide HZ1; omega))
  have hz3 : w1.heap.size + 1 ≤ w3.heap.size := by have := unhide HS2; have := (unhide HB3).size; omega
  rcases hO with ⟨hno, ⟨x, rfl, hx⟩, hb4⟩ | ⟨hok0, rfl, hV4, hfr4⟩
  · have HB4 := hide (hB3.trans (hb4.mono (by have := unhide HZ1; omega)))
    have hxb : (x != 0) = true := by rcases hx with rfl | rfl <;> rfl
    have hxb2 : (x == 0) = false := by rcases hx with rfl | rfl <;> rfl
    clear hb4 hno hx hB3 hz3
    go_wp2_with fail
    go_ret
    exact ⟨rfl, unhide HB4⟩
  rw [List.nil_append] at hV4
  have hB4 : Below w.heap.size w w4 := hB3.trans ((hfr4.below hz3 (by omega)).mono (unhide HZ1))
  have hd4 : w1.heap.size + 1 ≤ w4.heap.size := Nat.le_trans hz3 hfr4.size
  have dS := hide (state_vw hV4 (by rw [← unhide HN0]; omega))
  have HV4 := hide hV4; have HB4 := hide hB4; have HOK0 := hide hok0; have HD4 := hide hd4
  clear hV4 hB4 hok0 hd4 hz3 hB3 hfr4 dA HAP HB2 HB3
  go_wp2_with fail
  refine (unhide dS).mono ?_
  rintro e w5 ⟨L, p5, c5, hst, rfl, hrow5, hb5⟩
  have hV5 := (unhide HV4).below hb5
  have hB5 : Below w.heap.size w w5 := (unhide HB4).trans (hb5.mono (unhide HB4).size)
  have hd5 : w1.heap.size + 1 ≤ w5.heap.size := Nat.le_trans (unhide HD4) hb5.size
  have hlL := hst.len
  rw [← unhide HN0] at hlL
  obtain ⟨nL, hnL⟩ : ∃ n, n = L.length := ⟨_, rfl⟩
  rw [← hnL] at hlL ⊢
  have HNL := hide hnL
  have HV5 := hide hV5; have HROW5 := hide hrow5; have HB5 := hide hB5; have HST := hide hst; have HD5 := hide hd5
  clear hV5 hrow5 hB5 hst hb5 hd5 dS hnL
  go_wp2_with fail
  go_loopw [8, 9] (fun v8 v9 wr => ∃ (k : Nat), v9 = .int .i64 k ∧ k ≤ N1 ∧ Hid (wr.ownsRow w5.heap.size 24 9 v8 k (kR.flat ((R1.take k).map bRo)) ∧ Below w5.heap.size w5 wr)) (fun _ v9 _ => N1 - (intOf v9).toNat)
  case atStart => exact ⟨0, rfl, by omega, World.ownsRow_nil _ _ _ _, Below.refl _ _⟩
  case round =>
    obtain ⟨k, rfl, hk, hrel⟩ := hrel
    by_cases hlt : k < N1
    · have hkR : k < R1.length := by rw [← unhide HN1]; exact hlt
      obtain ⟨hrow, hbk⟩ := unhide hrel
      have hbwr : Below w.heap.size w wr := (unhide HB5).trans (hbk.mono (unhide HB5).size)
      obtain ⟨b, off, hp, hlb, hr⟩ := ((unhide HI1).below hbwr).2 k hkR
      obtain ⟨r, hrr⟩ : ∃ r, r = R1[k] := ⟨_, rfl⟩
      rw [← hrr] at hr
      subst hp
      have hld := run_ld24 hr
      have e9 : off + k * kR.s = off + k * 9 := rfl
      rw [e9] at hld
      obtain ⟨Y, hY⟩ : ∃ Y, IntKind.i64.wrap (-r.amt) = Y := ⟨_, rfl⟩
      obtain ⟨A, hA⟩ : ∃ A, A = Obj.cells #[.int .i64 r.i0, .int .i64 r.i1, .int .i64 r.day, .int .i64 r.i3, .string r.s4, .string r.acc, .int .i64 Y, .string r.s7, .string r.s8] 24 := ⟨_, rfl⟩
      have hbv : (bRo r).vals = [.int .i64 r.i0, .int .i64 r.i1, .int .i64 r.day, .int .i64 r.i3, .string r.s4, .string r.acc, .int .i64 Y, .string r.s7, .string r.s8] := by
        show [Value.int .i64 r.i0, .int .i64 r.i1, .int .i64 r.day, .int .i64 r.i3, .string r.s4, .string r.acc, .int .i64 (IntKind.i64.wrap (-r.amt)), .string r.s7, .string r.s8] = _
        rw [hY]
      have hrA : (wr.alloc A).rangeAt wr.heap.size 0 (bRo r).vals := fun j u hu => by
        rw [hbv] at hu
        rw [hA, World.cell?_alloc_mark, Nat.zero_add]
        simpa using hu
      have hld2 : (ld24 (.pointer (some ⟨wr.heap.size, 0, none⟩))).run Tryd.prog (wr.alloc A) = .ok (.agg #[.int .i64 r.i0, .int .i64 r.i1, .int .i64 r.day, .int .i64 r.i3, .string r.s4, .string r.acc, .int .i64 Y, .string r.s7, .string r.s8]) (wr.alloc A) := by
        have h := run_ld24 hrA
        have e : (bRo r).amt = Y := hY
        rw [e] at h
        exact h
      have hL2 : Lies kR ((wr.alloc A).alloc A) (some ⟨(wr.alloc A).heap.size, 0, none⟩) [bRo r] := by
        have h := one_lies (K := kR) (wr.alloc A) (bRo r) 24 #[.int .i64 r.i0, .int .i64 r.i1, .int .i64 r.day, .int .i64 r.i3, .string r.s4, .string r.acc, .int .i64 Y, .string r.s7, .string r.s8] hbv.symm
        rw [← hA] at h
        exact h
      have hrow2 := (hrow.alloc A).alloc A
      obtain ⟨p', c', w', hap, how, hbe, hkp, _⟩ := run_app kR_ok 22 hrow2 (by have := hbk.size; simp; omega) (some ⟨(wr.alloc A).heap.size, 0, none⟩) 1 (fun h => by cases h) hL2 (by simp; omega)
      have hsz : (wr.alloc A).heap.size = wr.heap.size + 1 := by simp
      rw [hsz] at hap
      have hfin : Hid (w'.ownsRow w5.heap.size 24 9 (.slice p' (k + 1) c') (k + 1) (kR.flat ((R1.take (k + 1)).map bRo)) ∧ Below w5.heap.size w5 w') := by
        refine ⟨?_, ?_⟩
        · rw [take_snoc R1 k hkR, List.map_append, ← hrr]
          exact how
        · have hb2 : Below w5.heap.size w5 ((wr.alloc A).alloc A) := (hbk.alloc hbk.size A).alloc (by have := hbk.size; simp; omega) A
          exact hb2.trans (hbe.mono (Nat.le_refl _))
      have HAP : Hid ((Builtin.append_ #[22, 22] 22 #[u8, .slice (some ⟨wr.heap.size + 1, 0, none⟩) 1 1]).run Tryd.prog ((wr.alloc A).alloc A) = .ok (.slice p' (k + 1) c') w') := hap
      clear hrow hbk hbwr hr hlb hrr hbv hrA hL2 hrow2 hap how hbe hkp hsz hrel e9
      subst hA
      go_wp2_with (at_builtin; refine wpList_append_run rfl _ _ 22 rfl _ _ _ _ rfl rfl (unhide HAP) ?_)
      refine ⟨⟨k + 1, by simp, by omega, unhide hfin⟩, by simp [intOf]; omega⟩
    · have hkn : k = N1 := by omega
      subst hkn
      obtain ⟨hrow, hbk⟩ := unhide hrel
      rw [List.take_of_length_le (by rw [← unhide HN1]; omega)] at hrow
      have hbwr : Below w.heap.size w wr := (unhide HB5).trans (hbk.mono (unhide HB5).size)
      have hV6 := (unhide HV5).below hbk
      have hdr : w1.heap.size + 1 ≤ wr.heap.size := Nat.le_trans (unhide HD5) hbk.size
      obtain ⟨p7, c7, w7, hap, hR7, hb7⟩ := run_copy (W := wr) 22 pr cr R1 (unhide HCR) ((unhide HI1).below hbwr) (by have := unhide HN1; omega)
      rw [← unhide HN1] at hap
      have hV7 := hV6.below hb7
      have hL7 := own_lies kR_ok rfl hR7
      have dA := hide (apply_vw (cR := c7) hV7 (by rw [← unhide HN0]; omega) (unhide HN1).symm (by omega) hL7 (unhide H1))
      have hs6 := row_keep (unhide HROW5) (W' := wr) (fun g hg => hbk.block g (row_block (unhide HROW5) hg).2.1)
      have hs7 := row_keep hs6 (W' := w7) (fun g hg => hb7.block g (row_block hs6 hg).2.1)
      have hrow7 := row_keep hrow (W' := w7) (fun g hg => hb7.block g (row_block hrow hg).2.1)
      have hB7 : Below w.heap.size w w7 := hbwr.trans (hb7.mono hbwr.size)
      have hd7 : w1.heap.size + 1 ≤ w7.heap.size := Nat.le_trans hdr hb7.size
      have HAP := hide hap; have HV7 := hide hV7; have HS7 := hide hs7; have HROW7 := hide hrow7; have HB7 := hide hB7; have HD7 := hide hd7
      clear hap hV7 hV6 hs6 hs7 hrow hrow7 hB7 hd7 hR7 hL7 hbwr hbk hb7 hdr hrel hlt
      go_wp2_with (at_builtin; refine wpList_append_run rfl _ _ 22 rfl _ _ _ _ rfl rfl (unhide HAP) ?_)
      refine (unhide dA).mono ?_
      rintro e w8 hO
      rcases hO with ⟨hno, ⟨x, rfl, hx⟩, hb8⟩ | ⟨hok1, rfl, hV8, hfr8⟩
      · have hV8 := (unhide HV7).below hb8
        have dS := hide (state_vw hV8 (by rw [← unhide HN0]; omega))
        have hs8 := row_keep (unhide HS7) (W' := w8) (fun g hg => hb8.block g (row_block (unhide HS7) hg).2.1)
        have hB8 : Below w.heap.size w w8 := (unhide HB7).trans (hb8.mono (unhide HB7).size)
        have hxb : (x != 0) = true := by rcases hx with rfl | rfl <;> rfl
        have hxb2 : (x == 0) = false := by rcases hx with rfl | rfl <;> rfl
        have HS8 := hide hs8; have HB8 := hide hB8
        clear hb8 hV8 hs8 hB8 hno hx dA
        go_wp2_with fail
        refine (unhide dS).mono ?_
        rintro e w9 ⟨L9, p9, c9, hst9, rfl, hrow9, hb9⟩
        have hs9 := row_keep (unhide HS8) (W' := w9) (fun g hg => hb9.block g (row_block (unhide HS8) hg).2.1)
        have eL : L9 = L := hst9.same (unhide HST) (fun _ _ => rfl)
        subst eL
        have dE := hide (same_any (c1 := c5) (c2 := c9) (unhide HNL).symm (by omega) (own_lies kD_ok rfl hs9) (own_lies kD_ok rfl hrow9))
        have HB9 := hide ((unhide HB8).trans (hb9.mono (unhide HB8).size))
        rw [← unhide HNL]
        clear hrow9 hb9 hs9 hst9 dS
        go_wp2_with fail
        refine (unhide dE).mono ?_
        rintro e wx ⟨rfl, m, hw⟩
        have HBX : Hid (Below w.heap.size w wx) := by rw [hw]; exact below_drewN (unhide HB9) m
        clear hw
        go_wp2_with fail
        go_ret
        exact ⟨rfl, unhide HBX⟩
      have hB8 : Below w.heap.size w w8 := (unhide HB7).trans ((hfr8.below (unhide HD7) (by omega)).mono (unhide HZ1))
      have hrow8 := hfr8.rowV (unhide HV7) (unhide HROW7) (by decide) (by decide)
      have hs8 := hfr8.rowV (unhide HV7) (unhide HS7) (by decide) (by decide)
      have hd8 : w1.heap.size + 1 ≤ w8.heap.size := Nat.le_trans (unhide HD7) hfr8.size
      have hlm : (R1.map bRo).length = k := by rw [List.length_map]; exact (unhide HN1).symm
      obtain ⟨p9, c9, hv9, _, _⟩ := row_slice hrow8
      subst hv9
      have hL9 := own_lies kR_ok hlm hrow8
      have dA2 := hide (apply_vw (cR := c9) hV8 (by rw [List.length_append, ← unhide HN0, ← unhide HN1]; omega) hlm (by omega) hL9 (unhide H1).back)
      have hgood : Hid ((∀ r ∈ R1.map bRo, okR r) ∧ ∀ q, fitT (tol (R0 ++ R1 ++ R1.map bRo) q)) :=
        ⟨ok_back (unhide H1) hok1, fit_there (unhide HV5).fit (unhide H1) hok1⟩
      have hown : Hid (∀ q d, own (tol (R0 ++ R1 ++ R1.map bRo) q) d = own (tol R0 q) d) := fun q d => own_there (unhide H1) hok1 q d
      have HV8 := hide hV8; have HB8 := hide hB8; have HS8 := hide hs8; have HD8 := hide hd8; have HLM := hide hlm
      clear hB8 hrow8 hs8 hL9 hV8 dA hfr8 hd8 hok1 hlm
      go_wp2_with fail
      refine (unhide dA2).mono ?_
      rintro e w9 hO
      rcases hO with ⟨hno, _⟩ | ⟨_, rfl, hV9, hfr9⟩
      · exact absurd (unhide hgood) hno
      have hB9 : Below w.heap.size w w9 := (unhide HB8).trans ((hfr9.below (unhide HD8) (by omega)).mono (unhide HZ1))
      have hs9 := hfr9.rowV (unhide HV8) (unhide HS8) (by decide) (by decide)
      have dS := hide (state_vw hV9 (by rw [List.length_append, List.length_append, unhide HLM, ← unhide HN0, ← unhide HN1]; omega))
      have HS9 := hide hs9; have HB9 := hide hB9
      clear hV9 hfr9 hB9 hs9 dA2
      go_wp2_with fail
      refine (unhide dS).mono ?_
      rintro e w10 ⟨L10, p10, c10, hst10, rfl, hrow10, hb10⟩
      have hs10 := row_keep (unhide HS9) (W' := w10) (fun g hg => hb10.block g (row_block (unhide HS9) hg).2.1)
      have eL : L10 = L := hst10.same (unhide HST) (unhide hown)
      subst eL
      have dE := hide (same_any (c1 := c5) (c2 := c10) (unhide HNL).symm (by omega) (own_lies kD_ok rfl hs10) (own_lies kD_ok rfl hrow10))
      have HB10 := hide ((unhide HB9).trans (hb10.mono (unhide HB9).size))
      rw [← unhide HNL]
      clear hrow10 hb10 hs10 hst10 dS
      go_wp2_with fail
      refine (unhide dE).mono ?_
      rintro e wx ⟨rfl, m, hw⟩
      have HBX : Hid (Below w.heap.size w wx) := by rw [hw]; exact below_drewN (unhide HB10) m
      clear hw
      go_wp2_with fail
      go_ret
      exact ⟨rfl, unhide HBX⟩
end Go.Proofs.YtenoaechonpjgaaDoor
