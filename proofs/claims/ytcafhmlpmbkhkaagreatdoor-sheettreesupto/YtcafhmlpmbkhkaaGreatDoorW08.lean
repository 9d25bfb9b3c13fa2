import Derived.Test.YtcafhmlpmbkhkaaGreatDoorW06
import Derived.Test.YtcafhmlpmbkhkaaGreatDoorW07
import Derived.Lib.AppendStr
/- The grid's rows as bytes: appendRow (138). -/
namespace Go.Proofs.YtcafhmlpmbkhkaaGreatDoor
open Go Go.Shelf Go.ChangeShapes Go.WideShapes Go.ChangeAt Go.RowKit Go.Maps
set_option linter.unusedVariables false
set_option linter.unusedSimpArgs false
/-- bytes as cells -/
def bcs (l : Tx) : List Value := l.map fun b => .int .u8 (b.toNat : Int)
theorem bcs_len (l : Tx) : (bcs l).length = l.length := by simp [bcs]
theorem bcs_app (a b : Tx) : bcs (a ++ b) = bcs a ++ bcs b := by simp [bcs]
theorem bcs_str (l : Tx) : Lib.strCells (txB l) = bcs l := by simp [Lib.strCells, txB, bcs]
theorem trim_is (x : Tx) : (⟨(Lib.trimRightB (txB x).data.toList 32).toArray⟩ : ByteArray) = txB (strip x) := rfl
theorem rep_is (n : Nat) : (⟨(Lib.repeatL (⟨#[32]⟩ : ByteArray).data.toList n).toArray⟩ : ByteArray) = txB (bl n) := by
  have h := Lib.repeatL_replicate 32 1 n
  rw [Nat.mul_one] at h
  show (⟨(Lib.repeatL (List.replicate 1 32) n).toArray⟩ : ByteArray) = _
  rw [h]
  rfl
/-- an append of a text's bytes, as an operation of a region, by its run -/
theorem wpList_append_runS {P : Program} {w : World} {ops : Array Oper} {rest : List Oper} {o : Oper} {a : Act} {Q : Exit → Act → World → Prop} (hgd : o.guard = none) (s x : Operand) (t u : TypeId)
    (ho : o.op = .call { callee := .builtin .append, args := #[s, x], argTypes := #[t, u] }) (v y v' : Value) (w' : World) (hs : a.eval s = v) (hx : a.eval x = y) (hr : (Builtin.append_ #[t, u] o.type #[v, y]).run P w = .ok v' w')
    (h : wpList P ops Q rest (a.put o.dst v') w') : wpList P ops Q (o :: rest) a w := by
  refine wpList_plain hgd fun K hK => ?_
  unfold Oper.wp execOp
  simp only [ho, resolve, invoke, builtin, Sem.run_bind, Sem.run_pure, Result.andThen_ok, List.map_toArray, List.map_cons, List.map_nil, hs, hx, hr]
  exact hK _ _ h
/-- bytes of the call's own that grow -/
structure By (w0 : World) (T : Tx) (v : Value) (w : World) : Prop where
  own : w.ownsRow w0.heap.size 5 1 v T.length (bcs T)
  bel : Below w0.heap.size w0 w
theorem By.below {w0 : World} {T : Tx} {v : Value} {w w' : World} (h : By w0 T v w) (hb : Below w.heap.size w w') : By w0 T v w' := ⟨own_below h.own hb, h.bel.trans (hb.mono h.bel.size)⟩
theorem By.slice {w0 : World} {T : Tx} {v : Value} {w : World} (h : By w0 T v w) : ∃ p c, v = .slice p T.length c := by
  obtain ⟨p, c, e, _⟩ := row_slice h.own
  exact ⟨p, c, e⟩
theorem info5 : ∃ i, Tryz.prog.info? 5 = some i ∧ i.zero = some (.int .u8 0) ∧ i.size = 1 ∧ i.bytes = 1 := info_parts (by kernel_rfl)
theorem By.app {w0 : World} {T : Tx} {v : Value} {w : World} (h : By w0 T v w) (x : Tx) (hl : T.length + x.length ≤ 140737488355328) :
    ∃ v' w', (Builtin.append_ #[196, 9] 196 #[v, .string (txB x)]).run Tryz.prog w = .ok v' w' ∧ By w0 (T ++ x) v' w' := by
  obtain ⟨i, h1, h2, h3, h4⟩ := info5
  obtain ⟨v', w', hr, ho, hg, _⟩ := Lib.run_append_own_string (P := Tryz.prog) w w0.heap.size 196 9 196 5 i Tryz.underlying196 Tryz.underlying9 h1 h2 h3 h4 v T.length (bcs T) h.own (txB x) (by rw [txB_len]; unfold maxLen; omega) (by rw [txB_len]; exact hl) h.bel.size
  rw [bcs_str, ← bcs_app, txB_len] at ho
  refine ⟨v', w', hr, ⟨by rw [List.length_append]; exact ho, h.bel.trans ⟨hg.os, hg.tape, hg.output, Nat.le_trans h.bel.size (Nat.le_trans hg.size (Nat.le_refl _)) |> fun _ => hg.size, fun k hk => hg.block k (Nat.lt_of_lt_of_le hk h.bel.size) (fun e => ?_)⟩⟩⟩
  have := (row_block h.own e.symm).1
  omega
/-- what appendRow leaves -/
def RowOut (w0 : World) (T : Tx) (e : Ending) (w' : World) : Prop := ∃ v, e = .returned v ∧ By w0 T v w'
/-- which sides are right -/
def rgt (S : List Int) (c : Nat) : Bool := S.getD c 0 == 1
theorem rep_at (z : Int) (q : Nat) (hz : z = (q : Int)) (hq : q ≤ 140737488355328) (w : World) : Calls Tryz.prog 187 #[.string ⟨#[32]⟩, .int .i64 z] w fun e w' => e = .returned (.string (txB (bl q))) ∧ Below w.heap.size w w' := by
  subst hz
  have h := Tryz.strings_Repeat ⟨#[32]⟩ q w (by omega) (by show 1 * q ≤ _; omega)
  rw [rep_is q] at h
  exact h
theorem empty_yes {x : Tx} (h : x = []) : (txB x).toList.isEmpty = true := by
  rw [h, Lib.toList_data]
  rfl
theorem empty_no {x : Tx} (h : x.length ≠ 0) : (txB x).toList.isEmpty = false := ne_of_size (by rw [txB_len]; exact h)
set_option maxRecDepth 100000 in
set_option maxHeartbeats 8000000 in
theorem arow_any {B : Nat} {w0 w : World} {d : Nat} {S : List Int} {R0 : List (List Tx)} (h0 : Gr B w0 d S R0) {T : Tx} {v : Value} (hT : By w0 T v w) {p : Option Addr} {n c : Nat} {r : List Tx} (hr : RowIs w0 ⟨p, n, c⟩ r) (hn : n ≤ S.length) (hm : S.length ≤ 1048576)
    {pw : Option Addr} {cw : Nat} {W : Nat → Nat} (hW : Lies kI w0 pw (wds S.length W)) (hx : ∀ c, (r.getD c []).length ≤ W c) {M : Nat} (hM : ∀ c, W c ≤ M) (hM1 : M ≤ 1099511627776) (hl : T.length + n * (M + 2) ≤ 140737488355328) :
    Calls Tryz.prog 138 #[.pointer (some ⟨d, 0, none⟩), v, .slice p n c, .slice pw S.length cw] w (RowOut w0 (T ++ lineT (rgt S) W r)) := by
  obtain ⟨ps, cs, pr, cr, L, h⟩ := h0
  have hdlt : d < w0.heap.size := (Array.getElem?_eq_some_iff.1 h.cell).1
  obtain ⟨m, hS⟩ : ∃ m, m = S.length := ⟨_, rfl⟩
  have hside := h.side
  have hc := h.cell
  have hnr : n = r.length := hr.n
  have hlies := hr.lies
  rw [← hS] at hm hn hW hc ⊢
  have hcell : ∀ k, k < m → ∃ b o z, ps = some ⟨b, o, none⟩ ∧ b < w0.heap.size ∧ w0.cell? ⟨b, o + k, none⟩ = some (.int .i64 z) ∧ rgt S k = (z == 1) := fun k hk => by
    obtain ⟨b, o, e, hb, hrr⟩ := hside.2 k (by omega)
    have := hrr 0 (.int .i64 (S[k]'(by omega))) rfl
    refine ⟨b, o, S[k]'(by omega), e, hb, by simpa [kG] using this, ?_⟩
    simp [rgt, List.getD, List.getElem?_eq_getElem (show k < S.length by omega)]
  have htext : ∀ k, k < n → ∃ b o x, p = some ⟨b, o, none⟩ ∧ b < w0.heap.size ∧ w0.cell? ⟨b, o + k, none⟩ = some (.string (txB x)) ∧ r.getD k [] = x := fun k hk => by
    obtain ⟨b, o, e, hb, hrr⟩ := hlies.2 k (by omega)
    have := hrr 0 (.string (txB (r[k]'(by omega)))) rfl
    refine ⟨b, o, r[k]'(by omega), e, hb, by simpa [kT] using this, ?_⟩
    simp [List.getD, List.getElem?_eq_getElem (show k < r.length by omega)]
  have hwid : ∀ k, k < m → ∃ b o, pw = some ⟨b, o, none⟩ ∧ b < w0.heap.size ∧ w0.cell? ⟨b, o + k, none⟩ = some (.int .i64 (W k : Int)) := fun k hk => by
    obtain ⟨b, o, e, hb, hrr⟩ := hW.2 k (by rw [wds_len]; exact hk)
    have := hrr 0 (.int .i64 ((wds m W)[k]'(by rw [wds_len]; exact hk))) rfl
    refine ⟨b, o, e, hb, ?_⟩
    simpa [kI, wds] using this
  have HC := hide hcell; have HT := hide htext; have HW := hide hwid; have HX := hide hx; have HM := hide hM; have HN := hide hnr; have HD := hide hc; have HL := hide hl
  have HD1 := hide hdlt
  have HT0 := hide hT
  obtain ⟨p0, c0, hv⟩ := hT.slice
  obtain ⟨tl, htl⟩ : ∃ t, t = T.length := ⟨_, rfl⟩
  rw [← htl] at hv
  subst hv
  have HTL := hide htl
  have hn1 : n ≤ 1048576 := by omega
  clear hcell htext hwid hx hM hnr hc hl hT hW hside hlies hr h hdlt htl
  clear hS
  go_enter Tryz.func138, Tryz.ntmps138
  go_wp2_with fail
  go_loopw [1, 9, 17] (fun tv ov iv wr => ∃ (k : Nat) (K : Int) (O : Int), k ≤ n ∧ iv = .int .i64 K ∧ K = (k : Int) ∧ ov = .int .i64 O ∧ O = (owedT (rgt S) W r k : Int) ∧ (∃ p' n' c', tv = .slice p' n' c') ∧ Hid (By w0 (T ++ strip (joinT (rgt S) W r k)) tv wr)) (fun _ _ iv _ => ((n : Int) - intOf iv).toNat)
  case atStart =>
    refine ⟨0, 0, 0, by omega, rfl, rfl, rfl, rfl, ⟨_, _, _, rfl⟩, ?_⟩
    have e : T ++ strip (joinT (rgt S) W r 0) = T := by rw [show joinT (rgt S) W r 0 = [] from rfl, strip_nil, List.append_nil]
    show By w0 _ _ _
    rw [e]
    exact unhide HT0
  case round =>
    obtain ⟨wo, rfl⟩ : ∃ x, x = wr := ⟨wr, rfl⟩
    obtain ⟨k, K, O, hk, rfl, hK, rfl, hO, ⟨p1, n1, c1, rfl⟩, HA⟩ := hrel
    clear HT0
    by_cases hlt : k < n
    · have hI : K < (n : Int) := by omega
      have hKm : K < (m : Int) := by omega
      have hK0 : 0 ≤ K := by omega
      have hKt : K.toNat = k := by omega
      obtain ⟨b1, o1, z, e1, hb1, q1, hz⟩ := unhide HC k (by omega)
      obtain ⟨b2, o2, x, e2, hb2, q2, hxr⟩ := unhide HT k hlt
      obtain ⟨b3, o3, e3, hb3, q3⟩ := unhide HW k (by omega)
      subst e1 e2 e3
      have hbel := (unhide HA).bel
      have l1 := keep1 hbel hb1 q1
      have l2 := keep1 hbel hb2 q2
      have l3 := keep1 hbel hb3 q3
      have l4 : wo.cell? ⟨d, 0, none⟩ = some (.slice (some ⟨b1, o1, none⟩) m cs) := keep1 hbel (unhide HD1) (by rw [cell_at (unhide HD)]; rfl)
      have hxW : x.length ≤ W k := by rw [← hxr]; exact unhide HX k
      have hWM := unhide HM k
      obtain ⟨X, hXe⟩ : ∃ X, X = txB x := ⟨_, rfl⟩
      obtain ⟨Y, hYe⟩ : ∃ Y, Y = txB (strip x) := ⟨_, rfl⟩
      obtain ⟨WK, hWK⟩ : ∃ z : Int, z = (W k : Int) := ⟨_, rfl⟩
      obtain ⟨xl, hxl⟩ : ∃ z : Nat, z = x.length := ⟨_, rfl⟩
      obtain ⟨yl, hyl⟩ : ∃ z : Nat, z = (strip x).length := ⟨_, rfl⟩
      have hXs : X.size = xl := by rw [hXe, txB_len, hxl]
      have hYs : Y.size = yl := by rw [hYe, txB_len, hyl]
      have hyx : yl ≤ xl := by rw [hyl, hxl]; exact strip_le x
      have HTR : Hid (∀ w' : World, Calls Tryz.prog 199 #[.string X, .string ⟨#[32]⟩] w' fun e w'' => e = .returned (.string Y) ∧ w'' = w') := fun w' => by
        rw [hXe, hYe]
        exact Tryz.strings_TrimRight_one (txB x) 32 (by decide) w' (by rw [txB_len]; omega)
      have hlen1 := unhide HL
      have hjl : ∀ j, (joinT (rgt S) W r j).length ≤ j * (M + 2) := fun j => joinT_len _ _ _ M (unhide HX) (unhide HM) j
      have hkM : (k + 1) * (M + 2) ≤ n * (M + 2) := Nat.mul_le_mul_right _ (by omega)
      have hjk := hjl (k + 1)
      have hj0 := hjl k
      have hsj := strip_le (joinT (rgt S) W r (k + 1))
      have hSL : (strip (joinT (rgt S) W r (k + 1))).length + T.length ≤ 140737488355328 := by omega
      have hkM0 : k * (M + 2) ≤ (k + 1) * (M + 2) := Nat.mul_le_mul_right _ (by omega)
      have hOb : (owedT (rgt S) W r k : Int) ≤ 140737488355328 := by
        unfold owedT
        omega
      have HSL := hide hSL
      clear hjl hkM hjk hj0 hsj hSL hkM0
      rw [← hXe] at l2
      rw [← hWK] at l3
      have hxW2 : (xl : Int) ≤ WK := by omega
      have hWM2 : WK ≤ 1099511627776 := by omega
      have hO0 : 0 ≤ O := by omega
      have hO1 : O ≤ 140737488355328 := by omega
      have hXz : (X.size : Int) = (xl : Int) := by rw [hXs]
      have hYz : (Y.size : Int) = (yl : Int) := by rw [hYs]
      have HK := hide hK; have HO := hide hO; have HWK := hide hWK; have HXL := hide hxl; have HYL := hide hyl; have HYE := hide hYe
      have HBEL := hide hbel; have HZ := hide hz; have HXR := hide hxr; have HXW := hide hxW
      clear hK hO hWK hxl hyl hYe hXe hbel hz hxr hxW hXs hYs hWM q1 q2 q3 hlen1 hOb
      by_cases hk0 : k = 0
      · have hI0 : ¬ (0 : Int) < K := by have := unhide HK; omega
        have HK0 := hide hk0
        clear hk0
        by_cases hz1 : z = 1
        · subst hz1
          by_cases hy0 : yl = 0
          · have HSE := hide (step_none (rgt S) W r k x (unhide HXR) (unhide HXW) (List.eq_nil_of_length_eq_zero (by rw [← unhide HYL]; exact hy0)))
            have hye : Y.toList.isEmpty = true := by rw [unhide HYE]; exact empty_yes (List.eq_nil_of_length_eq_zero (by rw [← unhide HYL]; exact hy0))
            go_wp2_with fail
            go_quiet (fail)
            go_wp2_with fail
            refine (unhide HTR _).mono ?_
            rintro e w1 ⟨rfl, hw1⟩
            subst hw1
            have HFIN : Hid (By w0 (T ++ strip (joinT (rgt S) W r (k + 1))) (.slice p1 n1 c1) (wo.drewN nq)) := by
              show By _ _ _ _
              rw [(unhide HSE).1]
              exact (unhide HA).below (below_drewN (Below.refl _ _) nq)
            go_wp2_with fail
            refine ⟨⟨k + 1, K + 1, _, by omega, by go_num, by have := unhide HK; omega, rfl, ?_, ⟨_, _, _, rfl⟩, unhide HFIN⟩, by simp [intOf]; omega⟩
            rw [(unhide HSE).2]
            have h1 := unhide HO; have h2 := unhide HWK; have h3 := unhide HXL; have h5 := unhide HYL
            rw [if_pos (unhide HK0)]
            omega
          · have HSE := hide (step_seen (rgt S) W r k x (unhide HXR) (unhide HXW) (fun e => hy0 (by rw [unhide HYL, e]; rfl)))
            have hye : Y.toList.isEmpty = false := by rw [unhide HYE]; exact empty_no (by rw [← unhide HYL]; exact hy0)
            obtain ⟨q, hq⟩ : ∃ q : Nat, (q : Int) = O + (WK - (xl : Int)) := ⟨(O + (WK - (xl : Int))).toNat, by omega⟩
            have hq0 : q ≤ 281474976710656 := by omega
            have HQ : Hid (q = owedT (rgt S) W r k + (if k = 0 then 0 else 2) + (if rgt S k then W k - x.length else 0)) := by
              have h1 := unhide HO; have h2 := unhide HWK; have h3 := unhide HXL; have h4 := unhide HZ
              show q = _
              rw [h4]
              rw [if_pos (unhide HK0)]
              rw [if_pos (by decide)]
              omega
            have HLEN : Hid (T.length + (strip (joinT (rgt S) W r k)).length + q + (strip x).length ≤ 140737488355328) := by
              have h1 := unhide HSL
              rw [(unhide HSE).1, List.length_append, List.length_append, bl_len, ← unhide HQ] at h1
              show _ ≤ _
              omega
            have hq1 : q ≤ 140737488355328 := by have := unhide HLEN; omega
            clear hq0
            go_wp2_with fail
            go_quiet (fail)
            go_wp2_with fail
            refine (unhide HTR _).mono ?_
            rintro e w1 ⟨rfl, hw1⟩
            subst hw1
            go_wp2_with fail
            refine (rep_at _ q (by omega) hq1 _).mono ?_
            rintro e w2 ⟨rfl, hb2'⟩
            have HB2 : Hid (By w0 (T ++ strip (joinT (rgt S) W r k)) (.slice p1 n1 c1) w2) := (unhide HA).below (Below.trans (below_drewN (Below.refl _ _) nq) hb2')
            clear hb2'
            obtain ⟨v3, w3, hr3, hB3⟩ := (unhide HB2).app (bl q) (by rw [List.length_append, bl_len]; have := unhide HLEN; omega)
            obtain ⟨p3, n3, c3, rfl⟩ : ∃ p n c, v3 = .slice p n c := by obtain ⟨p, c, e⟩ := hB3.slice; exact ⟨_, _, _, e⟩
            obtain ⟨v4, w4, hr4, hB4⟩ := hB3.app (strip x) (by rw [List.length_append, List.length_append, bl_len]; have := unhide HLEN; omega)
            obtain ⟨p4, n4, c4, rfl⟩ : ∃ p n c, v4 = .slice p n c := by obtain ⟨p, c, e⟩ := hB4.slice; exact ⟨_, _, _, e⟩
            rw [← unhide HYE] at hr4
            have HR3 := hide hr3; have HR4 := hide hr4
            have HFIN : Hid (By w0 (T ++ strip (joinT (rgt S) W r (k + 1))) (.slice p4 n4 c4) w4) := by
              show By _ _ _ _
              rw [(unhide HSE).1, ← unhide HQ, ← List.append_assoc, ← List.append_assoc]
              exact hB4
            clear hr3 hr4 hB3 hB4
            go_wp2_with (at_builtin; first | (refine wpList_append_runS rfl _ _ 196 9 rfl _ _ _ _ rfl rfl (unhide HR3) ?_) | (refine wpList_append_runS rfl _ _ 196 9 rfl _ _ _ _ rfl rfl (unhide HR4) ?_))
            refine ⟨⟨k + 1, K + 1, _, by omega, by go_num, by have := unhide HK; omega, rfl, ?_, ⟨_, _, _, rfl⟩, unhide HFIN⟩, by simp [intOf]; omega⟩
            rw [(unhide HSE).2, unhide HZ]
            have h2 := unhide HWK; have h3 := unhide HXL; have h5 := unhide HYL
            rw [if_pos (by decide)]
            omega
        · have hz2 : (z == 1) = false := beq_eq_false_iff_ne.2 hz1
          by_cases hy0 : yl = 0
          · have HSE := hide (step_none (rgt S) W r k x (unhide HXR) (unhide HXW) (List.eq_nil_of_length_eq_zero (by rw [← unhide HYL]; exact hy0)))
            have hye : Y.toList.isEmpty = true := by rw [unhide HYE]; exact empty_yes (List.eq_nil_of_length_eq_zero (by rw [← unhide HYL]; exact hy0))
            go_wp2_with fail
            go_quiet (fail)
            go_wp2_with fail
            refine (unhide HTR _).mono ?_
            rintro e w1 ⟨rfl, hw1⟩
            subst hw1
            have HFIN : Hid (By w0 (T ++ strip (joinT (rgt S) W r (k + 1))) (.slice p1 n1 c1) (wo.drewN nq)) := by
              show By _ _ _ _
              rw [(unhide HSE).1]
              exact (unhide HA).below (below_drewN (Below.refl _ _) nq)
            go_wp2_with fail
            refine ⟨⟨k + 1, K + 1, _, by omega, by go_num, by have := unhide HK; omega, rfl, ?_, ⟨_, _, _, rfl⟩, unhide HFIN⟩, by simp [intOf]; omega⟩
            rw [(unhide HSE).2]
            have h1 := unhide HO; have h2 := unhide HWK; have h3 := unhide HXL; have h5 := unhide HYL
            rw [if_pos (unhide HK0)]
            omega
          · have HSE := hide (step_seen (rgt S) W r k x (unhide HXR) (unhide HXW) (fun e => hy0 (by rw [unhide HYL, e]; rfl)))
            have hye : Y.toList.isEmpty = false := by rw [unhide HYE]; exact empty_no (by rw [← unhide HYL]; exact hy0)
            obtain ⟨q, hq⟩ : ∃ q : Nat, (q : Int) = O := ⟨(O).toNat, by omega⟩
            have hq0 : q ≤ 281474976710656 := by omega
            have HQ : Hid (q = owedT (rgt S) W r k + (if k = 0 then 0 else 2) + (if rgt S k then W k - x.length else 0)) := by
              have h1 := unhide HO; have h2 := unhide HWK; have h3 := unhide HXL; have h4 := unhide HZ
              show q = _
              rw [h4]
              rw [if_pos (unhide HK0)]
              rw [if_neg (by rw [beq_iff_eq]; exact hz1)]
              omega
            have HLEN : Hid (T.length + (strip (joinT (rgt S) W r k)).length + q + (strip x).length ≤ 140737488355328) := by
              have h1 := unhide HSL
              rw [(unhide HSE).1, List.length_append, List.length_append, bl_len, ← unhide HQ] at h1
              show _ ≤ _
              omega
            have hq1 : q ≤ 140737488355328 := by have := unhide HLEN; omega
            clear hq0
            go_wp2_with fail
            go_quiet (fail)
            go_wp2_with fail
            refine (unhide HTR _).mono ?_
            rintro e w1 ⟨rfl, hw1⟩
            subst hw1
            go_wp2_with fail
            refine (rep_at _ q (by omega) hq1 _).mono ?_
            rintro e w2 ⟨rfl, hb2'⟩
            have HB2 : Hid (By w0 (T ++ strip (joinT (rgt S) W r k)) (.slice p1 n1 c1) w2) := (unhide HA).below (Below.trans (below_drewN (Below.refl _ _) nq) hb2')
            clear hb2'
            obtain ⟨v3, w3, hr3, hB3⟩ := (unhide HB2).app (bl q) (by rw [List.length_append, bl_len]; have := unhide HLEN; omega)
            obtain ⟨p3, n3, c3, rfl⟩ : ∃ p n c, v3 = .slice p n c := by obtain ⟨p, c, e⟩ := hB3.slice; exact ⟨_, _, _, e⟩
            obtain ⟨v4, w4, hr4, hB4⟩ := hB3.app (strip x) (by rw [List.length_append, List.length_append, bl_len]; have := unhide HLEN; omega)
            obtain ⟨p4, n4, c4, rfl⟩ : ∃ p n c, v4 = .slice p n c := by obtain ⟨p, c, e⟩ := hB4.slice; exact ⟨_, _, _, e⟩
            rw [← unhide HYE] at hr4
            have HR3 := hide hr3; have HR4 := hide hr4
            have HFIN : Hid (By w0 (T ++ strip (joinT (rgt S) W r (k + 1))) (.slice p4 n4 c4) w4) := by
              show By _ _ _ _
              rw [(unhide HSE).1, ← unhide HQ, ← List.append_assoc, ← List.append_assoc]
              exact hB4
            clear hr3 hr4 hB3 hB4
            go_wp2_with (at_builtin; first | (refine wpList_append_runS rfl _ _ 196 9 rfl _ _ _ _ rfl rfl (unhide HR3) ?_) | (refine wpList_append_runS rfl _ _ 196 9 rfl _ _ _ _ rfl rfl (unhide HR4) ?_))
            refine ⟨⟨k + 1, K + 1, _, by omega, by go_num, by have := unhide HK; omega, rfl, ?_, ⟨_, _, _, rfl⟩, unhide HFIN⟩, by simp [intOf]; omega⟩
            rw [(unhide HSE).2, unhide HZ]
            have h2 := unhide HWK; have h3 := unhide HXL; have h5 := unhide HYL
            rw [if_neg (by rw [beq_iff_eq]; exact hz1)]
            omega
      · have hI0 : 0 < K := by have := unhide HK; omega
        have HK0 := hide hk0
        clear hk0
        by_cases hz1 : z = 1
        · subst hz1
          by_cases hy0 : yl = 0
          · have HSE := hide (step_none (rgt S) W r k x (unhide HXR) (unhide HXW) (List.eq_nil_of_length_eq_zero (by rw [← unhide HYL]; exact hy0)))
            have hye : Y.toList.isEmpty = true := by rw [unhide HYE]; exact empty_yes (List.eq_nil_of_length_eq_zero (by rw [← unhide HYL]; exact hy0))
            go_wp2_with fail
            go_quiet (fail)
            go_wp2_with fail
            refine (unhide HTR _).mono ?_
            rintro e w1 ⟨rfl, hw1⟩
            subst hw1
            have HFIN : Hid (By w0 (T ++ strip (joinT (rgt S) W r (k + 1))) (.slice p1 n1 c1) (wo.drewN nq)) := by
              show By _ _ _ _
              rw [(unhide HSE).1]
              exact (unhide HA).below (below_drewN (Below.refl _ _) nq)
            go_wp2_with fail
            refine ⟨⟨k + 1, K + 1, _, by omega, by go_num, by have := unhide HK; omega, rfl, ?_, ⟨_, _, _, rfl⟩, unhide HFIN⟩, by simp [intOf]; omega⟩
            rw [(unhide HSE).2]
            have h1 := unhide HO; have h2 := unhide HWK; have h3 := unhide HXL; have h5 := unhide HYL
            rw [if_neg (unhide HK0)]
            omega
          · have HSE := hide (step_seen (rgt S) W r k x (unhide HXR) (unhide HXW) (fun e => hy0 (by rw [unhide HYL, e]; rfl)))
            have hye : Y.toList.isEmpty = false := by rw [unhide HYE]; exact empty_no (by rw [← unhide HYL]; exact hy0)
            obtain ⟨q, hq⟩ : ∃ q : Nat, (q : Int) = O + 2 + (WK - (xl : Int)) := ⟨(O + 2 + (WK - (xl : Int))).toNat, by omega⟩
            have hq0 : q ≤ 281474976710656 := by omega
            have HQ : Hid (q = owedT (rgt S) W r k + (if k = 0 then 0 else 2) + (if rgt S k then W k - x.length else 0)) := by
              have h1 := unhide HO; have h2 := unhide HWK; have h3 := unhide HXL; have h4 := unhide HZ
              show q = _
              rw [h4]
              rw [if_neg (unhide HK0)]
              rw [if_pos (by decide)]
              omega
            have HLEN : Hid (T.length + (strip (joinT (rgt S) W r k)).length + q + (strip x).length ≤ 140737488355328) := by
              have h1 := unhide HSL
              rw [(unhide HSE).1, List.length_append, List.length_append, bl_len, ← unhide HQ] at h1
              show _ ≤ _
              omega
            have hq1 : q ≤ 140737488355328 := by have := unhide HLEN; omega
            clear hq0
            go_wp2_with fail
            go_quiet (fail)
            go_wp2_with fail
            refine (unhide HTR _).mono ?_
            rintro e w1 ⟨rfl, hw1⟩
            subst hw1
            go_wp2_with fail
            refine (rep_at _ q (by omega) hq1 _).mono ?_
            rintro e w2 ⟨rfl, hb2'⟩
            have HB2 : Hid (By w0 (T ++ strip (joinT (rgt S) W r k)) (.slice p1 n1 c1) w2) := (unhide HA).below (Below.trans (below_drewN (Below.refl _ _) nq) hb2')
            clear hb2'
            obtain ⟨v3, w3, hr3, hB3⟩ := (unhide HB2).app (bl q) (by rw [List.length_append, bl_len]; have := unhide HLEN; omega)
            obtain ⟨p3, n3, c3, rfl⟩ : ∃ p n c, v3 = .slice p n c := by obtain ⟨p, c, e⟩ := hB3.slice; exact ⟨_, _, _, e⟩
            obtain ⟨v4, w4, hr4, hB4⟩ := hB3.app (strip x) (by rw [List.length_append, List.length_append, bl_len]; have := unhide HLEN; omega)
            obtain ⟨p4, n4, c4, rfl⟩ : ∃ p n c, v4 = .slice p n c := by obtain ⟨p, c, e⟩ := hB4.slice; exact ⟨_, _, _, e⟩
            rw [← unhide HYE] at hr4
            have HR3 := hide hr3; have HR4 := hide hr4
            have HFIN : Hid (By w0 (T ++ strip (joinT (rgt S) W r (k + 1))) (.slice p4 n4 c4) w4) := by
              show By _ _ _ _
              rw [(unhide HSE).1, ← unhide HQ, ← List.append_assoc, ← List.append_assoc]
              exact hB4
            clear hr3 hr4 hB3 hB4
            go_wp2_with (at_builtin; first | (refine wpList_append_runS rfl _ _ 196 9 rfl _ _ _ _ rfl rfl (unhide HR3) ?_) | (refine wpList_append_runS rfl _ _ 196 9 rfl _ _ _ _ rfl rfl (unhide HR4) ?_))
            refine ⟨⟨k + 1, K + 1, _, by omega, by go_num, by have := unhide HK; omega, rfl, ?_, ⟨_, _, _, rfl⟩, unhide HFIN⟩, by simp [intOf]; omega⟩
            rw [(unhide HSE).2, unhide HZ]
            have h2 := unhide HWK; have h3 := unhide HXL; have h5 := unhide HYL
            rw [if_pos (by decide)]
            omega
        · have hz2 : (z == 1) = false := beq_eq_false_iff_ne.2 hz1
          by_cases hy0 : yl = 0
          · have HSE := hide (step_none (rgt S) W r k x (unhide HXR) (unhide HXW) (List.eq_nil_of_length_eq_zero (by rw [← unhide HYL]; exact hy0)))
            have hye : Y.toList.isEmpty = true := by rw [unhide HYE]; exact empty_yes (List.eq_nil_of_length_eq_zero (by rw [← unhide HYL]; exact hy0))
            go_wp2_with fail
            go_quiet (fail)
            go_wp2_with fail
            refine (unhide HTR _).mono ?_
            rintro e w1 ⟨rfl, hw1⟩
            subst hw1
            have HFIN : Hid (By w0 (T ++ strip (joinT (rgt S) W r (k + 1))) (.slice p1 n1 c1) (wo.drewN nq)) := by
              show By _ _ _ _
              rw [(unhide HSE).1]
              exact (unhide HA).below (below_drewN (Below.refl _ _) nq)
            go_wp2_with fail
            refine ⟨⟨k + 1, K + 1, _, by omega, by go_num, by have := unhide HK; omega, rfl, ?_, ⟨_, _, _, rfl⟩, unhide HFIN⟩, by simp [intOf]; omega⟩
            rw [(unhide HSE).2]
            have h1 := unhide HO; have h2 := unhide HWK; have h3 := unhide HXL; have h5 := unhide HYL
            rw [if_neg (unhide HK0)]
            omega
          · have HSE := hide (step_seen (rgt S) W r k x (unhide HXR) (unhide HXW) (fun e => hy0 (by rw [unhide HYL, e]; rfl)))
            have hye : Y.toList.isEmpty = false := by rw [unhide HYE]; exact empty_no (by rw [← unhide HYL]; exact hy0)
            obtain ⟨q, hq⟩ : ∃ q : Nat, (q : Int) = O + 2 := ⟨(O + 2).toNat, by omega⟩
            have hq0 : q ≤ 281474976710656 := by omega
            have HQ : Hid (q = owedT (rgt S) W r k + (if k = 0 then 0 else 2) + (if rgt S k then W k - x.length else 0)) := by
              have h1 := unhide HO; have h2 := unhide HWK; have h3 := unhide HXL; have h4 := unhide HZ
              show q = _
              rw [h4]
              rw [if_neg (unhide HK0)]
              rw [if_neg (by rw [beq_iff_eq]; exact hz1)]
              omega
            have HLEN : Hid (T.length + (strip (joinT (rgt S) W r k)).length + q + (strip x).length ≤ 140737488355328) := by
              have h1 := unhide HSL
              rw [(unhide HSE).1, List.length_append, List.length_append, bl_len, ← unhide HQ] at h1
              show _ ≤ _
              omega
            have hq1 : q ≤ 140737488355328 := by have := unhide HLEN; omega
            clear hq0
            go_wp2_with fail
            go_quiet (fail)
            go_wp2_with fail
            refine (unhide HTR _).mono ?_
            rintro e w1 ⟨rfl, hw1⟩
            subst hw1
            go_wp2_with fail
            refine (rep_at _ q (by omega) hq1 _).mono ?_
            rintro e w2 ⟨rfl, hb2'⟩
            have HB2 : Hid (By w0 (T ++ strip (joinT (rgt S) W r k)) (.slice p1 n1 c1) w2) := (unhide HA).below (Below.trans (below_drewN (Below.refl _ _) nq) hb2')
            clear hb2'
            obtain ⟨v3, w3, hr3, hB3⟩ := (unhide HB2).app (bl q) (by rw [List.length_append, bl_len]; have := unhide HLEN; omega)
            obtain ⟨p3, n3, c3, rfl⟩ : ∃ p n c, v3 = .slice p n c := by obtain ⟨p, c, e⟩ := hB3.slice; exact ⟨_, _, _, e⟩
            obtain ⟨v4, w4, hr4, hB4⟩ := hB3.app (strip x) (by rw [List.length_append, List.length_append, bl_len]; have := unhide HLEN; omega)
            obtain ⟨p4, n4, c4, rfl⟩ : ∃ p n c, v4 = .slice p n c := by obtain ⟨p, c, e⟩ := hB4.slice; exact ⟨_, _, _, e⟩
            rw [← unhide HYE] at hr4
            have HR3 := hide hr3; have HR4 := hide hr4
            have HFIN : Hid (By w0 (T ++ strip (joinT (rgt S) W r (k + 1))) (.slice p4 n4 c4) w4) := by
              show By _ _ _ _
              rw [(unhide HSE).1, ← unhide HQ, ← List.append_assoc, ← List.append_assoc]
              exact hB4
            clear hr3 hr4 hB3 hB4
            go_wp2_with (at_builtin; first | (refine wpList_append_runS rfl _ _ 196 9 rfl _ _ _ _ rfl rfl (unhide HR3) ?_) | (refine wpList_append_runS rfl _ _ 196 9 rfl _ _ _ _ rfl rfl (unhide HR4) ?_))
            refine ⟨⟨k + 1, K + 1, _, by omega, by go_num, by have := unhide HK; omega, rfl, ?_, ⟨_, _, _, rfl⟩, unhide HFIN⟩, by simp [intOf]; omega⟩
            rw [(unhide HSE).2, unhide HZ]
            have h2 := unhide HWK; have h3 := unhide HXL; have h5 := unhide HYL
            rw [if_neg (by rw [beq_iff_eq]; exact hz1)]
            omega
    · have hI : ¬ K < (n : Int) := by omega
      have HF : Hid (RowOut w0 (T ++ lineT (rgt S) W r) (.returned (.slice p1 n1 c1)) wo) := by
        refine ⟨_, rfl, ?_⟩
        have ek : k = r.length := by have := unhide HN; omega
        have h1 := unhide HA
        rw [ek] at h1
        exact h1
      clear HA hK hO
      go_wp2_with fail
      go_ret
      exact unhide HF
end Go.Proofs.YtcafhmlpmbkhkaaGreatDoor
