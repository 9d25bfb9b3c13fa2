/- DailyOrder (5): its walk. -/
import Derived.Test.YtenoaechonpjgaaDoorOrB
import Derived.Deep.DeepCutAuto
import Derived.Deep.RegionHeld3
namespace Go.Proofs.YtenoaechonpjgaaDoor
open Go Go.Shelf Go.ChangeShapes Go.WideShapes Go.ChangeAt Go.RowKit Go.Maps Go.Sort
set_option linter.unusedVariables false
attribute [local go_sem ↓] ld24_is
/-- a slice's length -/
def slLen : Value → Nat
  | .slice _ n _ => n
  | _ => 0
theorem stt_nil {L : List Dr} (h : Stt [] L) : L = [] := List.length_eq_zero_iff.1 (by have := h.len; simpa using this)
set_option maxRecDepth 100000 in
set_option maxHeartbeats 8000000 in
theorem order_walk (R0 : List Ro) (h0 : Can R0) (hl0 : R0.length ≤ 1048576) (pu pP pC : Option Addr) (cu nP cP nC cC : Nat) (zP zC : Nat → Int) (w : World) (hcu : pu = none → cu = 0) (hI0 : Lies kR w pu R0) (hnP : nP ≤ 1048576) (hnC : nC ≤ 1048576) (hP : IntsIn w pP nP zP) (hC : IntsIn w pC nC zC) :
    Calls Tryd.prog 5 #[.agg #[.slice pu R0.length cu, .slice pP nP cP, .slice pC nC cC]] w fun e w' => e = .returned (.bool true) ∧ Below w.heap.size w w' := by
  have H0 := hide h0; have HI0 := hide hI0; have HCU := hide hcu; have HP := hide hP; have HC := hide hC
  obtain ⟨N0, hN0⟩ : ∃ N, N = R0.length := ⟨_, rfl⟩
  rw [← hN0] at hl0 ⊢
  have HN0 := hide hN0
  clear hcu hI0 hN0 h0 hP hC
  obtain ⟨W, hW⟩ : ∃ W, W = w.alloc (.cells #[.slice pu N0 cu, .slice pP nP cP, .slice pC nC cC] 38) := ⟨_, rfl⟩
  have HBW : Hid (Below w.heap.size w W) := by rw [hW]; exact bal (Below.refl _ _) _
  have dF := hide (first_any W)
  have HC0 : Hid (W.cell? ⟨w.heap.size, 0, none⟩ = some (.slice pu N0 cu) ∧ W.cell? ⟨w.heap.size, 1, none⟩ = some (.slice pP nP cP) ∧ W.cell? ⟨w.heap.size, 2, none⟩ = some (.slice pC nC cC)) := by
    rw [hW]
    exact ⟨by rw [World.cell?_alloc_mark]; rfl, by rw [World.cell?_alloc_mark]; rfl, by rw [World.cell?_alloc_mark]; rfl⟩
  have HWs : Hid (w.heap.size < W.heap.size) := by rw [hW]; show _ < _; simp
  subst hW
  go_enter Tryd.func5, Tryd.ntmps5
  go_wp2_with fail
  refine (unhide dF).mono ?_
  rintro e w1 ⟨rfl, hb1⟩
  have hB1 : Below w.heap.size w w1 := (unhide HBW).trans (hb1.mono (by simp))
  have hz1 : w.heap.size < w1.heap.size := Nat.lt_of_lt_of_le (unhide HWs) hb1.size
  have hbx1 : ∀ j, j < 3 → w1.cell? ⟨w.heap.size, j, none⟩ = (w.alloc (.cells #[.slice pu N0 cu, .slice pP nP cP, .slice pC nC cC] 38)).cell? ⟨w.heap.size, j, none⟩ := fun j _ => hb1.cell (p := ⟨w.heap.size, j, none⟩) (unhide HWs)
  have hc0 := (hbx1 0 (by omega)).trans (unhide HC0).1
  have hc1 := (hbx1 1 (by omega)).trans (unhide HC0).2.1
  have hc2 := (hbx1 2 (by omega)).trans (unhide HC0).2.2
  obtain ⟨O2, hO2⟩ : ∃ O, O = Obj.cells #[.map none] 48 := ⟨_, rfl⟩
  have dN := hide (new_any w1)
  rw [← hO2] at dN
  have hV2 : Vw (w1.alloc O2) (w1.heap.size + 1) w1.heap.size [] := by rw [hO2]; exact Vw.made w1
  have hk2 : ∀ j v, w1.cell? ⟨w.heap.size, j, none⟩ = some v → (w1.alloc O2).cell? ⟨w.heap.size, j, none⟩ = some v := fun j v h => (World.cell?_alloc_lt w1 O2 ⟨w.heap.size, j, none⟩ hz1).trans h
  have hd0 := hk2 0 _ hc0
  have hd1 := hk2 1 _ hc1
  have hd2 := hk2 2 _ hc2
  have hB2 : Below w.heap.size w (w1.alloc O2) := hB1.alloc (by omega) O2
  have hs2 : (w1.alloc O2).heap.size = w1.heap.size + 1 := by simp
  obtain ⟨w2, hw2⟩ : ∃ w2, w2 = w1.alloc O2 := ⟨_, rfl⟩
  rw [← hw2] at hV2 hd0 hd1 hd2 hB2 hs2 dN
  obtain ⟨p3, c3, w3, hap, hR3, hb3⟩ := run_copy (W := w2) 22 pu cu R0 (unhide HCU) ((unhide HI0).below hB2) (by have := unhide HN0; omega)
  rw [← unhide HN0] at hap
  have hV3 := hV2.below hb3
  have hL3 := own_lies kR_ok rfl hR3
  have dA := hide (apply_vw (cR := c3) hV3 (by simp) (unhide HN0).symm (by omega) hL3 (unhide H0))
  have HAP := hide hap; have HB2 := hide hB2; have HB3 := hide hb3; have HV3 := hide hV3; have HZ1 := hide hz1; have HS2 := hide hs2; have HD := hide (And.intro hd0 (And.intro hd1 hd2))
  clear hap hB2 hb3 hV3 hV2 hz1 hs2 hR3 hL3 hb1 hc0 hc1 hc2 hd1 hd2 hw2 hbx1 hk2 dF HC0 hB1
  go_wp2_with fail
  refine (unhide dN).mono ?_
  rintro e wx ⟨rfl, hw⟩
  rw [hw]
  clear hw wx dN
  go_wp2_with (at_builtin; refine wpList_append_runG rfl _ _ 22 rfl _ _ _ _ rfl rfl (unhide HAP) ?_)
  refine (unhide dA).mono ?_
  rintro e w4 hO
  rcases hO with ⟨hno, ⟨x, rfl, hx⟩, hb4⟩ | ⟨hok0, rfl, hV4, hfr4⟩
  · have hV4 := (unhide HV3).below hb4
    have hB4 : Below w.heap.size w w4 := (unhide HB2).trans (((unhide HB3).trans (hb4.mono (unhide HB3).size)).mono (by have := unhide HS2; have := unhide HZ1; omega))
    have dS := hide (state_vw hV4 (by simp))
    have HB4 := hide hB4
    have hxb : (x != 0) = true := by rcases hx with rfl | rfl <;> rfl
    have hxb2 : (x == 0) = false := by rcases hx with rfl | rfl <;> rfl
    clear hb4 hno hx hV4 hB4 dA
    go_wp2_with fail
    refine (unhide dS).mono ?_
    rintro e w5 ⟨L5, p5, c5, hst5, rfl, hrow5, hb5⟩
    have e5 := stt_nil hst5
    subst e5
    have HB5 := hide ((unhide HB4).trans (hb5.mono (unhide HB4).size))
    have eln : ([] : List Dr).length = 0 := rfl
    rw [eln]
    clear hst5 hrow5 hb5 dS eln
    go_wp2_with fail
    go_ret
    exact ⟨rfl, unhide HB5⟩
  rw [List.nil_append] at hV4
  have hB3 : Below w.heap.size w w3 := (unhide HB2).trans ((unhide HB3).mono (by have := unhide HS2; have := unhide HZ1; omega))
  have hz3 : w1.heap.size + 1 ≤ w3.heap.size := by have := unhide HS2; have := (unhide HB3).size; omega
  have hB34 : Below w1.heap.size w3 w4 := hfr4.below hz3 (by omega)
  have hB4 : Below w.heap.size w w4 := hB3.trans (hB34.mono (by have := unhide HZ1; omega))
  have hbx4 : ∀ j v, w2.cell? ⟨w.heap.size, j, none⟩ = some v → w4.cell? ⟨w.heap.size, j, none⟩ = some v := fun j v h => by
    have h1 := unhide HZ1
    have h2 := unhide HS2
    refine (hB34.cell (p := ⟨w.heap.size, j, none⟩) h1).trans ?_
    exact ((unhide HB3).cell (p := ⟨w.heap.size, j, none⟩) (show w.heap.size < w2.heap.size by omega)).trans h
  have e0 := hbx4 0 _ (unhide HD).1
  have e1 := hbx4 1 _ (unhide HD).2.1
  have e2 := hbx4 2 _ (unhide HD).2.2
  have hd4 : w1.heap.size < w4.heap.size := Nat.lt_of_lt_of_le hz3 hfr4.size
  obtain ⟨p5, c5, w5, hap5, hrow5, hb5⟩ := run_copy (W := w4) 22 pu cu R0 (unhide HCU) ((unhide HI0).below hB4) (by have := unhide HN0; omega)
  rw [← unhide HN0] at hap5
  have dN2 := hide (new_any w5)
  rw [← hO2] at dN2
  have hV6 : Vw (w5.alloc O2) (w5.heap.size + 1) w5.heap.size [] := by rw [hO2]; exact Vw.made w5
  have h45 := hb5.size
  have hoi : OI w4 w5.heap.size R0 (.slice p5 R0.length c5) R0 [] (w5.alloc O2) := ⟨hrow5.alloc O2, List.Perm.refl _, hV6, hb5.alloc h45 O2⟩
  rw [← unhide HN0] at hoi
  have HAP5 := hide hap5; have HOI := hide hoi; have HV4 := hide hV4; have HB4 := hide hB4; have H45 := hide h45; have HE := hide (And.intro e1 e2); have HD4 := hide hd4
  have e0' : w4.cell? ⟨w.heap.size, 0, none⟩ = some (.slice pu N0 cu) := e0
  clear hap5 hoi hV4 hB4 h45 e1 e2 hd4 hV6 hb5 hrow5 hbx4 hB34 hB3 hz3 hfr4 hok0 dA HAP HB2 HB3 HV3 HD e0 hd0
  subst hO2
  go_wp2_with (at_builtin; refine wpList_append_run rfl _ _ 22 rfl _ _ _ _ rfl rfl (unhide HAP5) ?_)
  refine (unhide dN2).mono ?_
  rintro e wx ⟨rfl, hw⟩
  rw [hw]
  clear hw wx dN2
  go_wp2_with fail
  have hi4 : Hid (w.heap.size < w4.heap.size) := by show _ < _; have := unhide HZ1; have := unhide HD4; omega
  go_loopw [5, 7] (fun v5 v7 wr => ∃ (i n : Nat) (p : Option Addr) (c : Nat), v7 = .int .i64 i ∧ v5 = .slice p n c ∧ i + n ≤ N0 ∧ Hid (∃ (Lf Td : List Ro), Lf.length = n ∧ OI w4 w5.heap.size R0 v5 Lf Td wr)) (fun v5 _ _ => slLen v5)
  case atStart => exact ⟨0, N0, _, _, rfl, rfl, by omega, R0, [], (unhide HN0).symm, unhide HOI⟩
  case round =>
    obtain ⟨i, n, p, c, rfl, rfl, hin, hrel⟩ := hrel
    obtain ⟨Lf, Td, hLf, hOI⟩ := unhide hrel
    clear hrel
    have hbr : Below w.heap.size w wr := (unhide HB4).trans (hOI.bel.mono (Nat.le_of_lt (unhide hi4)))
    have b1 : wr.cell? ⟨w.heap.size, 1, none⟩ = some (.slice pP nP cP) := (hOI.bel.cell (p := ⟨w.heap.size, 1, none⟩) (unhide hi4)).trans (unhide HE).1
    have b2 : wr.cell? ⟨w.heap.size, 2, none⟩ = some (.slice pC nC cC) := (hOI.bel.cell (p := ⟨w.heap.size, 2, none⟩) (unhide hi4)).trans (unhide HE).2
    have HLF := hide hLf; have HO := hide hOI; have HBR := hide hbr
    by_cases hn : n = 0
    · subst hn
      have e0 : Lf = [] := List.length_eq_zero_iff.1 hLf
      subst e0
      have hpm : Td.Perm R0 := by simpa using hOI.pm
      have hown : ∀ q d, own (tol Td q) d = own (tol R0 q) d := fun q d => own_perm ((hpm.filter _).map _) d
      have hVs : Vw wr (w1.heap.size + 1) w1.heap.size R0 := (unhide HV4).below hOI.bel
      have hVt := hOI.vt
      have hTl : Td.length = R0.length := hpm.length_eq
      have hns : R0.length ≤ 137438953472 := by rw [← unhide HN0]; omega
      have hnt : Td.length ≤ 137438953472 := by omega
      have dS := hide (state_vw hVs hns)
      have HVS := hide hVs; have HVT := hide hVt; have HOW := hide hown; have HNS := hide hns; have HNT := hide hnt
      clear hVs hVt hown hpm hOI hbr hTl hns hnt HO HLF hLf b1 b2
      go_wp2_with fail
      refine (unhide dS).mono ?_
      rintro e wa ⟨L, pa, ca, hst, rfl, hrowa, hba⟩
      have hlL : L.length ≤ 1048576 := by have := hst.len; have := unhide HN0; omega
      have dFr := hide (from_any (c := ca) hst (unhide HVS).can (unhide HVS).ok (unhide HVS).fit rfl hlL (own_lies kD_ok rfl hrowa))
      have HBA := hide hba; have HST := hide hst; have HLL := hide hlL
      clear hba hrowa hst hlL dS
      go_wp2_with fail
      refine (unhide dFr).mono ?_
      rintro e wb ⟨du, rfl, hdu, hVu, hbb⟩
      have hB1 : Below wr.heap.size wr wb := (unhide HBA).trans (hbb.mono (unhide HBA).size)
      have hVs2 := (unhide HVS).below hB1
      have hVt2 := (unhide HVT).below hB1
      have hBb : Below w.heap.size w wb := (unhide HBR).trans (hB1.mono (unhide HBR).size)
      have dS2 := hide (state_vw hVs2 (unhide HNS))
      have HVS2 := hide hVs2; have HVT2 := hide hVt2; have HBB := hide hBb; have HVU := hide hVu
      clear hVs2 hVt2 hBb hVu hB1 hbb hdu dFr
      go_wp2_with fail
      refine (unhide dS2).mono ?_
      rintro e x1 ⟨L1, q1, k1, hst1, rfl, hrow1, hbx1⟩
      have hVt3 := (unhide HVT2).below hbx1
      have dS3 := hide (state_vw hVt3 (unhide HNT))
      have HX1 := hide hbx1; have HROW1 := hide hrow1; have HST1 := hide hst1
      clear hVt3 hbx1 hrow1 hst1 dS2
      go_wp2_with fail
      refine (unhide dS3).mono ?_
      rintro e x2 ⟨L2, q2, k2, hst2, rfl, hrow2, hbx2⟩
      have hr1 := row_keep (unhide HROW1) (W' := x2) (fun g hg => hbx2.block g (row_block (unhide HROW1) hg).2.1)
      have eL : L2 = L1 := hst2.same (unhide HST1) (unhide HOW)
      subst eL
      have dE := hide (same_any (c1 := k1) (c2 := k2) rfl (by have := (unhide HST1).len; have := unhide HN0; omega) (own_lies kD_ok rfl hr1) (own_lies kD_ok rfl hrow2))
      have hX2 : Below wb.heap.size wb x2 := (unhide HX1).trans (hbx2.mono (unhide HX1).size)
      have HX2 := hide hX2
      clear hr1 hrow2 hst2 hbx2 hX2 dS3 HROW1 HX1
      go_wp2_with fail
      refine (unhide dE).mono ?_
      rintro e x3 ⟨rfl, m3, hw3⟩
      have hX3 : Below wb.heap.size wb x3 := by rw [hw3]; exact below_drewN (unhide HX2) m3
      have hVs4 := (unhide HVS2).below hX3
      have dS4 := hide (state_vw hVs4 (unhide HNS))
      have HX3 := hide hX3
      clear hw3 hX3 hVs4 dE HX2
      go_wp2_with fail
      refine (unhide dS4).mono ?_
      rintro e x4 ⟨L4, q4, k4, hst4, rfl, hrow4, hbx4⟩
      have hX4 : Below wb.heap.size wb x4 := (unhide HX3).trans (hbx4.mono (unhide HX3).size)
      have hVu5 := (unhide HVU).below hX4
      have dS5 := hide (state_vw hVu5 (by rw [List.length_map]; have := unhide HLL; omega))
      have HX4 := hide hX4; have HROW4 := hide hrow4; have HST4 := hide hst4
      clear hX4 hVu5 hrow4 hst4 hbx4 dS4 HX3
      go_wp2_with fail
      refine (unhide dS5).mono ?_
      rintro e x5 ⟨L5, q5, k5, hst5, rfl, hrow5, hbx5⟩
      have hr4 := row_keep (unhide HROW4) (W' := x5) (fun g hg => hbx5.block g (row_block (unhide HROW4) hg).2.1)
      have eL : L5 = L4 := hst5.same (unhide HST4) (fun k d => stt_own (unhide HST) k d)
      subst eL
      have dE := hide (same_any (c1 := k4) (c2 := k5) rfl (by have := (unhide HST4).len; have := unhide HN0; omega) (own_lies kD_ok rfl hr4) (own_lies kD_ok rfl hrow5))
      have hX5 : Below wb.heap.size wb x5 := (unhide HX4).trans (hbx5.mono (unhide HX4).size)
      have HB5 := hide ((unhide HBB).trans (hX5.mono (unhide HBB).size))
      clear hr4 hrow5 hst5 hbx5 hX5 dS5 HROW4 HX4
      go_wp2_with fail
      refine (unhide dE).mono ?_
      rintro e x6 ⟨rfl, m6, hw6⟩
      have HB6 : Hid (Below w.heap.size w x6) := by rw [hw6]; exact below_drewN (unhide HB5) m6
      clear hw6
      go_wp2_with fail
      go_ret
      exact ⟨rfl, unhide HB6⟩
    have hn1 : 0 < n := by omega
    have hcr := (unhide HC).below hbr
    have HCR := hide hcr
    clear hLf hOI hbr hcr
    go_upto_region 11 with fail
    go_cut [56] (fun v56 wx => ∃ bb : Bool, v56 = .bool bb ∧ Hid (wx = wr) ∧ Hid (bb = true → i < nC ∧ zC i > 1))
    case first =>
      by_cases hi : i < nC
      · obtain ⟨bC, oC, hpC, hltC, hcC, hzC⟩ := unhide HCR i hi
        obtain ⟨Z, hZ⟩ : ∃ Z, zC i = Z := ⟨_, rfl⟩
        rw [hZ] at hcC hzC
        subst hpC
        by_cases hz : Z > 1
        · go_wp2_with fail
          go_meet
          exact ⟨true, by simp, rfl, fun _ => ⟨hi, by omega⟩⟩
        · go_wp2_with fail
          go_meet
          exact ⟨false, by simp, rfl, fun h => by cases h⟩
      · go_wp2_with fail
        go_meet
        exact ⟨false, by simp, rfl, fun h => by cases h⟩
    obtain ⟨bb, rfl, hwc, hbb⟩ := hcut
    rw [unhide hwc]
    clear hwc wc
    go_upto_if 56 with fail
    go_cut [8] (fun v8 wx => ∃ M : Int, v8 = .int .i64 M ∧ Hid (wx = wr ∧ 1 ≤ M ∧ M ≤ 9223372036854775807))
    case first =>
      cases bb
      · go_wp2_with fail
        go_meet
        exact ⟨1, rfl, rfl, by omega, by omega⟩
      · obtain ⟨hi, hz⟩ := unhide hbb rfl
        obtain ⟨bC, oC, hpC, hltC, hcC, hzC⟩ := unhide HCR i hi
        obtain ⟨Z, hZ⟩ : ∃ Z, zC i = Z := ⟨_, rfl⟩
        rw [hZ] at hcC hzC hz
        subst hpC
        go_wp2_with fail
        go_meet
        exact ⟨Z, rfl, rfl, by omega, by omega⟩
    clear hbb bb
    obtain ⟨M, rfl, hM⟩ := hcut
    obtain ⟨hwc, hM1, hM2⟩ := unhide hM
    rw [hwc]
    clear hwc hM wc
    go_wp2_with fail
    obtain ⟨wo, hwo⟩ : ∃ wo, wo = wr := ⟨_, rfl⟩
    subst hwo
    go_loopw [5, 9, 10] (fun v5 v9 v10 wi => ∃ (k m : Nat) (p2 p3 : Option Addr) (c2 c3 : Nat), v10 = .int .i64 k ∧ v5 = .slice p2 m c2 ∧ v9 = .slice p3 k c3 ∧ k + m = n ∧ (k : Int) ≤ M ∧ Hid (∃ Lf2 Pc : List Ro, Lf2.length = m ∧ Pc.length = k ∧ II w4 w5.heap.size R0 Td v5 v9 Lf2 Pc wi)) (fun v5 _ _ _ => slLen v5)
    case atStart =>
      exact ⟨0, n, _, _, _, _, rfl, rfl, rfl, by omega, by omega, Lf, [], unhide HLF, rfl, ⟨(unhide HO).row, World.ownsRow_nil _ _ _ _, by simpa using (unhide HO).pm, (unhide HO).vt, (unhide HO).bel, fun g _ h => by cases h⟩⟩
    case round =>
      obtain ⟨k, m, p2, p3, c2, c3, rfl, rfl, rfl, hkm, hkM, hrel⟩ := hrel
      by_cases hgo : (k : Int) < M ∧ 0 < m
      · obtain ⟨hg1, hg2⟩ := hgo
        obtain ⟨Lf2, Pc, hL2, hPc, hII⟩ := unhide hrel
        obtain ⟨g, hp2, hmc⟩ : ∃ g, p2 = some ⟨g, 0, none⟩ ∧ m ≤ c2 := by
          have h := hII.row.2
          rw [hL2] at h
          rcases h with ⟨e, h2⟩ | ⟨g, cap, cur, e, hB, hh, hc, hm', hcs, ht⟩
          · omega
          · injection e with e1 e2 e3
            exact ⟨g, e1, by omega⟩
        subst hp2
        have bi1 : wr.cell? ⟨w.heap.size, 1, none⟩ = some (.slice pP nP cP) := (hII.bel.cell (p := ⟨w.heap.size, 1, none⟩) (unhide hi4)).trans (unhide HE).1
        have hbi : Below w.heap.size w wr := (unhide HB4).trans (hII.bel.mono (Nat.le_of_lt (unhide hi4)))
        have HPI := hide ((unhide HP).below hbi)
        have HII := hide hII; have HL2 := hide hL2; have HPC := hide hPc
        clear hII hL2 hPc hbi hrel
        go_upto_region 18 with fail
        go_cut [88] (fun v88 wx => ∃ bb : Bool, v88 = .bool bb ∧ Hid (wx = wr) ∧ Hid (bb = true → i + k < nP ∧ zP (i + k) ≥ 0))
        case first =>
          by_cases hik : i + k < nP
          · obtain ⟨bP, oP, hpP, hltP, hcP, hzP⟩ := unhide HPI (i + k) hik
            obtain ⟨Z, hZ⟩ : ∃ Z, zP (i + k) = Z := ⟨_, rfl⟩
            rw [hZ] at hcP hzP
            subst hpP
            by_cases hz : Z ≥ 0
            · go_wp2_with fail
              go_meet
              exact ⟨true, by simp, rfl, fun _ => ⟨hik, by omega⟩⟩
            · go_wp2_with fail
              go_meet
              exact ⟨false, by simp, rfl, fun h => by cases h⟩
          · go_wp2_with fail
            go_meet
            exact ⟨false, by simp, rfl, fun h => by cases h⟩
        obtain ⟨bb, rfl, hwc, hbb⟩ := hcut
        rw [unhide hwc]
        clear hwc wc
        go_upto_if 88 with fail
        go_cut [11] (fun v11 wx => ∃ a : Nat, v11 = .int .i64 a ∧ a < m ∧ Hid (wx = wr))
        case first =>
          cases bb
          · go_wp2_with fail
            go_meet
            exact ⟨0, rfl, by omega, rfl⟩
          · obtain ⟨hik, hz⟩ := unhide hbb rfl
            obtain ⟨bP, oP, hpP, hltP, hcP, hzP⟩ := unhide HPI (i + k) hik
            obtain ⟨Z, hZ⟩ : ∃ Z, zP (i + k) = Z := ⟨_, rfl⟩
            rw [hZ] at hcP hzP hz
            subst hpP
            go_wp2_with fail
            go_meet
            have hz1 := Int.emod_nonneg Z (show (m : Int) ≠ 0 by omega)
            have hz2 := Int.emod_lt_of_pos Z (show (0 : Int) < m by omega)
            exact ⟨(Z % (m : Int)).toNat, by rw [Int.toNat_of_nonneg hz1], by omega, rfl⟩
        clear hbb bb
        obtain ⟨a, rfl, ha, hwc⟩ := hcut
        rw [unhide hwc]
        clear hwc wc
        obtain ⟨r, p1, c1, y1, p4, c4, y3, hra, hr1, hr3, hfin⟩ := draw_round (unhide HII) (unhide HL2) (unhide HPC) ha (by omega)
        unfold oneR at hr1
        have hld := run_ld24 hra
        have HR1 := hide hr1; have HR3 := hide hr3; have HFIN := hide hfin
        clear hr1 hr3 hfin hra
        go_wp2_with (at_builtin; refine wpList_append_run rfl _ _ 22 rfl _ _ _ _ rfl rfl (unhide HR1) ?_)
        clear hld
        have hac : a + 1 ≤ c2 := by omega
        have ham : a + 1 ≤ m := by omega
        have hacl : a ≤ c2 := by omega
        have hwa : IntKind.i64.wrap ((a : Int) + 1) = ((a + 1 : Nat) : Int) := by rw [IntKind.wrap_i64]; omega
        have hwb : (0 : Int) ≤ (a : Int) + 1 := by omega
        have hwd : (a : Int) + 1 ≤ (m : Int) := by omega
        go_region_held3 (fun W => True) (trivial) ((refine step_append_run _ rfl _ _ _ rfl _ _ _ _ rfl rfl (unhide HR3) ?_))
        all_goals go_wp2_with fail
        all_goals go_round
        all_goals first
          | exact ⟨k + 1, m - 1, _, _, _, _, by simp, rfl, rfl, by omega, by omega, unhide HFIN⟩
          | (simp [slLen]; omega)
      · obtain ⟨Lf2, Pc, hL2, hPc, hII⟩ := unhide hrel
        have hpc := hII.pc
        rw [hPc] at hpc
        have hRq := own_lies kR_ok hPc hpc
        have hmem : ∀ r ∈ Pc, r ∈ R0 := fun r hr => (hII.pm.mem_iff).1 (List.mem_append_right _ (List.mem_append_left _ hr))
        have hTdl : Td.length ≤ 1048576 := by
          have h1 := hII.pm.length_eq
          have h2 := unhide HN0
          rw [List.length_append] at h1
          omega
        have dA := hide (apply_vw (cR := c3) hII.vt (by omega) hPc (by omega) hRq ((unhide H0).sub hmem))
        have hup : Hid (∀ wy, Vw wy (w5.heap.size + 1) w5.heap.size (Td ++ Pc) → Fr wr wy (w5.heap.size + 1) w5.heap.size → OI w4 w5.heap.size R0 (.slice p2 m c2) Lf2 (Td ++ Pc) wy) := fun wy hV hfr => by
          refine ⟨hfr.rowV hII.vt hII.row (by decide) (by decide), by rw [List.append_assoc]; exact hII.pm, hV, ?_⟩
          exact hII.bel.trans ((hfr.below hII.vt.le (by omega)).mono (unhide H45))
        have HBW : Hid (∀ wy, Below wr.heap.size wr wy → Below w.heap.size w wy) := fun wy h => by
          have h1 := unhide hi4
          have h2 := hII.bel.size
          exact (unhide HB4).trans ((hII.bel.mono (by omega)).trans (h.mono (by omega)))
        have hsp : Hid (¬ (k : Int) < M ∨ ((k : Int) < M ∧ ¬ 0 < m)) := by
          by_cases h : (k : Int) < M
          · exact .inr ⟨h, fun h2 => hgo ⟨h, h2⟩⟩
          · exact .inl h
        have HL2 := hide hL2; have HPC := hide hPc
        clear hgo hII hpc hRq hmem hTdl hPc hL2 hrel
        have hsm : m < n := by
          rcases unhide hsp with h | h <;> omega
        rcases unhide hsp with hs1 | ⟨hs1, hs2⟩
        all_goals
          go_wp2_with fail
          refine (unhide dA).mono ?_
          rintro e wy hO
          rcases hO with ⟨hno, ⟨x, rfl, hx⟩, hby⟩ | ⟨hok, rfl, hV3, hfr3⟩
          · have HBY := hide (unhide HBW wy hby)
            have hxb : (x != 0) = true := by rcases hx with rfl | rfl <;> rfl
            have hxb2 : (x == 0) = false := by rcases hx with rfl | rfl <;> rfl
            clear hno hby hx
            go_wp2_with fail
            go_ret
            exact ⟨rfl, unhide HBY⟩
          · have HOI3 := hide (unhide hup wy hV3 hfr3)
            clear hok hV3 hfr3
            go_wp2_with fail
            refine ⟨⟨i + 1, m, _, _, by simp, rfl, by omega, Lf2, Td ++ Pc, unhide HL2, unhide HOI3⟩, by simp [slLen]; omega⟩
end Go.Proofs.YtenoaechonpjgaaDoor
