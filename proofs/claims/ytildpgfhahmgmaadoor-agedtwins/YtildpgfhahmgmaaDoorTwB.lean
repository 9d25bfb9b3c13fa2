/- AgedTwins (4): the walk. -/
import Derived.Test.YtildpgfhahmgmaaDoorAkA
import Derived.Test.YtildpgfhahmgmaaDoorTwA
namespace Go.Proofs.YtildpgfhahmgmaaDoor
open Go Go.Shelf Go.ChangeShapes Go.WideShapes Go.ChangeAt Go.RowKit Go.Maps
set_option linter.unusedVariables false
attribute [local go_sem ↓] ld53_is
/-- the account that alike asks -/
theorem acc_of (o : OpV) (ho : OpOk o) : ∃ acc : ByteArray, ((o.kind = 3 ∧ acc = o.c.acc) ∨ (o.kind ≠ 3 ∧ acc = o.acct)) ∧ acc.size ≤ maxLen := by
  by_cases h : o.kind = 3
  · exact ⟨o.c.acc, .inl ⟨h, rfl⟩, ho.a⟩
  · exact ⟨o.acct, .inr ⟨h, rfl⟩, ho.n⟩
/-- a From of what the view tells -/
structure Frm (W w w2 w' : World) (dv : Nat) (v6 : Value) (C : List Cl) (A : List Al) (g : Int) : Prop where
  b : Below w.heap.size w w2
  m : Made w2 w' C A g
set_option maxRecDepth 100000 in
set_option maxHeartbeats 16000000 in
theorem walk_AgedTwins {W : World} (hS : Stp W) {pu : Option Addr} {K cu : Nat} {L : List OpV} (hK : L.length = K) (hm : K ≤ maxLen) (hL : OpsIn W pu L) (hO : ∀ o ∈ L, OpOk o ∧ OpSl o) (t : Int) :
    Calls Tryd.prog 4 #[.slice pu K cu, .int .i64 t] W fun e w' => e = .returned (.bool true) ∧ Below W.heap.size W w' := by
  have dN := hide (new_vw (W := W) hS.lt)
  have hKb : K ≤ 9223372036854775807 := by unfold maxLen at hm; omega
  have HS := hide hS; have HL := hide hL; have HO := hide hO; have HK := hide hK
  have dM := hide num_any
  obtain ⟨dv, hdv⟩ : ∃ dv, dv = W.heap.size := ⟨_, rfl⟩
  rw [← hdv] at dN
  unfold ptr at dN
  clear hS hL hO hK hm
  go_enter Tryd.func4, Tryd.ntmps4
  go_wp2_with fail
  refine (unhide dN).mono ?_
  rintro e w1 ⟨rfl, hv1, hb1⟩
  rw [hdv] at hb1
  have HT1 : Hid (Tw W w1 dv (.pointer none) [] [] 0) := ⟨_, ⟨hb1, hv1, fun b hb => by rw [hb, hdv]; exact Nat.le_refl _⟩, Szs.nil, fun dw e => by cases e⟩
  have dF := hide (first_any ((unhide HS).below hb1))
  clear hv1 hb1 dN hdv
  go_wp2_with fail
  refine (unhide dF).mono ?_
  rintro e w2 ⟨rfl, hb2⟩
  have HT2 : Hid (Tw W w2 dv (.pointer none) [] [] 0) := (unhide HT1).below hb2
  clear hb2 HT1 dF
  go_wp2_with fail
  go_loopw [6, 7] (fun v6 v7 wr => ∃ (j : Nat), v7 = .int .i64 j ∧ j ≤ K ∧ (v6 = .pointer none ∨ ∃ dw, v6 = .pointer (some ⟨dw, 0, none⟩)) ∧ Hid (∃ C A g, Tw W wr dv v6 C A g)) (fun _ v7 _ => K - (intOf v7).toNat)
  case atStart => exact ⟨0, rfl, by omega, .inl rfl, [], [], 0, unhide HT2⟩
  case round =>
    obtain ⟨j, rfl, hj, h6, hrel⟩ := hrel
    by_cases hlt : j < K ∧ j < 300
    · obtain ⟨hlt, h3⟩ := hlt
      obtain ⟨C, A, g, hT⟩ := unhide hrel
      have HT := hide hT
      clear hrel hT
      go_upto_region 8 with fail
      go_cut [43] (fun v43 wx => ∃ bb : Bool, v43 = .bool bb ∧ Hid (wx = wr))
      case first =>
        by_cases hat : (j : Int) = t
        · have hb : ((j : Int) == t) = true := by rw [beq_iff_eq]; exact hat
          go_wp2_with fail
          go_meet
          exact ⟨true, by simp, rfl⟩
        · have hb : ((j : Int) == t) = false := by rw [beq_eq_false_iff_ne]; exact hat
          rcases h6 with rfl | ⟨dw, rfl⟩
          · go_wp2_with fail
            go_meet
            exact ⟨_, rfl, rfl⟩
          · go_wp2_with fail
            go_meet
            exact ⟨false, by simp, rfl⟩
      obtain ⟨bb, rfl, hwc⟩ := hcut
      rw [unhide hwc]
      clear hwc wc
      go_upto_if 43 with fail
      go_cut [6] (fun v6 wx => (v6 = .pointer none ∨ ∃ dw, v6 = .pointer (some ⟨dw, 0, none⟩)) ∧ Hid (Tw W wx dv v6 C A g))
      case first =>
        cases bb
        · go_wp2_with fail
          go_meet
          exact ⟨h6, unhide HT⟩
        · obtain ⟨Sv, hva, hsz, _⟩ := unhide HT
          have HVA := hide hva; have HSZ := hide hsz
          have dC := hide (claims_vw hva.vw)
          clear hva hsz
          unfold ptr ListOut at dC
          go_wp2_with fail
          refine (unhide dC).mono ?_
          rintro e x1 ⟨p1, c1, rfl, hl1, hb1⟩
          have HV1 : Hid (Va W x1 dv Sv C A g) := (unhide HVA).below hb1
          have HL1 := hide hl1; have HB1 := hide hb1
          have dC := hide (allots_vw (unhide HV1).vw)
          unfold ptr ListOut at dC
          clear hl1 hb1
          go_wp2_with fail
          refine (unhide dC).mono ?_
          rintro e x2 ⟨p2, c2, rfl, hl2, hb2⟩
          have HV2 : Hid (Va W x2 dv Sv C A g) := (unhide HV1).below hb2
          have HL2 := hide hl2; have HB2 : Hid (Below wr.heap.size wr x2) := (unhide HB1).trans (hb2.mono (unhide HB1).size)
          have HL1b : Hid (Lies kC x2 p1 C) := (unhide HL1).below hb2
          have dC := hide (asOf_vw (unhide HV2).vw)
          unfold ptr at dC
          clear hl2 hb2
          go_wp2_with fail
          refine (unhide dC).mono ?_
          rintro e x3 ⟨rfl, hw⟩
          rw [hw]
          clear hw x3
          have dC := hide (from_any (cc := c1) (ca := c2) (unhide HV2).vw.good (unhide HSZ).ck (unhide HSZ).ai ((unhide HS).below (unhide HV2).bel) rfl rfl (unhide HL1b) (unhide HL2))
          unfold ptr at dC
          go_wp2_with fail
          refine (unhide dC).mono ?_
          rintro e x3 ⟨rfl, hmd⟩
          have HT3 : Hid (Tw W x3 dv (.pointer (some ⟨x2.heap.size, 0, none⟩)) C A g) := (unhide HT).made (unhide HB2) hmd
          clear hmd
          go_wp2_with fail
          refine (unhide dM _ _).mono ?_
          rintro e x4 ⟨rfl, hw⟩
          rw [hw]
          clear hw x4
          go_wp2_with fail
          go_meet
          exact ⟨.inr ⟨_, rfl⟩, unhide HT3⟩
      clear HT h6 bb
      obtain ⟨h6, HT⟩ := hcut
      have hjl : j < L.length := by rw [unhide HK]; exact hlt
      obtain ⟨b, off, e, hbl, hr⟩ := unhide HL j hjl
      obtain ⟨o, ho⟩ : ∃ o, o = L[j] := ⟨_, rfl⟩
      rw [← ho] at hr
      obtain ⟨hok, q1, l1, e1, q2, l2, e2, evc, eva⟩ : OpOk o ∧ OpSl o := unhide HO o (by rw [ho]; exact List.getElem_mem hjl)
      have hbw : Below W.heap.size W wc := by obtain ⟨Sv, hva, _, _⟩ := unhide HT; exact hva.bel
      have hld := run_ld53 (w := wc) (b := b) (o := off + j * 15) (x := o) (fun i v hv => (hbw.cell (p := ⟨b, off + j * 15 + i, none⟩) hbl).trans (hr i v hv))
      subst e
      clear ho hr hbl hjl
      obtain ⟨X, hX⟩ : ∃ X, X = wc.alloc (.cells o.arr 53) := ⟨_, rfl⟩
      obtain ⟨bx, hbx⟩ : ∃ bx, bx = wc.heap.size := ⟨_, rfl⟩
      have hbX : Below wc.heap.size wc X := by rw [hX]; exact (Below.refl _ _).alloc (Nat.le_refl _) _
      have hXb : X.heap[bx]? = some (.cells o.arr 53 (0, 0)) := by rw [hX, hbx]; exact heap_new _ _
      have HR : Hid (∀ w' : World, w'.heap[bx]? = some (.cells o.arr 53 (0, 0)) → (ld53 (.pointer (some ⟨bx, 0, none⟩))).run Tryd.prog w' = .ok (.agg o.arr) w') := fun w' hb => run_ld53 (fun i v hv => by
        rw [Nat.zero_add, cell_at hb]
        simpa using hv)
      obtain ⟨Sv, hva, hsz, htw⟩ := unhide HT
      have hnv : ¬ Sv bx := fun h => by have := hva.vw.lt _ h; omega
      have hvX := hva.below hbX
      have hSX := (unhide HS).below hvX.bel
      have dC := hide (act_any hvX.vw hSX hok)
      have dx := unhide HR X hXb
      have HVX := hide hvX; have HSZ := hide hsz; have HOK := hide hok; have HSX := hide hSX; have HXB := hide hXb; have HNV := hide hnv; have HX := hide hX; have HBX := hide hbx
      rcases h6 with rfl | ⟨dw, rfl⟩
      · clear htw hva hsz hvX hSX hXb hbX hbw HT hnv hok hX hbx
        unfold ptr at dC
        unfold OpV.arr at dC dx HX hld
        rw [evc, eva] at dC dx HX hld
        clear evc eva
        go_upto_region 14 with fail
        rw [← unhide HX, ← unhide HBX]
        clear HX HBX
        obtain ⟨r, hr⟩ : ∃ r, r = actS C A g o := ⟨_, rfl⟩
        rw [← hr] at dC
        clear hr
        go_wp2_with fail
        refine (unhide dC).mono ?_
        rintro e x1 ⟨rfl, hn⟩
        have HT1 : Hid (Tw W x1 dv (.pointer none) (actC C o) (actA C A o) (actG g o)) := Tw.act0 (unhide HVX) (unhide HSZ) (unhide HOK) hn
        clear hn dC
        by_cases hr0 : r = 0
        · subst hr0
          go_wp2_with fail
          go_round
          case rel => exact ⟨j + 1, by push_cast; rfl, by omega, .inl rfl, _, _, _, unhide HT1⟩
          case measure => simp only [intOf]; omega
        · have hb0 : (r == 0) = false := by rw [beq_eq_false_iff_ne]; exact hr0
          go_wp2_with fail
          go_round
          case rel => exact ⟨j + 1, by push_cast; rfl, by omega, .inl rfl, _, _, _, unhide HT1⟩
          case measure => simp only [intOf]; omega
      · obtain ⟨Sw, hu, hap⟩ := htw dw rfl
        have HUX : Hid (Va W X dw Sw C A g) := hu.below hbX
        have HAP := hide hap
        have HNW : Hid (¬ Sw bx) := fun h => by have := hu.vw.lt _ h; omega
        clear htw hva hsz hvX hSX hXb hbX hbw HT hnv hok hX hbx hu hap
        unfold ptr at dC
        unfold OpV.arr at dC dx HX hld
        rw [evc, eva] at dC dx HX hld
        clear evc eva
        go_upto_region 14 with fail
        rw [← unhide HX, ← unhide HBX]
        clear HX HBX
        obtain ⟨r, hr⟩ : ∃ r, r = actS C A g o := ⟨_, rfl⟩
        rw [← hr] at dC
        clear hr
        go_cut [73] (fun v73 wx => v73 = .bool false ∧ Hid (∃ Sv1, Hlf W wx dv dw Sv1 Sw C (actC C o) A (actA C A o) g (actG g o)) ∧ Hid (wx.heap[bx]? = some (.cells o.arr 53 (0, 0))))
        case first =>
          go_wp2_with fail
          refine (unhide dC).mono ?_
          rintro e x1 ⟨rfl, hn⟩
          have HHX := hide (Hlf.of (unhide HVX) (unhide HSZ) (unhide HUX) (unhide HAP) (unhide HOK) hn)
          have HX1 : Hid (x1.heap[bx]? = some (.cells o.arr 53 (0, 0))) := hn.blk (unhide HNV) (unhide HXB)
          clear hn dC
          by_cases hr0 : r = 0
          · subst hr0
            go_wp2_with fail
            go_meet
            exact ⟨by simp, unhide HHX, HX1⟩
          · have hb0 : (r == 0) = false := by rw [beq_eq_false_iff_ne]; exact hr0
            go_wp2_with fail
            go_meet
            exact ⟨by simp, unhide HHX, HX1⟩
        obtain ⟨rfl, hHX, HX1⟩ := hcut
        obtain ⟨Sv1, hh1⟩ := unhide hHX
        have HH1 := hide hh1
        clear hHX hh1 dC
        obtain ⟨x1, hx1⟩ : ∃ x, x = wc := ⟨_, rfl⟩
        rw [← hx1] at HH1 HX1 ⊢
        clear hx1
        have dC := hide (claims_vw (unhide HH1).v.vw)
        unfold ptr ListOut at dC
        go_wp2_with fail
        refine (unhide dC).mono ?_
        rintro e y1 ⟨p1, c1, rfl, hl1, hb1⟩
        have HH2 := hide ((unhide HH1).below hb1)
        have HL1 := hide hl1; have HB1 := hide hb1
        have dC := hide (allots_vw (unhide HH2).v.vw)
        unfold ptr ListOut at dC
        clear hl1 hb1
        go_wp2_with fail
        refine (unhide dC).mono ?_
        rintro e y2 ⟨p2, c2, rfl, hl2, hb2⟩
        have HH3 := hide ((unhide HH2).below hb2)
        have HL2 := hide hl2; have HB2 : Hid (Below x1.heap.size x1 y2) := (unhide HB1).trans (hb2.mono (unhide HB1).size)
        have HL1b : Hid (Lies kC y2 p1 (actC C o)) := (unhide HL1).below hb2
        have dC := hide (asOf_vw (unhide HH3).v.vw)
        unfold ptr at dC
        clear hl2 hb2
        go_wp2_with fail
        refine (unhide dC).mono ?_
        rintro e y3 ⟨rfl, hw⟩
        rw [hw]
        clear hw y3
        have dC := hide (from_any (cc := c1) (ca := c2) (unhide HH3).v.vw.good (unhide HH3).s.ck (unhide HH3).s.ai ((unhide HS).below (unhide HH3).v.bel) rfl rfl (unhide HL1b) (unhide HL2))
        unfold ptr at dC
        go_wp2_with fail
        refine (unhide dC).mono ?_
        rintro e y3 ⟨rfl, hmd⟩
        have HH4 := hide ((unhide HH3).below hmd.bel)
        have HMD := hide hmd
        have HX3 : Hid (y3.heap[bx]? = some (.cells o.arr 53 (0, 0))) := blk_below hmd.bel (blk_below (unhide HB2) (unhide HX1))
        have dx3 := unhide HR y3 (unhide HX3)
        clear hmd
        go_wp2_with fail
        refine (unhide dM _ _).mono ?_
        rintro e y4 ⟨rfl, hw⟩
        rw [hw]
        clear hw y4
        have dC := hide (act_any (unhide HH4).u.vw ((unhide HS).below (unhide HH4).u.bel) (unhide HOK))
        unfold ptr at dC
        unfold OpV.arr at dC dx3
        go_wp2_with fail
        refine (unhide dC).mono ?_
        rintro e y4 ⟨rfl, hn⟩
        obtain ⟨Sw1, Sx, ht4⟩ := Thr.of (unhide HH1) (unhide HB2) (unhide HMD) hn
        have HT4 := hide ht4
        have HX4 : Hid (y4.heap[bx]? = some (.cells o.arr 53 (0, 0))) := hn.blk (unhide HNW) (unhide HX3)
        have dx4 := unhide HR y4 (unhide HX4)
        obtain ⟨acc, hk, ha⟩ := acc_of o (unhide HOK)
        have HKA := hide hk; have HAA := hide ha
        have dC := hide (alike_at ht4.v.vw ht4.u.vw ((unhide HS).below ht4.v.bel) (unhide HOK) hk ha)
        unfold ptr at dC
        unfold OpV.arr at dC dx4
        clear hn hk ha ht4 dx3
        go_wp2_with fail
        refine (unhide dC).mono ?_
        rintro e y5 ⟨rfl, hb5⟩
        have HT5 := hide ((unhide HT4).below hb5)
        have HX5 : Hid (y5.heap[bx]? = some (.cells o.arr 53 (0, 0))) := blk_below hb5 (unhide HX4)
        have dx5 := unhide HR y5 (unhide HX5)
        have dC := hide (alike_at (unhide HT5).v.vw (unhide HT5).x.vw ((unhide HS).below (unhide HT5).v.bel) (unhide HOK) (unhide HKA) (unhide HAA))
        unfold ptr at dC
        unfold OpV.arr at dC dx5
        clear hb5 dx4
        go_wp2_with fail
        refine (unhide dC).mono ?_
        rintro e y6 ⟨rfl, hb6⟩
        have HT6 : Hid (Tw W y6 dv (.pointer (some ⟨dw, 0, none⟩)) (actC C o) (actA C A o) (actG g o)) := ((unhide HT5).below hb6).tw
        clear hb6
        go_wp2_with fail
        go_round
        case rel => exact ⟨j + 1, by push_cast; rfl, by omega, .inr ⟨_, rfl⟩, _, _, _, unhide HT6⟩
        case measure => simp only [intOf]; omega
    · have h9 : ¬ ((j : Int) < K ∧ (j : Int) < 300) := by omega
      have hb := hide (unhide hrel)
      by_cases hq : j < K
      · have h3 : ¬ (j < 300) := by omega
        go_wp2_with fail
        go_ret
        obtain ⟨C, A, g, Sv, hva, _, _⟩ := unhide hb
        exact ⟨rfl, hva.bel⟩
      · go_wp2_with fail
        go_ret
        obtain ⟨C, A, g, Sv, hva, _, _⟩ := unhide hb
        exact ⟨rfl, hva.bel⟩
end Go.Proofs.YtildpgfhahmgmaaDoor
