/- SumsOrder (4): its walk. -/
import Derived.Test.YtgohddimnphbkaaDoorOrB
namespace Go.Proofs.YtgohddimnphbkaaDoor
open Go Go.RowKit Go.Shelf Go.ChangeShapes Go.WideShapes Go.ChangeAt Go.Maps Go.Sort
set_option linter.unusedVariables false
attribute [local go_sem ↓] ld35_is
/-- a slice's length -/
def slLen : Value → Nat
  | .slice _ n _ => n
  | _ => 0
theorem len0 {W : World} {B : Nat} {v : Value} {hs : List (List UInt8)} (h : Bal W B [] v hs) : ∃ p c, v = .slice p 0 c := by
  have e : hs = [] := List.eq_nil_iff_forall_not_mem.2 fun k hk => by
    obtain ⟨x, hx, _⟩ := (h.mem k).1 hk
    exact hx rfl
  subst e
  rcases h.row.2 with ⟨e, h2⟩ | ⟨g, cap, cur, e, _⟩
  · exact ⟨none, 0, e⟩
  · exact ⟨_, _, e⟩
set_option maxRecDepth 100000 in
set_option maxHeartbeats 8000000 in
theorem order_walk (R0 : List Ro) (h0 : Can R0) (pu pP pC : Option Addr) (cu nP cP nC cC : Nat) (zP zC : Nat → Int) (w : World) (hcu : pu = none → cu = 0) (hI0 : RowsIn w pu R0) (hnP : nP ≤ 1048576) (hnC : nC ≤ 1048576) (hP : IntsIn w pP nP zP) (hC : IntsIn w pC nC zC) :
    Calls Tryd.prog 4 #[.agg #[.slice pu R0.length cu, .slice pP nP cP, .slice pC nC cC]] w fun e w' => e = .returned (.bool true) ∧ Below w.heap.size w w' := by
  have H0 := hide h0; have HI0 := hide hI0; have HCU := hide hcu; have HP := hide hP; have HC := hide hC
  obtain ⟨N0, hN0⟩ : ∃ N, N = R0.length := ⟨_, rfl⟩
  rw [← hN0]
  have HN0 := hide hN0
  have hN0b : N0 ≤ 1048576 := by rw [hN0]; exact h0.len
  clear hcu hI0 hN0 h0 hP hC
  obtain ⟨W, hW⟩ : ∃ W, W = w.alloc (.cells #[.slice pu N0 cu, .slice pP nP cP, .slice pC nC cC] 25) := ⟨_, rfl⟩
  have HBW : Hid (Below w.heap.size w W) := by rw [hW]; exact bal (Below.refl _ _) _
  have dF := hide (first_any W)
  have HC0 : Hid (W.cell? ⟨w.heap.size, 0, none⟩ = some (.slice pu N0 cu) ∧ W.cell? ⟨w.heap.size, 1, none⟩ = some (.slice pP nP cP) ∧ W.cell? ⟨w.heap.size, 2, none⟩ = some (.slice pC nC cC)) := by
    rw [hW]
    exact ⟨by rw [World.cell?_alloc_mark]; rfl, by rw [World.cell?_alloc_mark]; rfl, by rw [World.cell?_alloc_mark]; rfl⟩
  have HWs : Hid (w.heap.size < W.heap.size) := by rw [hW]; show _ < _; simp
  subst hW
  go_enter Tryd.func4, Tryd.ntmps4
  go_wp2_with fail
  refine (unhide dF).mono ?_
  rintro e w1 ⟨rfl, hb1⟩
  have hB1 : Below w.heap.size w w1 := (unhide HBW).trans (hb1.mono (by simp))
  have hz1 : w.heap.size < w1.heap.size := Nat.lt_of_lt_of_le (unhide HWs) hb1.size
  have hbx1 : ∀ j, j < 3 → w1.cell? ⟨w.heap.size, j, none⟩ = (w.alloc (.cells #[.slice pu N0 cu, .slice pP nP cP, .slice pC nC cC] 25)).cell? ⟨w.heap.size, j, none⟩ := fun j _ => hb1.cell (p := ⟨w.heap.size, j, none⟩) (unhide HWs)
  have hc0 := (hbx1 0 (by omega)).trans (unhide HC0).1
  have hc1 := (hbx1 1 (by omega)).trans (unhide HC0).2.1
  have hc2 := (hbx1 2 (by omega)).trans (unhide HC0).2.2
  obtain ⟨O2, hO2⟩ : ∃ O, O = Obj.cells #[.map none, .map none, .int .i64 0, .int .i64 0] 56 := ⟨_, rfl⟩
  have dN := hide (new_any w1)
  rw [← hO2] at dN
  have hV2 : View (w1.alloc O2) w1.heap.size none none 0 [] := by rw [hO2]; exact View.made w1 0
  have hk2 : ∀ j v, w1.cell? ⟨w.heap.size, j, none⟩ = some v → (w1.alloc O2).cell? ⟨w.heap.size, j, none⟩ = some v := fun j v h => (World.cell?_alloc_lt w1 O2 ⟨w.heap.size, j, none⟩ hz1).trans h
  have hd0 := hk2 0 _ hc0
  have hd1 := hk2 1 _ hc1
  have hd2 := hk2 2 _ hc2
  have hB2 : Below w.heap.size w (w1.alloc O2) := hB1.alloc (by omega) O2
  have hs2 : (w1.alloc O2).heap.size = w1.heap.size + 1 := by simp
  obtain ⟨w2, hw2⟩ : ∃ w2, w2 = w1.alloc O2 := ⟨_, rfl⟩
  rw [← hw2] at hV2 hd0 hd1 hd2 hB2 hs2 dN
  obtain ⟨p3, c3, w3, hap, hR3, hp3, hb3⟩ := run_append_rows w2 22 pu cu R0 (unhide HCU) ((unhide HI0).below hB2) (by have := (unhide H0).len; omega)
  rw [← unhide HN0] at hap
  have hV3 := hV2.below hb3
  have dA := hide (apply_view (cR := c3) hV3 (by omega) (by have := (unhide H0).len; omega) hR3 (fun q h => by have := hp3 q h; omega) (unhide H0).acc (unhide H0).amt)
  rw [← unhide HN0] at dA
  have HAP := hide hap; have HB2 := hide hB2; have HB3 := hide hb3; have HV3 := hide hV3; have HZ1 := hide hz1; have HS2 := hide hs2; have HD := hide (And.intro hd0 (And.intro hd1 hd2))
  clear hap hB2 hb3 hV3 hV2 hz1 hs2 hR3 hp3 hb1 hc0 hc1 hc2 hd1 hd2 hw2 hbx1 hk2 dF HC0 hB1
  go_wp2_with fail
  refine (unhide dN).mono ?_
  rintro e wx ⟨rfl, hw⟩
  rw [hw]
  clear hw wx dN
  go_wp2_with (at_builtin; refine wpList_append_run rfl _ _ 22 rfl _ _ _ _ rfl rfl (unhide HAP) ?_)
  refine (unhide dA).mono ?_
  rintro e w4 hO
  rcases hO with ⟨hno, ⟨x, rfl, hx⟩, hb4⟩ | ⟨hok0, rfl, mo, mr, hV4, hst4⟩
  · have hV4 := (unhide HV3).below hb4
    have hB4 : Below w.heap.size w w4 := (unhide HB2).trans (((unhide HB3).trans (hb4.mono (unhide HB3).size)).mono (by have := unhide HS2; have := unhide HZ1; omega))
    have dS := hide (state_view hV4 (by omega))
    have HB4 := hide hB4
    have hxb : (x != 0) = true := by rcases hx with rfl | rfl <;> rfl
    have hxb2 : (x == 0) = false := by rcases hx with rfl | rfl <;> rfl
    clear hb4 hno hx hV4 hB4 dA
    go_wp2_with fail
    refine (unhide dS).mono ?_
    rintro e w5 ⟨v5, hs5, rfl, hbal5, hlen5, hb5⟩
    obtain ⟨p5, c5, rfl⟩ := len0 hbal5
    have HB5 := hide ((unhide HB4).trans (hb5.mono (unhide HB4).size))
    clear hbal5 hlen5 hb5 dS
    go_wp2_with fail
    go_ret
    exact ⟨rfl, unhide HB5⟩
  rw [List.nil_append] at hV4
  have hB3 : Below w.heap.size w w3 := (unhide HB2).trans ((unhide HB3).mono (by have := unhide HS2; have := unhide HZ1; omega))
  have hz3 : w1.heap.size < w3.heap.size := by have := unhide HS2; have := (unhide HB3).size; omega
  have hst34 : ∀ k, k < w3.heap.size → k ≠ w1.heap.size → w4.heap[k]? = w3.heap[k]? := fun k hk hne => hst4.fr.block k hk (fun hb => by
    rcases hb with rfl | hb | hb
    · exact hne rfl
    · cases hb
    · cases hb)
  have hB4 : Below w.heap.size w w4 := hB3.trans (hst4.fr.toBelow (by have := unhide HZ1; omega) (fun k hk => by
    have h1 := unhide HZ1
    rcases hk with rfl | hk | hk
    · omega
    · cases hk
    · cases hk))
  have hbx4 : ∀ j v, w2.cell? ⟨w.heap.size, j, none⟩ = some v → w4.cell? ⟨w.heap.size, j, none⟩ = some v := fun j v h => by
    have h1 := unhide HZ1
    have h2 := unhide HS2
    refine (World.cell?_of_block (a := ⟨w.heap.size, j, none⟩) (hst34 w.heap.size (by omega) (by omega))).trans ?_
    exact ((unhide HB3).cell (p := ⟨w.heap.size, j, none⟩) (show w.heap.size < w2.heap.size by omega)).trans h
  have e0 := hbx4 0 _ (unhide HD).1
  have e1 := hbx4 1 _ (unhide HD).2.1
  have e2 := hbx4 2 _ (unhide HD).2.2
  have hd4 : w1.heap.size < w4.heap.size := Nat.lt_of_lt_of_le hz3 hst4.fr.size
  obtain ⟨v5, w5, hap5, hrow5, hb5, _⟩ := run_append_more (W := w4) (B := w4.heap.size) (v := .slice none 0 0) (R := []) (S := R0) (n := 0) 22 (World.ownsRow_nil _ _ _ _) (Nat.le_refl _) pu cu (unhide HCU) ((unhide HI0).below hB4) (by have := (unhide H0).len; omega)
  rw [← unhide HN0] at hap5
  rw [Nat.zero_add, List.nil_append] at hrow5
  obtain ⟨p5, c5, e5⟩ : ∃ p c, v5 = .slice p N0 c := by
    rw [unhide HN0]
    rcases hrow5.2 with ⟨e, h2⟩ | ⟨g, cap, cur, e, _⟩
    · exact ⟨none, 0, by rw [e, h2]⟩
    · exact ⟨_, _, e⟩
  have dN2 := hide (new_any w5)
  rw [← hO2] at dN2
  have hV6 : View (w5.alloc O2) w5.heap.size none none (7 * 0) (rws []) := by rw [hO2]; exact View.made w5 0
  have hV5 := (hV4.below hb5)
  have hB5 : Below w.heap.size w w5 := hB4.trans (hb5.mono hB4.size)
  have h45 := hb5.size
  have hoi : OI w4 w5.heap.size R0 v5 R0 [] none none (w5.alloc O2) := by
    refine ⟨?_, fun h => ?_, List.Perm.refl _, hV6, fun k hk => ?_, hb5.alloc h45 O2⟩
    · exact hrow5.alloc O2
    · have := (row_block hrow5 h).2.1; omega
    · rcases hk with rfl | hk | hk
      · exact h45
      · cases hk
      · cases hk
  have hnw4 : Hid (∀ k, Blk w1.heap.size mo mr k → w.heap.size ≤ k) := fun k hk => by
    have h1 := unhide HZ1
    rcases hst4.new k hk with hk | hk
    · rcases hk with rfl | hk | hk
      · omega
      · cases hk
      · cases hk
    · omega
  have HAP5 := hide hap5; have HOI := hide hoi; have HV4 := hide hV4; have HB4 := hide hB4; have H45 := hide h45; have HE := hide (And.intro e1 e2); have HD4 := hide hd4
  have e0' : w4.cell? ⟨w.heap.size, 0, none⟩ = some (.slice pu N0 cu) := e0
  clear hap5 hoi hV4 hB4 h45 e1 e2 hd4 hV6 hV5 hB5 hb5 hrow5 hbx4 hst34 hB3 hz3 hst4 hok0 dA HAP HB2 HB3 HV3 HD e0 hd0
  subst e5
  subst hO2
  go_wp2_with (at_builtin; refine wpList_append_run rfl _ _ 22 rfl _ _ _ _ rfl rfl (unhide HAP5) ?_)
  refine (unhide dN2).mono ?_
  rintro e wx ⟨rfl, hw⟩
  rw [hw]
  clear hw wx dN2
  go_wp2_with fail
  have hi4 : Hid (w.heap.size < w4.heap.size) := by show _ < _; have := unhide HZ1; have := unhide HD4; omega
  go_loopw [5, 7] (fun v5 v7 wr => ∃ (i n : Nat) (p : Option Addr) (c : Nat), v7 = .int .i64 i ∧ v5 = .slice p n c ∧ i + n ≤ N0 ∧ Hid (∃ (Lf Td : List Ro) (mo2 mr2 : Option Nat), Lf.length = n ∧ OI w4 w5.heap.size R0 v5 Lf Td mo2 mr2 wr)) (fun v5 _ _ => slLen v5)
  case atStart => exact ⟨0, N0, _, _, rfl, rfl, by omega, R0, [], none, none, (unhide HN0).symm, unhide HOI⟩
  case round =>
    obtain ⟨i, n, p, c, rfl, rfl, hin, hrel⟩ := hrel
    obtain ⟨Lf, Td, mo2, mr2, hLf, hOI⟩ := unhide hrel
    clear hrel
    have hbr : Below w.heap.size w wr := (unhide HB4).trans (hOI.bel.mono (Nat.le_of_lt (unhide hi4)))
    have b1 : wr.cell? ⟨w.heap.size, 1, none⟩ = some (.slice pP nP cP) := (hOI.bel.cell (p := ⟨w.heap.size, 1, none⟩) (unhide hi4)).trans (unhide HE).1
    have b2 : wr.cell? ⟨w.heap.size, 2, none⟩ = some (.slice pC nC cC) := (hOI.bel.cell (p := ⟨w.heap.size, 2, none⟩) (unhide hi4)).trans (unhide HE).2
    have HLF := hide hLf; have HO := hide hOI; have HBR := hide hbr
    by_cases hn : n = 0
    · subst hn
      have e0 : Lf = [] := List.length_eq_zero_iff.1 hLf
      subst e0
      have hpm : Td.Perm R0 := by simpa using hOI.pm
      have hown : ∀ q, own (rws Td) q = own (rws R0) q := own_perm (hpm.map _)
      have hVs : View wr w1.heap.size mo mr (0 + 7 * R0.length) (rws R0) := (unhide HV4).below hOI.bel
      have hVt := hOI.vt
      have hTl : Td.length = R0.length := hpm.length_eq
      have hl0 := (unhide H0).len
      have hlr : (rws R0).length ≤ 1048576 := by unfold rws; rw [List.length_map]; omega
      have hns : 0 + 7 * R0.length ≤ 68719476736 := by omega
      have hnt : 7 * Td.length ≤ 68719476736 := by omega
      have dS := hide (state_view hVs hns)
      have HVS := hide hVs; have HVT := hide hVt; have HOW := hide hown; have HNS := hide hns; have HNT := hide hnt; have HLR := hide hlr
      clear hVs hVt hown hpm hOI hbr hTl hl0 hlr hns hnt HO HLF hLf b1 b2
      go_wp2_with fail
      refine (unhide dS).mono ?_
      rintro e wa ⟨va, hsa, rfl, hbala, hlena, hba⟩
      have dFr := hide (from_any hbala (unhide HVS).ok (unhide HVS).nm (unhide HLR))
      have HBA := hide hba; have HBLA := hide hbala
      clear hba hbala hlena dS
      go_wp2_with fail
      refine (unhide dFr).mono ?_
      rintro e wb ⟨du, mou, mru, nu, rfl, hVu, hnu, hnewu, hbb⟩
      have hB1 : Below wr.heap.size wr wb := (unhide HBA).trans (hbb.mono (unhide HBA).size)
      have hVs2 := (unhide HVS).below hB1
      have hVt2 := (unhide HVT).below hB1
      have hBb : Below w.heap.size w wb := (unhide HBR).trans (hB1.mono (unhide HBR).size)
      have hownu : ∀ q, own (rws R0) q = own (rws ((srt hsa).map (bRow (rws R0)))) q := fun q => (own_bRow (rws R0) (unhide HBLA).nd (unhide HBLA).mem q).symm
      have dS2 := hide (state_view hVs2 (unhide HNS))
      have HVS2 := hide hVs2; have HVT2 := hide hVt2; have HBB := hide hBb; have HVU := hide hVu; have HOU := hide hownu; have HNU := hide hnu
      clear hVs2 hVt2 hBb hVu hownu hB1 hbb hnewu hnu dFr
      go_wp2_with fail
      refine (unhide dS2).mono ?_
      rintro e x1 ⟨v1, hs1, rfl, hbal1, hlen1, hbx1⟩
      have hVt3 := (unhide HVT2).below hbx1
      have dS3 := hide (state_view hVt3 (unhide HNT))
      have HX1 := hide hbx1; have HBAL1 := hide hbal1; have HLEN1 := hide hlen1
      clear hVt3 hbx1 hbal1 hlen1 dS2
      go_wp2_with fail
      refine (unhide dS3).mono ?_
      rintro e x2 ⟨v2, hs2, rfl, hbal2, hlen2, hbx2⟩
      have hbal1' := (unhide HBAL1).keep (W' := x2) (fun g hg => hbx2.block g (row_block (unhide HBAL1).row hg).2.1)
      have hsame := hbal1'.same hbal2 (fun q => (unhide HOW q).symm)
      have hr2 := hbal2.row
      rw [← hsame.1, ← hsame.2] at hr2
      have dE := hide (same_any (by rw [srt_len]) (by have := unhide HLEN1; have := (unhide H0).len; omega) hbal1'.row hr2)
      have hX2 : Below wb.heap.size wb x2 := (unhide HX1).trans (hbx2.mono (unhide HX1).size)
      have HX2 := hide hX2
      clear hbal1' hsame hr2 hbal2 hlen2 hbx2 hX2 dS3 HBAL1 HLEN1 HX1
      go_wp2_with fail
      refine (unhide dE).mono ?_
      rintro e x3 ⟨rfl, m3, hw3⟩
      have hX3 : Below wb.heap.size wb x3 := by rw [hw3]; exact below_drewN (unhide HX2) m3
      have hVs4 := (unhide HVS2).below hX3
      have dS4 := hide (state_view hVs4 (unhide HNS))
      have HX3 := hide hX3
      clear hw3 hX3 hVs4 dE HX2
      go_wp2_with fail
      refine (unhide dS4).mono ?_
      rintro e x4 ⟨v4, hs4, rfl, hbal4, hlen4, hbx4⟩
      have hX4 : Below wb.heap.size wb x4 := (unhide HX3).trans (hbx4.mono (unhide HX3).size)
      have hVu5 := (unhide HVU).below hX4
      have dS5 := hide (state_view hVu5 (unhide HNU))
      have HX4 := hide hX4; have HBAL4 := hide hbal4; have HLEN4 := hide hlen4
      clear hX4 hVu5 hbal4 hlen4 hbx4 dS4 HX3
      go_wp2_with fail
      refine (unhide dS5).mono ?_
      rintro e x5 ⟨v5, hs5, rfl, hbal5, hlen5, hbx5⟩
      have hbal4' := (unhide HBAL4).keep (W' := x5) (fun g hg => hbx5.block g (row_block (unhide HBAL4).row hg).2.1)
      have hsame := hbal4'.same hbal5 (unhide HOU)
      have hr5 := hbal5.row
      rw [← hsame.1, ← hsame.2] at hr5
      have dE := hide (same_any (by rw [srt_len]) (by have := unhide HLEN4; have := (unhide H0).len; omega) hbal4'.row hr5)
      have hX5 : Below wb.heap.size wb x5 := (unhide HX4).trans (hbx5.mono (unhide HX4).size)
      have HB5 := hide ((unhide HBB).trans (hX5.mono (unhide HBB).size))
      clear hbal4' hsame hr5 hbal5 hlen5 hbx5 hX5 dS5 HBAL4 HLEN4 HX4
      go_wp2_with fail
      refine (unhide dE).mono ?_
      rintro e x6 ⟨rfl, m6, hw6⟩
      have HB6 : Hid (Below w.heap.size w x6) := by rw [hw6]; exact below_drewN (unhide HB5) m6
      clear hw6
      go_wp2_with fail
      go_ret
      exact ⟨rfl, unhide HB6⟩
    have hn1 : 0 < n := by omega
    have hcr := (unhide HC).below hbr
    have HCR := hide hcr
    clear hLf hOI hbr hcr
    go_upto_region 13 with fail
    go_cut [52] (fun v52 wx => ∃ bb : Bool, v52 = .bool bb ∧ Hid (wx = wr) ∧ Hid (bb = true → i < nC ∧ zC i > 1))
    case first =>
      by_cases hi : i < nC
      · obtain ⟨bC, oC, hpC, hltC, hcC, hzC⟩ := unhide HCR i hi
        obtain ⟨Z, hZ⟩ : ∃ Z, zC i = Z := ⟨_, rfl⟩
        rw [hZ] at hcC hzC
        subst hpC
        by_cases hz : Z > 1
        · go_wp2_with fail
          go_meet
          exact ⟨true, by simp, rfl, fun _ => ⟨hi, by omega⟩⟩
        · go_wp2_with fail
          go_meet
          exact ⟨false, by simp, rfl, fun h => by cases h⟩
      · go_wp2_with fail
        go_meet
        exact ⟨false, by simp, rfl, fun h => by cases h⟩
    obtain ⟨bb, rfl, hwc, hbb⟩ := hcut
    rw [unhide hwc]
    clear hwc wc
    go_upto_if 52 with fail
    go_cut [8] (fun v8 wx => ∃ M : Int, v8 = .int .i64 M ∧ Hid (wx = wr ∧ 1 ≤ M ∧ M ≤ 9223372036854775807))
    case first =>
      cases bb
      · go_wp2_with fail
        go_meet
        exact ⟨1, rfl, rfl, by omega, by omega⟩
      · obtain ⟨hi, hz⟩ := unhide hbb rfl
        obtain ⟨bC, oC, hpC, hltC, hcC, hzC⟩ := unhide HCR i hi
        obtain ⟨Z, hZ⟩ : ∃ Z, zC i = Z := ⟨_, rfl⟩
        rw [hZ] at hcC hzC hz
        subst hpC
        go_wp2_with fail
        go_meet
        exact ⟨Z, rfl, rfl, by omega, by omega⟩
    clear hbb bb
    obtain ⟨M, rfl, hM⟩ := hcut
    obtain ⟨hwc, hM1, hM2⟩ := unhide hM
    rw [hwc]
    clear hwc hM wc
    go_wp2_with fail
    have hd : w5.heap.size < wr.heap.size := (unhide HO).vt.at'.lt _ (.inl rfl)
    have h4r : w4.heap.size ≤ wr.heap.size := (unhide HO).bel.size
    have HDR := hide hd; have H4R := hide h4r
    clear hd h4r
    obtain ⟨wo, hwo⟩ : ∃ wo, wo = wr := ⟨_, rfl⟩
    subst hwo
    go_loopw [5, 9, 10] (fun v5 v9 v10 wi => ∃ (k m : Nat) (p2 p3 : Option Addr) (c2 c3 : Nat), v10 = .int .i64 k ∧ v5 = .slice p2 m c2 ∧ v9 = .slice p3 k c3 ∧ k + m = n ∧ (k : Int) ≤ M ∧ Hid (∃ Lf2 Pc : List Ro, Lf2.length = m ∧ Pc.length = k ∧ II w4 wo w5.heap.size R0 Td v5 v9 Lf2 Pc wi)) (fun v5 _ _ _ => slLen v5)
    case atStart =>
      exact ⟨0, n, _, _, _, _, rfl, rfl, rfl, by omega, by omega, Lf, [], unhide HLF, rfl, ⟨(unhide HO).row, (unhide HO).ne, World.ownsRow_nil _ _ _ _, by simpa using (unhide HO).pm, Below.refl _ _, fun g _ h => by cases h⟩⟩
    case round =>
      obtain ⟨k, m, p2, p3, c2, c3, rfl, rfl, rfl, hkm, hkM, hrel⟩ := hrel
      by_cases hgo : (k : Int) < M ∧ 0 < m
      · obtain ⟨hg1, hg2⟩ := hgo
        obtain ⟨Lf2, Pc, hL2, hPc, hII⟩ := unhide hrel
        have hwlt : w.heap.size < wo.heap.size := Nat.lt_of_lt_of_le (unhide hi4) (unhide H4R)
        obtain ⟨g, hp2, hmc⟩ : ∃ g, p2 = some ⟨g, 0, none⟩ ∧ m ≤ c2 := by
          have h := hII.row.2
          rw [hL2] at h
          rcases h with ⟨e, h2⟩ | ⟨g, cap, cur, e, hB, hh, hc, hm', hcs, ht⟩
          · omega
          · injection e with e1 e2 e3
            exact ⟨g, e1, by omega⟩
        subst hp2
        have bi1 : wr.cell? ⟨w.heap.size, 1, none⟩ = some (.slice pP nP cP) := (hII.bel.cell (p := ⟨w.heap.size, 1, none⟩) hwlt).trans b1
        have hbi : Below w.heap.size w wr := (unhide HBR).trans (hII.bel.mono (Nat.le_of_lt hwlt))
        have HPI := hide ((unhide HP).below hbi)
        have HII := hide hII; have HL2 := hide hL2; have HPC := hide hPc
        clear hII hL2 hPc hbi hwlt hrel
        go_upto_region 20 with fail
        go_cut [84] (fun v84 wx => ∃ bb : Bool, v84 = .bool bb ∧ Hid (wx = wr) ∧ Hid (bb = true → i + k < nP ∧ zP (i + k) ≥ 0))
        case first =>
          by_cases hik : i + k < nP
          · obtain ⟨bP, oP, hpP, hltP, hcP, hzP⟩ := unhide HPI (i + k) hik
            obtain ⟨Z, hZ⟩ : ∃ Z, zP (i + k) = Z := ⟨_, rfl⟩
            rw [hZ] at hcP hzP
            subst hpP
            by_cases hz : Z ≥ 0
            · go_wp2_with fail
              go_meet
              exact ⟨true, by simp, rfl, fun _ => ⟨hik, by omega⟩⟩
            · go_wp2_with fail
              go_meet
              exact ⟨false, by simp, rfl, fun h => by cases h⟩
          · go_wp2_with fail
            go_meet
            exact ⟨false, by simp, rfl, fun h => by cases h⟩
        obtain ⟨bb, rfl, hwc, hbb⟩ := hcut
        rw [unhide hwc]
        clear hwc wc
        go_upto_if 84 with fail
        go_cut [11] (fun v11 wx => ∃ a : Nat, v11 = .int .i64 a ∧ a < m ∧ Hid (wx = wr))
        case first =>
          cases bb
          · go_wp2_with fail
            go_meet
            exact ⟨0, rfl, by omega, rfl⟩
          · obtain ⟨hik, hz⟩ := unhide hbb rfl
            obtain ⟨bP, oP, hpP, hltP, hcP, hzP⟩ := unhide HPI (i + k) hik
            obtain ⟨Z, hZ⟩ : ∃ Z, zP (i + k) = Z := ⟨_, rfl⟩
            rw [hZ] at hcP hzP hz
            subst hpP
            go_wp2_with fail
            go_meet
            have hz1 := Int.emod_nonneg Z (show (m : Int) ≠ 0 by omega)
            have hz2 := Int.emod_lt_of_pos Z (show (0 : Int) < m by omega)
            exact ⟨(Z % (m : Int)).toNat, by rw [Int.toNat_of_nonneg hz1], by omega, rfl⟩
        clear hbb bb
        obtain ⟨a, rfl, ha, hwc⟩ := hcut
        rw [unhide hwc]
        clear hwc wc
        obtain ⟨r, p1, c1, y1, v2, y2, p4, c4, y3, hra, hr1, hr2, hr3, hfin⟩ := draw_round (unhide HII) (unhide HL2) (unhide HPC) ha hmc (unhide HDR) (unhide H4R) (by omega)
        unfold oneR at hr1
        have hld := run_ldO hra
        have HR1 := hide hr1; have HR2 := hide hr2; have HR3 := hide hr3; have HFIN := hide hfin
        clear hr1 hr2 hr3 hfin hra
        go_upto_region 24 with (at_builtin; refine wpList_append_run rfl _ _ 22 rfl _ _ _ _ rfl rfl (unhide HR1) ?_)
        clear hld
        go_upto_region 25 with (at_builtin; refine wpList_append_run rfl _ _ 22 rfl _ _ _ _ rfl rfl (unhide HR2) ?_)
        go_wp2_with (at_builtin; refine wpList_append_run rfl _ _ 22 rfl _ _ _ _ rfl rfl (unhide HR3) ?_)
        refine ⟨⟨k + 1, m - 1, _, _, _, _, by simp, rfl, rfl, by omega, by omega, unhide HFIN⟩, by simp [slLen]; omega⟩
      · obtain ⟨Lf2, Pc, hL2, hPc, hII⟩ := unhide hrel
        have hVt := (unhide HO).vt.below hII.bel
        have hpc := hII.pc
        rw [hPc] at hpc
        obtain ⟨pq, cq, hvq, hRq, hpq⟩ := own_rows hPc hpc
        injection hvq with e1 e2 e3
        subst e1
        subst e3
        clear e2
        have hmem : ∀ r ∈ Pc, r ∈ R0 := fun r hr => (hII.pm.mem_iff).1 (List.mem_append_right _ (List.mem_append_left _ hr))
        have hTdl : Td.length ≤ 1048576 := by
          have h1 := hII.pm.length_eq
          have h2 := (unhide H0).len
          rw [List.length_append] at h1
          omega
        have dA := hide (apply_view (cR := c3) hVt (by omega) (by omega) hRq (fun q h => by have := hpq q h; have := unhide HDR; omega) (fun r hr => (unhide H0).acc r (hmem r hr)) (fun r hr => (unhide H0).amt r (hmem r hr)))
        rw [hPc] at dA
        have hup : Hid (∀ mo3 mr3 wy, View wy w5.heap.size mo3 mr3 (7 * Td.length + 7 * k) (rws Td ++ rws Pc) → Stp wr wy w5.heap.size mo2 mr2 mo3 mr3 → OI w4 w5.heap.size R0 (.slice p2 m c2) Lf2 (Td ++ Pc) mo3 mr3 wy) := fun mo3 mr3 wy hV hst => by
          have h4 := unhide H4R
          have hz := hII.bel.size
          refine ⟨hst.row_else hVt.at' hII.row hII.ne, hII.ne, by rw [List.append_assoc]; exact hII.pm, ?_, fun q hq => ?_, ?_⟩
          · have e1 : rws (Td ++ Pc) = rws Td ++ rws Pc := List.map_append
            have e2 : 7 * (Td ++ Pc).length = 7 * Td.length + 7 * k := by rw [List.length_append, hPc]; omega
            rw [e1, e2]
            exact hV
          · rcases hst.new q hq with h | h
            · exact (unhide HO).nw q h
            · omega
          · exact (unhide HO).bel.trans ((hII.bel.mono h4).trans (hst.fr.toBelow (by omega) (unhide HO).nw))
        have HBW : Hid (∀ wy, Below wr.heap.size wr wy → Below w.heap.size w wy) := fun wy h => by
          have h1 := (unhide HBR).size
          have h2 := hII.bel.size
          exact (unhide HBR).trans ((hII.bel.mono h1).trans (h.mono (by omega)))
        have hsp : Hid (¬ (k : Int) < M ∨ ((k : Int) < M ∧ ¬ 0 < m)) := by
          by_cases h : (k : Int) < M
          · exact .inr ⟨h, fun h2 => hgo ⟨h, h2⟩⟩
          · exact .inl h
        have HL2 := hide hL2; have HPC := hide hPc
        clear hgo hII hVt hpc hRq hpq hmem hTdl hPc hL2 hrel
        have hsm : m < n := by
          rcases unhide hsp with h | h <;> omega
        rcases unhide hsp with hs1 | ⟨hs1, hs2⟩
        all_goals
          go_wp2_with fail
          refine (unhide dA).mono ?_
          rintro e wy hO
          rcases hO with ⟨hno, ⟨x, rfl, hx⟩, hby⟩ | ⟨hok, rfl, mo3, mr3, hV3, hst3⟩
          · have HBY := hide (unhide HBW wy hby)
            have hxb : (x != 0) = true := by rcases hx with rfl | rfl <;> rfl
            have hxb2 : (x == 0) = false := by rcases hx with rfl | rfl <;> rfl
            clear hno hby hx
            go_wp2_with fail
            go_ret
            exact ⟨rfl, unhide HBY⟩
          · have HOI3 := hide (unhide hup mo3 mr3 wy (by have h := hV3; rw [unhide HPC] at h; exact h) hst3)
            clear hok hV3 hst3
            go_wp2_with fail
            refine ⟨⟨i + 1, m, _, _, by simp, rfl, by omega, Lf2, Td ++ Pc, mo3, mr3, unhide HL2, unhide HOI3⟩, by simp [slLen]; omega⟩
end Go.Proofs.YtgohddimnphbkaaDoor
