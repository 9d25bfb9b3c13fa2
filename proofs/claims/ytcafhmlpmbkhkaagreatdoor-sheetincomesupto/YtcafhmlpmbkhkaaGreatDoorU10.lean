import Derived.Test.YtcafhmlpmbkhkaaGreatDoorU06
import Derived.Test.YtcafhmlpmbkhkaaGreatDoorU08
/- The program's Income (26). -/
namespace Go.Proofs.YtcafhmlpmbkhkaaGreatDoor
open Go Go.Shelf Go.ChangeShapes Go.WideShapes Go.ChangeAt Go.RowKit Go.Maps
set_option linter.unusedVariables false
set_option linter.unusedSimpArgs false
set_option maxRecDepth 100000 in
set_option maxHeartbeats 16000000 in
theorem income_bad {w : World} {pa : Option Addr} {na ca : Nat} {L : List Ch.Ac} {pr : Option Addr} {nr cr : Nat} {R : List Po} (fr tt : Int) (hfr : fits64 fr) (htt : fits64 tt) (dg : Int) (hdg : fits64 dg) (hb : dg < 0 ∨ 6 < dg ∨ isDb fr = false ∨ isDb tt = false ∨ tt < fr) :
    Calls Tryz.prog 26 #[.slice pa na ca, .slice pr nr cr, .int .i64 fr, .int .i64 tt, .int .i64 dg] w (TriOut w (ansI dg L R fr tt)) := by
  have HE : Hid (ansI dg L R fr tt = ([], 1)) := by
    have e : errI dg L R fr tt = 1 := by unfold errI; rw [if_pos hb]
    show _ = _
    unfold ansI
    rw [e, if_neg (by decide)]
  have HB : Hid (Below w.heap.size w w) := Below.refl _ _
  obtain ⟨df, hdf⟩ : ∃ b, b = isDb fr := ⟨_, rfl⟩
  obtain ⟨dt, hdt⟩ : ∃ b, b = isDb tt := ⟨_, rfl⟩
  have DF := hide (isDay_any fr w)
  have DT := hide (isDay_any tt w)
  rw [← hdf] at DF hb
  rw [← hdt] at DT hb
  clear hdf hdt
  by_cases hbad : dg < 0 ∨ 6 < dg
  · have D := hide (digits_no dg w hbad)
    clear hb hbad
    go_enter Tryz.func26, Tryz.ntmps26
    go_wp2_with (go_at_call 37; refine (unhide D).mono ?_; rintro e wz ⟨rfl, hwz⟩; rw [hwz]; clear hwz wz)
    go_ret2
    exact ⟨by rw [unhide HE]; rfl, unhide HB⟩
  · have D := hide (digits_yes dg w (by omega) (by omega))
    cases df with
    | false =>
      clear hb hbad
      go_enter Tryz.func26, Tryz.ntmps26
      go_wp2_with first | (go_at_call 37; refine (unhide D).mono ?_; rintro e wz ⟨rfl, hwz⟩; rw [hwz]; clear hwz wz) | (go_at_call 75; refine (unhide DF).mono ?_; rintro e wz ⟨rfl, hwz⟩; rw [hwz]; clear hwz wz)
      go_ret2
      exact ⟨by rw [unhide HE]; rfl, unhide HB⟩
    | true =>
      cases dt with
      | false =>
        clear hb hbad
        go_enter Tryz.func26, Tryz.ntmps26
        go_wp2_with first | (go_at_call 37; refine (unhide D).mono ?_; rintro e wz ⟨rfl, hwz⟩; rw [hwz]; clear hwz wz) | (go_at_call 75; first | (refine (unhide DF).mono ?_; rintro e wz ⟨rfl, hwz⟩; rw [hwz]; clear hwz wz DF) | (refine (unhide DT).mono ?_; rintro e wz ⟨rfl, hwz⟩; rw [hwz]; clear hwz wz DT))
        go_ret2
        exact ⟨by rw [unhide HE]; rfl, unhide HB⟩
      | true =>
        have hlt : tt < fr := by
          rcases hb with h | h | h | h | h
          · exact absurd (.inl h) hbad
          · exact absurd (.inr h) hbad
          · cases h
          · cases h
          · exact h
        clear hb hbad
        go_enter Tryz.func26, Tryz.ntmps26
        go_wp2_with first | (go_at_call 37; refine (unhide D).mono ?_; rintro e wz ⟨rfl, hwz⟩; rw [hwz]; clear hwz wz) | (go_at_call 75; first | (refine (unhide DF).mono ?_; rintro e wz ⟨rfl, hwz⟩; rw [hwz]; clear hwz wz DF) | (refine (unhide DT).mono ?_; rintro e wz ⟨rfl, hwz⟩; rw [hwz]; clear hwz wz DT))
        go_ret2
        exact ⟨by rw [unhide HE]; rfl, unhide HB⟩
attribute [local go_sem ↓] ldP_is
set_option maxRecDepth 100000 in
set_option maxHeartbeats 16000000 in
theorem income_good {w : World} (hP : Kg.Pw w) (hM : Dy.Mon w) {pa : Option Addr} {na ca : Nat} {L : List Ch.Ac} (hL : L.length = na) (hLL : Lies Ch.kA w pa L) (hna : na ≤ 1048576) (hsz : ∀ a ∈ L, (Ch.txN a.nm).size ≤ 1048576) (hty : ∀ a ∈ L, fits64 a.ty) {pr : Option Addr} {nr cr : Nat} {R : List Po} (hR : R.length = nr) (hLR : Lies kU w pr R) (hok : ∀ r ∈ R, PoOk r) (hnr : nr ≤ 1048576) (fr tt : Int) (d : Nat) (hd : d ≤ 6) (hdf : isDb fr = true) (hdt : isDb tt = true) (hle : fr ≤ tt) :
    Calls Tryz.prog 26 #[.slice pa na ca, .slice pr nr cr, .int .i64 fr, .int .i64 tt, .int .i64 (d : Int)] w (TriOut w (ansI (d : Int) L R fr tt)) := by
  have hfD := (isDb_iff fr).1 hdf
  have htD := (isDb_iff tt).1 hdt
  have HNB : Hid (¬ ((d : Int) < 0 ∨ 6 < (d : Int) ∨ isDb fr = false ∨ isDb tt = false ∨ tt < fr)) := by show ¬ _; rw [hdf, hdt]; simp; omega
  have D0 := hide (digits_yes (d : Int) w (by omega) (by omega))
  have DF := hide (isDay_any fr w)
  have DT := hide (isDay_any tt w)
  rw [hdf] at DF
  rw [hdt] at DT
  have DC := hide (counted_any (ca := ca) (cr := cr) hL hLL hna (fun a ha => by have := hsz a ha; omega) hR hLR hok hnr fr tt (by unfold fits64; unfold isD at hfD; omega) (by unfold fits64; unfold isD at htD; omega))
  have HLL := hide hLL; have HL := hide hL; have HSZ := hide hsz; have HTY := hide hty; have HPW := hide hP; have HMO := hide hM; have HNA := hide hna; have HFD := hide hfD; have HTD := hide htD; have HR := hide hR; have HNR := hide hnr
  have hlt : ¬ tt < fr := by omega
  have b1 : 1 ≤ fr ∧ fr ≤ 3652059 := hfD
  have b2 : 1 ≤ tt ∧ tt ≤ 3652059 := htD
  clear hfD htD hdf hdt hle hP hM hL hLL hna hsz hty hR hLR hok hnr
  go_enter Tryz.func26, Tryz.ntmps26
  go_wp2_with first | (go_at_call 37; refine (unhide D0).mono ?_; rintro e wz ⟨rfl, hwz⟩; rw [hwz]; clear hwz wz D0) | (go_at_call 75; first | (refine (unhide DF).mono ?_; rintro e wz ⟨rfl, hwz⟩; rw [hwz]; clear hwz wz DF) | (refine (unhide DT).mono ?_; rintro e wz ⟨rfl, hwz⟩; rw [hwz]; clear hwz wz DT))
  refine (unhide DC).mono ?_
  rintro e w1 ⟨⟨hez, bb, mb, rfl, hblk, hgp, hwm, hmb⟩ | ⟨hez, rfl⟩, hb1⟩
  · have hba : Ba w1 bb pa na ca mb R.length (cntF R fr tt) 0 := ⟨hblk, hgp, hmb⟩
    obtain ⟨F, hF⟩ : ∃ F, F = cntF R fr tt := ⟨_, rfl⟩
    rw [← hF] at hba
    have hbb1 := hba.inh
    have hwbb : w.heap.size ≤ bb := by omega
    have HW : Hid (∀ W W' : World, Below w.heap.size w W → bb < W.heap.size → W.grownBy W' (some bb) → Below w.heap.size w W') := fun W W' h1 h2 h3 => h1.trans (grown_bel h3 hwbb h2)
    have HLA : Hid (∀ W, Below w.heap.size w W → Lies Ch.kA W pa L) := fun W hb => (unhide HLL).below hb
    have HNR2 : Hid (R.length ≤ 1048576) := by have := unhide HR; have := unhide HNR; show _ ≤ _; omega
    have HEZ : Hid (errC L R = 0) := hez
    have HFV := hide hF
    have HB1 := hide hb1
    have DB1 := hide (block_any hba (unhide HL) (fun W hW => unhide HLA W (unhide HW _ _ hb1 hbb1 hW)) (unhide HSZ) (unhide HTY) (unhide HNA) (unhide HNR2) 4 (by unfold fits64; omega))
    have HBB1 := hide hbb1; have HWBB := hide hwbb
    clear hba hblk hgp hwm hmb hez hb1 hF hbb1 hwbb DC
    go_wp2_with fail
    refine (unhide DB1).mono ?_
    rintro e w2 ⟨p1, c1, rfl, hA1⟩
    have hb2 := unhide HW _ _ (unhide HB1) (unhide HBB1) hA1.grw
    have hbb2 := hA1.ba.inh
    have DB2 := hide (block_any hA1.ba (unhide HL) (fun W hW => unhide HLA W (unhide HW _ _ hb2 hbb2 hW)) (unhide HSZ) (unhide HTY) (unhide HNA) (unhide HNR2) 5 (by unfold fits64; omega))
    have HA1 := hide hA1; have HB2 := hide hb2; have HBB2 := hide hbb2
    obtain ⟨nE, hnE⟩ : ∃ n, n = (blkL F 4 L).length := ⟨_, rfl⟩
    rw [← hnE]
    have HNE := hide hnE
    clear hA1 hb2 hbb2 DB1 hnE
    go_wp2_with fail
    refine (unhide DB2).mono ?_
    rintro e w3 ⟨p2, c2, rfl, hA2⟩
    have hb3 := unhide HW _ _ (unhide HB2) (unhide HBB2) hA2.grw
    have hbb3 := hA2.ba.inh
    obtain ⟨nS, hnS⟩ : ∃ n, n = (blkL F 5 L).length := ⟨_, rfl⟩
    rw [← hnS]
    have hoE := (unhide HA1).own
    rw [← unhide HNE] at hoE
    have hoE3 : w3.ownsRow w1.heap.size 166 2 (.slice p1 nE c1) nE (kL.flat (blkL F 4 L)) := own_grown hoE (unhide HBB1) hA2.grw
    have hoS3 := hA2.own
    rw [← hnS] at hoS3
    have fitA : ∀ t : Int, ∀ x ∈ blkL F t L, fits64 x.amt := fun t x hx => by
      have := blkL_isA F t L x hx
      unfold isA at this
      unfold fits64
      omega
    have hlE : nE ≤ 1048576 := by have h1 := blkL_len F 4 L; rw [← unhide HNE] at h1; have := unhide HL; have := unhide HNA; omega
    have hlS : nS ≤ 1048576 := by have h1 := blkL_len F 5 L; rw [← hnS] at h1; have := unhide HL; have := unhide HNA; omega
    have DS1 := hide (sumOf_any hA2.ba (c := c1) (unhide HNE).symm (own_lies kL_ok (unhide HNE).symm hoE3) (fitA 4) (by omega))
    have HE3 := hide hoE3; have HS3 := hide hoS3; have HB3 := hide hb3; have HBB3 := hide hbb3; have HFA := hide fitA; have HLE := hide hlE; have HLS := hide hlS; have HNS := hide hnS
    clear hb3 hbb3 hoE hoE3 hoS3 hA2 fitA hlE hlS hnS DB2 HA1
    go_wp2_with fail
    refine (unhide DS1).mono ?_
    rintro e w4 ⟨rfl, hB4, hg4⟩
    have hb4 := unhide HW _ _ (unhide HB3) (unhide HBB3) hg4
    have hoE4 := own_grown (unhide HE3) (unhide HBB1) hg4
    have hoS4 := own_grown (unhide HS3) (unhide HBB2) hg4
    have DS2 := hide (sumOf_any hB4 (c := c2) (unhide HNS).symm (own_lies kL_ok (unhide HNS).symm hoS4) (unhide HFA 5) (by have := unhide HLS; omega))
    obtain ⟨A, hA⟩ : ∃ z, z = (sumL ((blkL F 4 L).map Lm.amt)).1 := ⟨_, rfl⟩
    rw [← hA]
    have HE4 := hide hoE4; have HS4 := hide hoS4; have HB4 := hide hb4; have HBB4 := hide hB4.inh; have HAV := hide hA
    have hAA : isA A := by rw [hA]; exact sumL_isA _
    have HAA := hide hAA
    clear hB4 hg4 hb4 hoE4 hoS4 hA hAA DS1 HE3 HS3
    go_wp2_with fail
    refine (unhide DS2).mono ?_
    rintro e w5 ⟨rfl, hB5, hg5⟩
    have hb5 := unhide HW _ _ (unhide HB4) (unhide HBB4) hg5
    have hoE5 := own_grown (unhide HE4) (unhide HBB1) hg5
    have hoS5 := own_grown (unhide HS4) (unhide HBB2) hg5
    obtain ⟨B, hB⟩ : ∃ z, z = (sumL ((blkL F 5 L).map Lm.amt)).1 := ⟨_, rfl⟩
    rw [← hB]
    have hBA : isA B := by rw [hB]; exact sumL_isA _
    obtain ⟨w6, hw6⟩ : ∃ W, W = w5.alloc (.cells #[.int .i64 A, .int .i64 (-B)] 2) := ⟨_, rfl⟩
    have b56 : Below w5.heap.size w5 w6 := by rw [hw6]; exact bal (Below.refl _ _) _
    have hl6 : Lies kN w6 (some ⟨w5.heap.size, 0, none⟩) [A, -B] := by
      refine ⟨(fun h => by cases h), fun k hk => ⟨_, _, rfl, by rw [hw6]; simp, fun j u hu => ?_⟩⟩
      have hh : w6.heap[w5.heap.size]? = some (.cells #[.int .i64 A, .int .i64 (-B)] 2) := by rw [hw6]; exact heap_new _ _
      have hj : j = 0 := by
        have := (List.getElem?_eq_some_iff.1 hu).1
        simp [kN] at this
        exact this
      subst hj
      have hk2 : k = 0 ∨ k = 1 := by simp at hk; omega
      rcases hk2 with rfl | rfl <;> (rw [cell_at hh]; simpa [kN] using hu)
    have DS3 := hide (sumb_any (hB5.below b56) (c := 2) (m := 2) rfl hl6 (fun z hz => by
      simp only [List.mem_cons, List.not_mem_nil, or_false] at hz
      have h1 := unhide HAA
      have h2 := hBA
      unfold isA at h1 h2
      unfold fits64
      rcases hz with rfl | rfl <;> omega) (by decide))
    have HE6 := hide (own_below hoE5 b56); have HS6 := hide (own_below hoS5 b56); have HB6 := hide (hb5.trans (b56.mono hb5.size)); have HBB6 := hide (hB5.below b56).inh; have HBV := hide hB; have HBA := hide hBA
    have hw6' := hw6.symm
    have hA1 := (unhide HAA).1; have hA2 := (unhide HAA).2; have hB1 := hBA.1; have hB2 := hBA.2
    clear hB5 hg5 hb5 hoE5 hoS5 hB hBA DS2 HE4 HS4 hw6 b56 hl6
    go_wp2_with fail
    refine (unhide DS3).mono ?_
    rintro e w7 ⟨rfl, hB7, hg7⟩
    clear hw6' DS3 hA1 hA2 hB1 hB2
    have hb7 := unhide HW _ _ (unhide HB6) (unhide HBB6) hg7
    have hoE7 := own_grown (unhide HE6) (unhide HBB1) hg7
    have hoS7 := own_grown (unhide HS6) (unhide HBB2) hg7
    obtain ⟨C, hC⟩ : ∃ z, z = (sumL [A, -B]).1 := ⟨_, rfl⟩
    rw [← hC]
    have hCA : isA C := by rw [hC]; exact sumL_isA _
    have HO : Hid (orE (orE (orE (blkE F 5 (blkE F 4 0 L) L) (sumL ((blkL F 4 L).map Lm.amt)).2) (sumL ((blkL F 5 L).map Lm.amt)).2) (sumL [A, -B]).2 = iO F L) := by
      show _ = _
      unfold iO iA iB iE iS
      rw [← unhide HAV, ← unhide HBV]
    rw [unhide HO] at hB7
    obtain ⟨O, hO⟩ : ∃ z, z = iO F L := ⟨_, rfl⟩
    rw [← hO] at hB7
    have cO : w7.cell? ⟨bb, 2, none⟩ = some (.int .i64 O) := by rw [cell_at hB7.blk]; rfl
    have HC7 : Hid (∀ W, Below w7.heap.size w7 W → W.cell? ⟨bb, 2, none⟩ = some (.int .i64 O)) := fun W hb => by rw [cell_at ((hb.block _ hB7.inh).trans hB7.blk)]; rfl
    have HE7 := hide hoE7; have HS7 := hide hoS7; have HB7 := hide hb7; have HCV := hide hC; have HCA := hide hCA; have HOV := hide hO
    clear hoE7 hoS7 hb7 hC hCA hO hB7 hg7 HE6 HS6
    by_cases hO0 : O = 0
    · subst hO0
      have hG0 : Ch.Good L := errC_good (unhide HEZ)
      have hnm := good_names hG0
      have HLBE := hide (blkL_lab hnm F 4); have HLBS := hide (blkL_lab hnm F 5)
      clear hnm hG0
      have DN := hide (newPaired_any d w7)
      have hw07 : w.heap.size ≤ w7.heap.size := (unhide HB7).size
      have HW07 := hide hw07
      clear hw07
      go_wp2_with fail
      refine (unhide DN).mono ?_
      rintro e w8 ⟨g, B2, rfl, hB2, hG8, hb8⟩
      clear DN cO HC7
      have hB28 : B2 ≤ w8.heap.size := by
        obtain ⟨ps, cs, pr, cr, L, k⟩ := hG8
        exact Nat.le_trans k.low (Nat.le_of_lt (Array.getElem?_eq_some_iff.1 k.cell).1)
      obtain ⟨w9, hw9⟩ : ∃ W, W = w8.alloc (pO d g) := ⟨_, rfl⟩
      have b89 : Below w8.heap.size w8 w9 := by rw [hw9]; exact bal (Below.refl _ _) _
      have hh9 : w9.heap[w8.heap.size]? = some (pO d g) := by rw [hw9]; exact heap_new _ _
      have hG9 := hG8.below b89
      have hb79 : Below w7.heap.size w7 w9 := hb8.trans (b89.mono hb8.size)
      have hE9 := own_below (unhide HE7) hb79
      have hS9 := own_below (unhide HS7) hb79
      have hbw9 : Below w.heap.size w w9 := (unhide HB7).trans (hb79.mono (unhide HB7).size)
      obtain ⟨pb, hpb⟩ : ∃ q, q = w8.heap.size := ⟨_, rfl⟩
      rw [← hpb] at hh9
      have hwB2 : w.heap.size ≤ B2 := Nat.le_trans (unhide HW07) hB2
      have HGP : Hid (∀ W, Gd B2 w9 W → W.heap[pb]? = some (pO d g) ∧ Below w.heap.size w W) := fun W hW => ⟨(hW.kept _ _ _ _ hh9 (by decide) (by decide)).trans hh9, hbw9.trans (hW.bel.mono hwB2)⟩
      have HGE : Hid (∀ W, Gd B2 w9 W → Lies kL W p1 (blkL F 4 L) ∧ Kg.Pw W) := fun W hW => ⟨own_lies kL_ok (unhide HNE).symm (gd_own hE9 hW (by decide) (by decide)), (unhide HPW).below (hbw9.trans (hW.bel.mono hwB2))⟩
      have HGS : Hid (∀ W, Gd B2 w9 W → Lies kL W p2 (blkL F 5 L) ∧ Kg.Pw W) := fun W hW => ⟨own_lies kL_ok (unhide HNS).symm (gd_own hS9 hW (by decide) (by decide)), (unhide HPW).below (hbw9.trans (hW.bel.mono hwB2))⟩
      have D1 := hide (pblock_any hG9 d hd (txB [73, 110, 99, 111, 109, 101]) (c := c1) (unhide HNE).symm (unhide HGE) (blkL_isA F 4 L) A (unhide HAA) (by have := unhide HLE; simp; omega))
      have l9 := run_ldP hh9
      unfold pV at l9 D1
      have hw9' : w8.alloc (.cells #[.int .i64 (d : Int), .pointer (some ⟨g, 0, none⟩)] 130) = w9 := hw9.symm
      have HPB := hide hpb
      have HB29 : Hid (B2 ≤ w9.heap.size) := Nat.le_trans hB28 b89.size
      clear hw9 b89 hh9 hG9 hb79 hE9 hS9 hbw9 hwB2 hpb hB2 hG8 hb8 hB28
      unfold pV
      go_upto_region 12 with fail
      rw [← unhide HPB]
      clear hw9'
      go_wp2_with fail
      refine (unhide D1).mono ?_
      rintro e w10 ⟨⟨v10, rfl⟩, hG10, hd10⟩
      have D2 := hide (pblock_any hG10 d hd (txB [69, 120, 112, 101, 110, 115, 101]) (c := c2) (unhide HNS).symm (fun W hW => unhide HGS W (hd10.trans hW)) (blkL_isA F 5 L) B (unhide HBA) (by have := unhide HLE; have := unhide HLS; have := unhide HNE; rw [List.length_append, blkR_len]; simp; omega))
      have l10 := run_ldP (unhide HGP w10 hd10).1
      unfold pV at l10 D2
      have HD10 := hide hd10
      clear hG10 hd10 D1 l9
      go_wp2_with fail
      refine (unhide D2).mono ?_
      rintro e w11 ⟨⟨v11, rfl⟩, hG11, hd11⟩
      have hd911 := (unhide HD10).trans hd11
      have D3 := hide (pair_any hG11 d hd (txB [82, 101, 115, 117, 108, 116]) C (unhide HCA) (unhide HGE w11 hd911).2 (by have := unhide HLE; have := unhide HLS; have := unhide HNE; have := unhide HNS; rw [List.length_append, List.length_append, blkR_len, blkR_len]; simp; omega))
      have l11 := run_ldP (unhide HGP w11 hd911).1
      unfold pV at l11 D3
      have HD11 := hide hd911
      clear hG11 hd11 hd911 D2 l10
      go_wp2_with (go_at_call 94; refine (unhide D3).mono ?_; rintro e w12 ⟨⟨v12, rfl⟩, hG12, hd12⟩; have HGRD : Hid (Gr B2 w12 g [0, 1] (incR d (blkL F 4 L) (blkL F 5 L) A B C)) := hG12; have HD12 := hide ((unhide HD11).trans hd12); clear hG12 hd12 D3 l11)
      have HCC : Hid (∀ W, Below w12.heap.size w12 W → W.cell? ⟨pb, 1, none⟩ = some (.pointer (some ⟨g, 0, none⟩)) ∧ Kg.Pw W ∧ Dy.Mon W ∧ Below w.heap.size w W) := fun W hb => by
        obtain ⟨q1, q2⟩ := unhide HGP w12 (unhide HD12)
        have h1 := q2.trans (hb.mono q2.size)
        exact ⟨by rw [cell_at ((hb.block _ (Array.getElem?_eq_some_iff.1 q1).1).trans q1)]; rfl, (unhide HPW).below h1, (unhide HMO).below h1, h1⟩
      obtain ⟨T1, hT1⟩ : ∃ T, T = txB (dtx fr) := ⟨_, rfl⟩
      obtain ⟨T2, hT2⟩ : ∃ T, T = txB (dtx tt) := ⟨_, rfl⟩
      obtain ⟨T3, hT3⟩ : ∃ T, T = txB (gridT (rgt [0, 1]) (incR d (blkL F 4 L) (blkL F 5 L) A B C)) := ⟨_, rfl⟩
      have z1 : T1.size ≤ 100 := by rw [hT1, txB_len]; exact dtx_len fr
      have z2 : T2.size ≤ 100 := by rw [hT2, txB_len]; exact dtx_len tt
      have hcnt := incR_count d (blkL F 4 L) (blkL F 5 L) A B C
      have z3 : T3.size ≤ 100000000000 := by
        rw [hT3, txB_len]
        have := grid_len (rgt [0, 1]) (incR_two d (blkL F 4 L) (blkL F 5 L) A B C) (incR_cell hd (unhide HLBE) (unhide HLBS) A B C)
        rw [hcnt, ← unhide HNE, ← unhide HNS] at this
        have := unhide HLE; have := unhide HLS
        omega
      have k1 : ¬ 9223372036854775807 < 5 + T1.size := by omega
      have k2 : ¬ 9223372036854775807 < 5 + T1.size + 4 := by omega
      have k3 : ¬ 9223372036854775807 < 5 + T1.size + 4 + T2.size := by omega
      have k4 : ¬ 9223372036854775807 < 5 + T1.size + 4 + T2.size + 1 := by omega
      have k5 : ¬ 9223372036854775807 < 5 + T1.size + 4 + T2.size + 1 + T3.size := by omega
      have HT1 := hide hT1; have HT2 := hide hT2; have HT3 := hide hT3; have HCNT := hide hcnt
      clear z1 z2 z3 hT1 hT2 hT3 hcnt
      have hs0 := (unhide HCC w12.drew (below_drewN (Below.refl _ _) 1)).1
      refine wp_region_last (n := 14) (S := fun W => W.cell? ⟨pb, 1, none⟩ = some (.pointer (some ⟨g, 0, none⟩))) (by kernel_rfl) hs0 (fun hHeld => ?_)
      clear hs0
      refine tkW 0 ?_; refine tkW 4 ?_; refine tkW 8 ?_
      refine tkN 9 ?_
      clear hHeld
      have pm := unhide HCC (w12.drewN 1) (below_drewN (Below.refl _ _) 1)
      have DT1 := dayText_any fr (unhide HFD) (w12.drewN 1) pm.2.2.1 pm.2.1
      unfold TxtOut at DT1
      rw [← unhide HT1] at DT1
      have DT1 := hide DT1
      clear pm
      refine wpAnyL_one (i := 1) (by kernel_rfl) rfl (fun KK hK => ?_)
      go_simp
      go_wp2_with (go_at_call 95; refine (unhide DT1).mono ?_; rintro e w13 ⟨rfl, hb13⟩)
      have hb1213 : Below w12.heap.size w12 w13 := (below_drewN (Below.refl _ _) 1).trans hb13
      have HB13 := hide hb1213
      refine hK.out _ _ (unhide HCC w13 hb1213).1 (fun hHeld => ?_)
      clear hK KK hb13 hb1213 DT1
      refine tkW 2 ?_; refine tkW 3 ?_
      clear hHeld
      have pm := unhide HCC w13 (unhide HB13)
      have DT2 := dayText_any tt (unhide HTD) w13 pm.2.2.1 pm.2.1
      unfold TxtOut at DT2
      rw [← unhide HT2] at DT2
      have DT2 := hide DT2
      clear pm
      refine wpAnyL_one (i := 5) (by kernel_rfl) rfl (fun KK hK => ?_)
      go_simp
      go_wp2_with (go_at_call 95; refine (unhide DT2).mono ?_; rintro e w14 ⟨rfl, hb14⟩)
      have hb1214 : Below w12.heap.size w12 w14 := (unhide HB13).trans (hb14.mono (unhide HB13).size)
      have HB14 := hide hb1214
      refine hK.out _ _ (unhide HCC w14 hb1214).1 (fun hHeld => ?_)
      clear hK KK hb14 hb1214 DT2
      refine tkW 6 ?_; refine tkW 7 ?_
      clear hHeld
      have DG2 := (gtext_of ((unhide HGRD).below (unhide HB14)) (by decide) (incR_two d _ _ _ _ _) (M := 200) (incR_cell hd (unhide HLBE) (unhide HLBS) A B C) (by decide) (by rw [unhide HCNT, ← unhide HNE, ← unhide HNS]; have := unhide HLE; have := unhide HLS; show _ * (2 * _ + 1) ≤ _; omega) (by rw [unhide HCNT, ← unhide HNE, ← unhide HNS]; have := unhide HLE; have := unhide HLS; omega))
      unfold TxtOut at DG2
      rw [← unhide HT3] at DG2
      have DG2 := hide DG2
      refine wpAnyL_one (i := 10) (by kernel_rfl) rfl (fun KK hK => ?_)
      go_simp
      go_wp2_with (go_at_call 51; refine (unhide DG2).mono ?_; rintro e w15 ⟨rfl, hb15⟩)
      have hb1215 : Below w12.heap.size w12 w15 := (unhide HB14).trans (hb15.mono (unhide HB14).size)
      have HB15 := hide hb1215
      refine hK.out _ _ (unhide HCC w15 hb1215).1 (fun hHeld => ?_)
      clear hK KK hb15 hb1215 DG2
      refine tkW 11 ?_; refine tkW 12 ?_; refine tkW 13 ?_
      clear hHeld
      refine wpAnyL_done (by kernel_rfl) ?_
      go_wp2_with fail
      go_ret2
      have HANS : ansI (d : Int) L R fr tt = (incT d L F fr tt, 0) := by
        have e : errI (d : Int) L R fr tt = 0 := by
          unfold errI
          rw [if_neg (unhide HNB), if_neg (by rw [unhide HEZ]; simp), ← unhide HFV, ← unhide HOV]
        unfold ansI
        rw [if_pos e, ← unhide HFV]
        rfl
      refine ⟨?_, (unhide HCC w15 (unhide HB15)).2.2.2⟩
      have e : (⟨#[70, 114, 111, 109, 32]⟩ : ByteArray) ++ T1 ++ ⟨#[32, 116, 111, 32]⟩ ++ T2 ++ ⟨#[10]⟩ ++ T3 = txB (incT d L F fr tt) := by
        have ea : iA F L = A := (unhide HAV).symm
        have eb : iB F L = B := (unhide HBV).symm
        have ec : iC F L = C := by unfold iC; rw [ea, eb]; exact (unhide HCV).symm
        unfold incT hdrI
        rw [ea, eb, ec, ← txB_app, ← txB_app, ← txB_app, ← txB_app, ← txB_app, unhide HT1, unhide HT2, unhide HT3]
        rfl
      rw [HANS]
      show _ = Ending.returned (.tuple #[.string (txB (incT d L F fr tt)), .int .i64 0])
      rw [← e]
      rfl
    · have hob : (O != 0) = true := by rw [bne_iff_ne]; exact hO0
      have HE : Hid (ansI (d : Int) L R fr tt = ([], O)) := by
        have e : errI (d : Int) L R fr tt = O := by
          unfold errI
          rw [if_neg (unhide HNB), if_neg (by rw [unhide HEZ]; simp), ← unhide HFV, ← unhide HOV]
        show _ = _
        unfold ansI
        rw [e, if_neg hO0]
      go_upto_region 10 with fail
      have c1 := unhide HC7 w7.drew (below_drewN (Below.refl _ _) 1)
      refine wp_region_last (n := 6) (S := fun W => W.cell? ⟨bb, 2, none⟩ = some (.int .i64 O)) (by kernel_rfl) c1 (fun hHeld => ?_)
      refine tkW 0 ?_; refine tkW 1 ?_; refine tkW 2 ?_
      refine tkN 3 ?_
      refine tkW 4 ?_; refine tkW 5 ?_
      refine wpAnyL_done (by kernel_rfl) ?_
      go_wp2_with fail
      go_ret2
      exact ⟨by rw [unhide HE]; rfl, (unhide HB7).trans ((below_drewN (Below.refl _ _) 1).mono (unhide HB7).size)⟩
  · have hzb : (errC L R != 0) = true := by rw [bne_iff_ne]; exact hez
    have HE : Hid (ansI (d : Int) L R fr tt = ([], errC L R)) := by
      have e : errI (d : Int) L R fr tt = errC L R := by unfold errI; rw [if_neg (unhide HNB), if_pos hez]
      show _ = _
      unfold ansI
      rw [e, if_neg hez]
    obtain ⟨E, hE⟩ : ∃ z, z = errC L R := ⟨_, rfl⟩
    rw [← hE] at HE hzb ⊢
    have HB := hide hb1
    clear hb1 hE DC hez
    go_wp2_with fail
    go_ret2
    exact ⟨by rw [unhide HE]; rfl, unhide HB⟩
theorem income_any {w : World} (hP : Kg.Pw w) (hM : Dy.Mon w) {pa : Option Addr} {na ca : Nat} {L : List Ch.Ac} (hL : L.length = na) (hLL : Lies Ch.kA w pa L) (hna : na ≤ 1048576) (hsz : ∀ a ∈ L, (Ch.txN a.nm).size ≤ 1048576) (hty : ∀ a ∈ L, fits64 a.ty) {pr : Option Addr} {nr cr : Nat} {R : List Po} (hR : R.length = nr) (hLR : Lies kU w pr R) (hok : ∀ r ∈ R, PoOk r) (hnr : nr ≤ 1048576) (fr tt : Int) (hfr : fits64 fr) (htt : fits64 tt) (dg : Int) (hdg : fits64 dg) :
    Calls Tryz.prog 26 #[.slice pa na ca, .slice pr nr cr, .int .i64 fr, .int .i64 tt, .int .i64 dg] w (TriOut w (ansI dg L R fr tt)) := by
  by_cases hb : dg < 0 ∨ 6 < dg ∨ isDb fr = false ∨ isDb tt = false ∨ tt < fr
  · exact income_bad fr tt hfr htt dg hdg hb
  · have e : ((dg.toNat : Nat) : Int) = dg := by omega
    have h := income_good hP hM (ca := ca) (cr := cr) hL hLL hna hsz hty hR hLR hok hnr fr tt dg.toNat (by omega) (by simpa using (fun h => hb (.inr (.inr (.inl h))))) (by simpa using (fun h => hb (.inr (.inr (.inr (.inl h)))))) (by omega)
    rw [e] at h
    exact h
end Go.Proofs.YtcafhmlpmbkhkaaGreatDoor
/- The document's Income (27): its rows. -/
namespace Go.Proofs.YtcafhmlpmbkhkaaGreatDoor
open Go Go.Shelf Go.ChangeShapes Go.WideShapes Go.ChangeAt Go.RowKit Go.Maps
set_option linter.unusedVariables false
set_option linter.unusedSimpArgs false
/-- its parts -/
def dI (L : List Ch.Ac) (R : List Po) (fr tt : Int) : List Int := amsL L fr tt 4 ⟨#[]⟩ true R
def dS (L : List Ch.Ac) (R : List Po) (fr tt : Int) : List Int := amsL L fr tt 5 ⟨#[]⟩ false R
def dN (L : List Ch.Ac) (R : List Po) (fr tt : Int) : List Int := amsL L fr tt 5 ⟨#[]⟩ true R
def gI (L : List Ch.Ac) (R : List Po) (fr tt : Int) : Ch.Ac → List Int := fun a => amsL L fr tt 4 (Ch.txN a.nm) true R
def gS (L : List Ch.Ac) (R : List Po) (fr tt : Int) : Ch.Ac → List Int := fun a => amsL L fr tt 5 (Ch.txN a.nm) false R
def ovD (L : List Ch.Ac) (R : List Po) (fr tt : Int) : Bool := ovr (ovr (rbO (gS L R fr tt) 5 (ovr (rbO (gI L R fr tt) 4 false L) (dI L R fr tt)) L) (dS L R fr tt)) (dI L R fr tt ++ dN L R fr tt)
def rowsD (d : Nat) (L : List Ch.Ac) (R : List Po) (fr tt : Int) : List (List Tx) :=
  ((([[(txB [73, 110, 99, 111, 109, 101]).data.toList]] ++ rbR (gI L R fr tt) 4 d L) ++ [[(txB [83, 117, 109]).data.toList, txt (sumL (dI L R fr tt)).1 d]]) ++ ([[(txB [69, 120, 112, 101, 110, 115, 101]).data.toList]] ++ rbR (gS L R fr tt) 5 d L) ++ [[(txB [83, 117, 109]).data.toList, txt (sumL (dS L R fr tt)).1 d]]) ++ [[(txB [82, 101, 115, 117, 108, 116]).data.toList, txt (sumL (dI L R fr tt ++ dN L R fr tt)).1 d]]
noncomputable def hdD (fr tt : Int) : Tx := [70, 114, 111, 109, 32] ++ dtx fr ++ [32, 116, 111, 32] ++ dtx tt
noncomputable def ansJ (dg : Int) (L : List Ch.Ac) (R : List Po) (fr tt : Int) : Tx × Int := if rngE dg L R fr tt = 0 then shtA (ovD L R fr tt) (hdD fr tt) (rowsD dg.toNat L R fr tt) else ([], rngE dg L R fr tt)
theorem rowsD_two (d : Nat) (L : List Ch.Ac) (R : List Po) (fr tt : Int) : ∀ r ∈ rowsD d L R fr tt, r.length ≤ 2 := by
  intro r hr
  unfold rowsD at hr
  simp only [List.mem_append, List.mem_singleton] at hr
  rcases hr with ((((rfl | hr) | rfl) | (rfl | hr)) | rfl) | rfl
  · show 1 ≤ 2; omega
  · exact rbR_two _ _ _ _ r hr
  · exact Nat.le_refl _
  · show 1 ≤ 2; omega
  · exact rbR_two _ _ _ _ r hr
  · exact Nat.le_refl _
  · exact Nat.le_refl _
theorem rowsD_cell {d : Nat} (hd : d ≤ 6) {L : List Ch.Ac} (h : ∀ a ∈ L, (Ch.txN a.nm).size ≤ 101) (R : List Po) (fr tt : Int) : ∀ r ∈ rowsD d L R fr tt, ∀ x ∈ r, x.length ≤ 200 := by
  have tb : ∀ T : Tx, (txB T).data.toList.length = T.length := fun T => by simp [txB]
  intro r hr
  unfold rowsD at hr
  simp only [List.mem_append, List.mem_singleton] at hr
  rcases hr with ((((rfl | hr) | rfl) | (rfl | hr)) | rfl) | rfl
  · intro x hx; rw [List.mem_singleton] at hx; subst hx; rw [tb]; decide
  · exact rbR_cell _ _ hd _ h r hr
  · intro x hx
    simp only [List.mem_cons, List.not_mem_nil, or_false] at hx
    rcases hx with rfl | rfl
    · rw [tb]; decide
    · have := txt_len (sumL (dI L R fr tt)).1 d hd; omega
  · intro x hx; rw [List.mem_singleton] at hx; subst hx; rw [tb]; decide
  · exact rbR_cell _ _ hd _ h r hr
  · intro x hx
    simp only [List.mem_cons, List.not_mem_nil, or_false] at hx
    rcases hx with rfl | rfl
    · rw [tb]; decide
    · have := txt_len (sumL (dS L R fr tt)).1 d hd; omega
  · intro x hx
    simp only [List.mem_cons, List.not_mem_nil, or_false] at hx
    rcases hx with rfl | rfl
    · rw [tb]; decide
    · have := txt_len (sumL (dI L R fr tt ++ dN L R fr tt)).1 d hd; omega
theorem rowsD_count (d : Nat) (L : List Ch.Ac) (R : List Po) (fr tt : Int) : (rowsD d L R fr tt).length = (rbR (gI L R fr tt) 4 d L).length + (rbR (gS L R fr tt) 5 d L).length + 5 := by
  unfold rowsD
  simp only [List.length_append, List.length_singleton]
  omega
end Go.Proofs.YtcafhmlpmbkhkaaGreatDoor
/- The document's Income (27): the walk. -/
namespace Go.Proofs.YtcafhmlpmbkhkaaGreatDoor
open Go Go.Shelf Go.ChangeShapes Go.WideShapes Go.ChangeAt Go.RowKit Go.Maps
set_option linter.unusedVariables false
set_option linter.unusedSimpArgs false
set_option maxRecDepth 100000 in
set_option maxHeartbeats 16000000 in
theorem rincome_any {w : World} {pa : Option Addr} {na ca : Nat} {L : List Ch.Ac} (hL : L.length = na) (hLL : Lies Ch.kA w pa L) (hpc : pa = none → ca = 0) (hna : na ≤ 1048576) (hsz : ∀ a ∈ L, (Ch.txN a.nm).size ≤ 1048576) (hty : ∀ a ∈ L, fits64 a.ty) {pr : Option Addr} {nr crr : Nat} {R : List Po} (hR : R.length = nr) (hLR : Lies kU w pr R) (hok : ∀ r ∈ R, PoOk r) (hnr : nr ≤ 1048576) (fr tt : Int) (hfr : fits64 fr) (htt : fits64 tt) (dg : Int) (hdg : fits64 dg) :
    Calls Tryz.prog 27 #[.slice pa na ca, .slice pr nr crr, .int .i64 fr, .int .i64 tt, .int .i64 dg] w (TriOut w (ansJ dg L R fr tt)) := by
  have D0 := range_any (ca := ca) (cr := crr) hL hLL hpc hna hsz hR hLR hok hnr fr tt hfr htt dg hdg
  obtain ⟨E, hE⟩ : ∃ E, E = rngE dg L R fr tt := ⟨_, rfl⟩
  rw [← hE] at D0
  have D0 := hide D0
  by_cases hE0 : E = 0
  · subst hE0
    have hE2 := hE.symm
    unfold rngE at hE2
    split at hE2
    · cases hE2
    · rename_i hb
      have hG := errC_good hE2
      have hia := fault_isA hE2 hok
      have hnm := good_names hG
      have hlen : na ≤ 100 := by rw [← hL]; exact hG.len
      have hfD : isD fr := (isDb_iff fr).1 (by simpa using (fun h => hb (.inr (.inr (.inl h)))))
      have htD : isD tt := (isDb_iff tt).1 (by simpa using (fun h => hb (.inr (.inr (.inr (.inl h))))))
      obtain ⟨d, rfl⟩ : ∃ d : Nat, dg = (d : Int) := ⟨dg.toNat, by omega⟩
      have hd : d ≤ 6 := by omega
      have HANS : Hid (ansJ (d : Int) L R fr tt = shtA (ovD L R fr tt) (hdD fr tt) (rowsD d L R fr tt)) := by
        show _ = _
        unfold ansJ
        rw [if_pos hE.symm]
        rfl
      have HL := hide hL; have HLL := hide hLL; have HNA := hide hlen; have HSZ := hide hsz; have HTY := hide hty; have HR := hide hR; have HLR := hide hLR; have HIA := hide hia; have HNR := hide hnr; have HFD := hide hfD; have HTD := hide htD; have HNM := hide hnm; have HD := hide hd
      clear hL hLL hpc hna hsz hty hR hLR hok hnr hE hE2 hb hG hia hnm hlen hfD htD hfr htt hdg
      go_enter Tryz.func27, Tryz.ntmps27
      go_wp2_with fail
      refine (unhide D0).mono ?_
      rintro e w1 ⟨⟨v1, rfl⟩, hb1⟩
      clear D0
      obtain ⟨kb, hkb⟩ : ∃ k, k = w1.heap.size := ⟨_, rfl⟩
      obtain ⟨w2, hw2⟩ : ∃ W, W = w1.alloc (bkO pa na ca pr nr crr fr tt false) := ⟨_, rfl⟩
      have b12 : Below w1.heap.size w1 w2 := by rw [hw2]; exact bal (Below.refl _ _) _
      have hbk2 : w2.heap[kb]? = some (bkO pa na ca pr nr crr fr tt false) := by rw [hw2, hkb]; exact heap_new _ _
      have hb2 : Below w.heap.size w w2 := hb1.trans (b12.mono hb1.size)
      have hwk : w.heap.size ≤ kb := by rw [hkb]; exact hb1.size
      have hkw2 : kb < w2.heap.size := (Array.getElem?_eq_some_iff.1 hbk2).1
      have HLI : Hid (∀ W, Below w.heap.size w W → Lies Ch.kA W pa L ∧ Lies kU W pr R) := fun W hb => ⟨(unhide HLL).below hb, (unhide HLR).below hb⟩
      have HGB : Hid (∀ W W' : World, Below w.heap.size w W → kb < W.heap.size → W.grownBy W' (some kb) → Below w.heap.size w W') := fun W W' h1 h2 h3 => h1.trans (grown_bel h3 hwk h2)
      have hw2' : w1.alloc (.cells #[.slice pa na ca, .slice pr nr crr, .int .i64 fr, .int .i64 tt, .bool false] 157) = w2 := by rw [hw2]; rfl
      have l2 := unhide HLI w2 hb2
      have D1 := hide (amounts_any hbk2 (unhide HL) l2.1 (unhide HNA) (unhide HR) l2.2 (unhide HIA) (unhide HNR) 4 ⟨#[]⟩ true)
      have HBK2 := hide hbk2; have HB2 := hide hb2; have HKW2 := hide hkw2; have HKB := hide hkb
      clear hw2 b12 hbk2 hb2 hwk hkw2 l2 hb1 hkb
      go_upto_region 5 with fail
      rw [← unhide HKB]
      clear hw2'
      go_wp2_with fail
      refine (unhide D1).mono ?_
      rintro e w3 ⟨p1, c1, rfl, hA1⟩
      have hk3 : w3.heap[kb]? = some (bkO pa na ca pr nr crr fr tt false) := (hA1.bel.block _ (unhide HKW2)).trans (unhide HBK2)
      have hb3 : Below w.heap.size w w3 := (unhide HB2).trans (hA1.bel.mono (unhide HB2).size)
      have l3 := unhide HLI w3 hb3
      have D2 := hide (amounts_any hk3 (unhide HL) l3.1 (unhide HNA) (unhide HR) l3.2 (unhide HIA) (unhide HNR) 5 ⟨#[]⟩ false)
      obtain ⟨M1, hM1⟩ : ∃ M, M = (dI L R fr tt).length := ⟨_, rfl⟩
      have hI3 : w3.ownsRow w2.heap.size 2 1 (.slice p1 M1 c1) M1 (kN.flat (dI L R fr tt)) := by rw [hM1]; exact hA1.own
      rw [show (amsL L fr tt 4 ⟨#[]⟩ true R).length = M1 from hM1.symm]
      have HB3 := hide hb3; have HK3 := hide hk3; have HI3 := hide hI3; have HM1 := hide hM1
      clear hk3 hb3 l3 hI3 hM1 hA1 D1
      go_wp2_with fail
      refine (unhide D2).mono ?_
      rintro e w4 ⟨p2, c2, rfl, hA2⟩
      have hk4 : w4.heap[kb]? = some (bkO pa na ca pr nr crr fr tt false) := (hA2.bel.block _ (Array.getElem?_eq_some_iff.1 (unhide HK3)).1).trans (unhide HK3)
      have hb4 : Below w.heap.size w w4 := (unhide HB3).trans (hA2.bel.mono (unhide HB3).size)
      have hkw4 : kb < w4.heap.size := (Array.getElem?_eq_some_iff.1 hk4).1
      obtain ⟨M2, hM2⟩ : ∃ M, M = (dS L R fr tt).length := ⟨_, rfl⟩
      have HI4 := hide (own_below (unhide HI3) hA2.bel)
      have HS4 : Hid (w4.ownsRow w3.heap.size 2 1 (.slice p2 M2 c2) M2 (kN.flat (dS L R fr tt))) := by show World.ownsRow _ _ _ _ _ _ _; rw [hM2]; exact hA2.own
      rw [show (amsL L fr tt 5 ⟨#[]⟩ false R).length = M2 from hM2.symm]
      have D3 := hide (rblock_any (ov := false) (kb := kb) hk4 (unhide HL) (unhide HNA) (unhide HSZ) (unhide HTY) (unhide HR) (unhide HIA) (unhide HNR) (fun W hW => unhide HLI W (unhide HGB w4 W hb4 hkw4 hW)) (txB [73, 110, 99, 111, 109, 101]) 4 (by unfold fits64; omega) true d (unhide HD))
      have HB4 := hide hb4; have HK4 := hide hk4; have HKW4 := hide hkw4; have HM2 := hide hM2
      have HKI : Hid (∀ W, w4.grownBy W (some kb) → W.ownsRow w2.heap.size 2 1 (.slice p1 M1 c1) M1 (kN.flat (dI L R fr tt)) ∧ W.ownsRow w3.heap.size 2 1 (.slice p2 M2 c2) M2 (kN.flat (dS L R fr tt)) ∧ Below w.heap.size w W) := fun W hW => by
        have h := hk4
        unfold bkO at h
        exact ⟨own_kept (unhide HI4) h (by decide) hW, own_kept (unhide HS4) h (by decide) hW, unhide HGB w4 W hb4 hkw4 hW⟩
      have hm1 : M1 ≤ 104857600 := by
        have h1 := amsL_len (L := L) (by have := unhide HL; have := unhide HNA; omega) fr tt 4 ⟨#[]⟩ true R
        have h2 : M1 = (amsL L fr tt 4 ⟨#[]⟩ true R).length := unhide HM1
        have := unhide HR; have := unhide HNR
        omega
      have hm2 : M2 ≤ 104857600 := by
        have h1 := amsL_len (L := L) (by have := unhide HL; have := unhide HNA; omega) fr tt 5 ⟨#[]⟩ false R
        have h2 : M2 = (amsL L fr tt 5 ⟨#[]⟩ false R).length := unhide HM2
        have := unhide HR; have := unhide HNR
        omega
      have HMM1 := hide hm1; have HMM2 := hide hm2
      have hll : L.length ≤ 100 := by have := unhide HL; have := unhide HNA; omega
      have HLL100 := hide hll
      clear hk4 hb4 hkw4 hM2 hA2 D2 HI3 HK3 hm1 hm2 hll
      go_wp2_with fail
      refine (unhide D3).mono ?_
      rintro e w5 ⟨p3, c3, rfl, hR5⟩
      have r5 : RiAt w4 pa na ca pr nr crr fr tt kb _ _ _ w5 := ⟨hR5.bk, hR5.rl, hR5.grw⟩
      obtain ⟨i5, -, hb5⟩ := unhide HKI w5 r5.grw
      have D4 := hide (rline_any r5.bk (txB [83, 117, 109]) (unhide HM1).symm i5 (amsL_isA (unhide HIA)) (by have := unhide HMM1; omega) d (unhide HD))
      have hn3 := rbR_len (gI L R fr tt) 4 d L
      obtain ⟨M3, hM3⟩ : ∃ M, M = (rbR (gI L R fr tt) 4 d L).length := ⟨_, rfl⟩
      rw [← hM3] at hn3
      have HM3 := hide hM3; have HN3 : Hid (M3 ≤ 100) := by have := unhide HLL100; show _ ≤ _; omega
      have HR5 : Hid (RiAt w4 pa na ca pr nr crr fr tt kb (rbO (gI L R fr tt) 4 false L) ([[(txB [73, 110, 99, 111, 109, 101]).data.toList]] ++ rbR (gI L R fr tt) 4 d L) (.slice p3 (M3 + 1) c3) w5) := by
        rw [hM3]
        exact r5
      rw [show (rbR (fun a => amsL L fr tt 4 (Ch.txN a.nm) true R) 4 d L).length = M3 from hM3.symm]
      clear hR5 r5 i5 hb5 D3 hn3 hM3
      go_wp2_with fail
      refine (unhide D4).mono ?_
      rintro e w6 ⟨g6, rfl, hr6, hk6, hg6⟩
      have r6 := (unhide HR5).next hk6 hg6
      obtain ⟨p7, c7, w7, run7, r7⟩ := r6.app (unhide HKW4) hr6 (by have := unhide HN3; have := unhide HM3; simp only [List.length_append, List.length_singleton]; omega)
      have el7 : ([[(txB [73, 110, 99, 111, 109, 101]).data.toList]] ++ rbR (gI L R fr tt) 4 d L).length + 1 = M3 + 2 := by
        have := unhide HM3
        simp only [List.length_append, List.length_singleton]; omega
      rw [el7] at run7 r7
      have HRUN7 := hide run7; have HR7 := hide r7
      clear hr6 hk6 hg6 r6 run7 r7 el7 D4 HR5
      obtain ⟨-, -, hb7⟩ := unhide HKI w7 (unhide HR7).grw
      have D5 := hide (rblock_any (unhide HR7).bk (unhide HL) (unhide HNA) (unhide HSZ) (unhide HTY) (unhide HR) (unhide HIA) (unhide HNR) (fun W hW => unhide HLI W (unhide HGB w7 W hb7 (unhide HR7).bk.lt hW)) (txB [69, 120, 112, 101, 110, 115, 101]) 5 (by unfold fits64; omega) false d (unhide HD))
      clear hb7
      go_upto_region 9 with (at_builtin; refine wpList_append_run rfl _ _ 94 rfl _ _ _ _ rfl rfl (unhide HRUN7) ?_)
      clear HRUN7
      go_wp2_with (go_at_call 110; refine (unhide D5).mono ?_)
      rintro e w8 ⟨p8, c8, rfl, hR8⟩
      have r8 := (unhide HR7).next hR8.bk hR8.grw
      have hn8 := rbR_len (gS L R fr tt) 5 d L
      obtain ⟨M8, hM8⟩ : ∃ M, M = (rbR (gS L R fr tt) 5 d L).length := ⟨_, rfl⟩
      rw [← hM8] at hn8
      have HN8 : Hid (M8 ≤ 100) := by have := unhide HLL100; show _ ≤ _; omega
      have hrl8 := hR8.rl
      rw [show (rbR (fun a => amsL L fr tt 5 (Ch.txN a.nm) false R) 5 d L).length = M8 from hM8.symm] at hrl8 ⊢
      have ln7 : (([[(txB [73, 110, 99, 111, 109, 101]).data.toList]] ++ rbR (gI L R fr tt) 4 d L) ++ [[(txB [83, 117, 109]).data.toList, txt (sumL (dI L R fr tt)).1 d]]).length = M3 + 2 := by
        have := unhide HM3
        simp only [List.length_append, List.length_singleton]; omega
      have ln8 : ([[(txB [69, 120, 112, 101, 110, 115, 101]).data.toList]] ++ rbR (gS L R fr tt) 5 d L).length = M8 + 1 := by
        simp only [List.length_append, List.length_singleton]; omega
      obtain ⟨p9, c9, w9, run9, r9⟩ := r8.all (unhide HKW4) hrl8 ln8 (by have := unhide HN3; have h1 := unhide HN8; show (([[(txB [73, 110, 99, 111, 109, 101]).data.toList]] ++ rbR (gI L R fr tt) 4 d L) ++ [[(txB [83, 117, 109]).data.toList, txt (sumL (dI L R fr tt)).1 d]]).length + ([[(txB [69, 120, 112, 101, 110, 115, 101]).data.toList]] ++ rbR (gS L R fr tt) 5 d L).length ≤ _; rw [ln7, ln8]; omega)
      have run9' : (Builtin.append_ #[94, 94] 94 #[.slice p7 (M3 + 2) c7, .slice p8 (M8 + 1) c8]).run Tryz.prog w8 = .ok (.slice p9 (M3 + 2 + (M8 + 1)) c9) w9 := by rw [← ln7]; rw [← ln7] at run9; exact run9
      have HR9 : Hid (RiAt w4 pa na ca pr nr crr fr tt kb (rbO (gS L R fr tt) 5 (ovr (rbO (gI L R fr tt) 4 false L) (dI L R fr tt)) L) ((([[(txB [73, 110, 99, 111, 109, 101]).data.toList]] ++ rbR (gI L R fr tt) 4 d L) ++ [[(txB [83, 117, 109]).data.toList, txt (sumL (dI L R fr tt)).1 d]]) ++ ([[(txB [69, 120, 112, 101, 110, 115, 101]).data.toList]] ++ rbR (gS L R fr tt) 5 d L)) (.slice p9 (M3 + 2 + (M8 + 1)) c9) w9) := by
        rw [← ln7]
        exact r9
      have HRUN9 := hide run9'
      obtain ⟨M9, hM9⟩ : ∃ M, M = M3 + 2 + (M8 + 1) := ⟨_, rfl⟩
      rw [← hM9] at HRUN9 HR9
      have HM9 := hide hM9
      have HLN9 : Hid (((([[(txB [73, 110, 99, 111, 109, 101]).data.toList]] ++ rbR (gI L R fr tt) 4 d L) ++ [[(txB [83, 117, 109]).data.toList, txt (sumL (dI L R fr tt)).1 d]]) ++ ([[(txB [69, 120, 112, 101, 110, 115, 101]).data.toList]] ++ rbR (gS L R fr tt) 5 d L)).length = M9) := by
        show _ = _
        rw [List.length_append, ln7, ln8, hM9]
      have HM8 := hide hM8
      clear run9 run9' r9 ln7 ln8 hrl8 hn8 hM8 hR8 r8 D5 HR7 hM9
      go_upto_region 10 with (at_builtin; refine wpList_append_run rfl _ _ 94 rfl _ _ _ _ rfl rfl (unhide HRUN9) ?_)
      clear HRUN9
      obtain ⟨-, s9, -⟩ := unhide HKI w9 (unhide HR9).grw
      have D6 := hide (rline_any (unhide HR9).bk (txB [83, 117, 109]) (unhide HM2).symm s9 (amsL_isA (unhide HIA)) (by have := unhide HMM2; omega) d (unhide HD))
      clear s9
      go_wp2_with (go_at_call 111; refine (unhide D6).mono ?_)
      rintro e w10 ⟨g10, rfl, hr10, hk10, hg10⟩
      have r10 := (unhide HR9).next hk10 hg10
      obtain ⟨p11, c11, w11, run11, r11⟩ := r10.app (unhide HKW4) hr10 (by rw [unhide HLN9]; have := unhide HM9; have := unhide HN3; have := unhide HN8; omega)
      rw [unhide HLN9] at run11 r11
      have HRUN11 := hide run11; have HR11 := hide r11
      clear hr10 hk10 hg10 r10 run11 r11 D6 HR9
      obtain ⟨i11, -, hb11⟩ := unhide HKI w11 (unhide HR11).grw
      obtain ⟨w12, hw12⟩ : ∃ W, W = w11.alloc (.cells #[] 2) := ⟨_, rfl⟩
      have b1112 : Below w11.heap.size w11 w12 := by rw [hw12]; exact bal (Below.refl _ _) _
      have o12 : w12.ownsRow w11.heap.size 2 1 (.slice (some ⟨w11.heap.size, 0, none⟩) 0 0) 0 (kN.flat []) := by
        rw [hw12]
        exact World.ownsRow_lit (base := w11.heap.size) (e := 2) (size := 1) w11 #[] 0 (Nat.le_refl _) (by decide) rfl
      obtain ⟨p13, c13, w13, run13, o13, b1213⟩ := ints_app o12 b1112.size (unhide HM1).symm (own_below i11 b1112) (by have := unhide HMM1; omega)
      rw [Nat.zero_add] at run13 o13
      rw [List.nil_append] at o13
      have b1113 : Below w11.heap.size w11 w13 := b1112.trans b1213
      have r13 := (unhide HR11).below b1113
      have hb13 : Below w.heap.size w w13 := hb11.trans (b1113.mono hb11.size)
      have l13 := unhide HLI w13 hb13
      have k13 := r13.bk
      unfold bkK at k13
      have D7 := hide (amounts_any k13 (unhide HL) l13.1 (unhide HNA) (unhide HR) l13.2 (unhide HIA) (unhide HNR) 5 ⟨#[]⟩ true)
      have hw12' := hw12.symm
      have HRUN13 := hide run13; have HO13 := hide o13; have HB1113 := hide b1113; have HR13 := hide r13; have HB13 := hide hb13
      clear hw12 b1112 o12 b1213 b1113 i11 hb11 run13 o13 r13 hb13 l13 k13
      go_upto_region 11 with (at_builtin; refine wpList_append_run rfl _ _ 94 rfl _ _ _ _ rfl rfl (unhide HRUN11) ?_)
      clear HRUN11
      go_wp2_with (at_builtin; refine wpList_append_run rfl _ _ 92 rfl _ _ _ _ rfl rfl (unhide HRUN13) ?_)
      clear HRUN13 hw12'
      go_wp2_with (go_at_call 109; refine (unhide D7).mono ?_)
      rintro e w14 ⟨p14, c14, rfl, hA14⟩
      obtain ⟨M14, hM14⟩ : ∃ M, M = (dN L R fr tt).length := ⟨_, rfl⟩
      have hm14 : M14 ≤ 104857600 := by
        have h1 := amsL_len (L := L) (by have := unhide HL; have := unhide HNA; omega) fr tt 5 ⟨#[]⟩ true R
        have h2 : M14 = (amsL L fr tt 5 ⟨#[]⟩ true R).length := hM14
        have := unhide HR; have := unhide HNR
        omega
      have o14 : w14.ownsRow w13.heap.size 2 1 (.slice p14 M14 c14) M14 (kN.flat (dN L R fr tt)) := by rw [hM14]; exact hA14.own
      rw [show (amsL L fr tt 5 ⟨#[]⟩ true R).length = M14 from hM14.symm]
      have hb1314 := hA14.bel
      obtain ⟨p15, c15, w15, run15, o15, b1415⟩ := ints_app (own_below (unhide HO13) hb1314) (Nat.le_trans (unhide HB1113).size hb1314.size) hM14.symm o14 (by have := unhide HMM1; omega)
      have b1115 : Below w11.heap.size w11 w15 := ((unhide HB1113).trans (hb1314.mono (unhide HB1113).size)).trans b1415
      have r15 := (unhide HR11).below b1115
      have lIN : (dI L R fr tt ++ dN L R fr tt).length = M1 + M14 := by rw [List.length_append, ← unhide HM1, ← hM14]
      have D8 := hide (rline_any r15.bk (txB [82, 101, 115, 117, 108, 116]) lIN o15 (fun z hz => by
        rcases List.mem_append.1 hz with hz | hz
        · exact amsL_isA (unhide HIA) z hz
        · exact amsL_isA (unhide HIA) z hz) (by have := unhide HMM1; omega) d (unhide HD))
      obtain ⟨M15, hM15⟩ : ∃ M, M = M1 + M14 := ⟨_, rfl⟩
      rw [← hM15] at run15 D8
      have HRUN15 := hide run15; have HR15 := hide r15
      clear run15 o15 b1415 b1115 r15 lIN o14 hb1314 hA14 hM14 hm14 D7 HR11 HO13 HR13 HB13 hM15
      go_wp2_with first | (at_builtin; refine wpList_append_run rfl _ _ 92 rfl _ _ _ _ rfl rfl (unhide HRUN15) ?_; clear HRUN15) | (go_at_call 111; refine (unhide D8).mono ?_)
      rintro e w16 ⟨g16, rfl, hr16, hk16, hg16⟩
      have r16 := (unhide HR15).next hk16 hg16
      have ln11 : (((([[(txB [73, 110, 99, 111, 109, 101]).data.toList]] ++ rbR (gI L R fr tt) 4 d L) ++ [[(txB [83, 117, 109]).data.toList, txt (sumL (dI L R fr tt)).1 d]]) ++ ([[(txB [69, 120, 112, 101, 110, 115, 101]).data.toList]] ++ rbR (gS L R fr tt) 5 d L)) ++ [[(txB [83, 117, 109]).data.toList, txt (sumL (dS L R fr tt)).1 d]]).length = M9 + 1 := by
        rw [List.length_append, unhide HLN9, List.length_singleton]
      obtain ⟨p17, c17, w17, run17, r17⟩ := r16.app (unhide HKW4) hr16 (by rw [ln11]; have := unhide HM9; have := unhide HN3; have := unhide HN8; omega)
      rw [ln11] at run17 r17
      have HRUN17 := hide run17; have HR17 : Hid (RiAt w4 pa na ca pr nr crr fr tt kb (ovD L R fr tt) (rowsD d L R fr tt) (.slice p17 (M9 + 1 + 1) c17) w17) := by
        unfold ovD rowsD
        exact r17
      clear hr16 hk16 hg16 r16 run17 r17 D8 HR15 ln11
      obtain ⟨-, -, hb17⟩ := unhide HKI w17 (unhide HR17).grw
      have D9 := rdate_any fr (unhide HFD) w17
      obtain ⟨T1, hT1⟩ : ∃ T, T = txB (dtx fr) := ⟨_, rfl⟩
      obtain ⟨T2, hT2⟩ : ∃ T, T = txB (dtx tt) := ⟨_, rfl⟩
      have z1 : T1.size ≤ 100 := by rw [hT1, txB_len]; exact dtx_len fr
      have z2 : T2.size ≤ 100 := by rw [hT2, txB_len]; exact dtx_len tt
      unfold TxtOut at D9
      rw [← hT1] at D9
      have k1 : ¬ 9223372036854775807 < 5 + T1.size := by omega
      have k2 : ¬ 9223372036854775807 < 5 + T1.size + 4 := by omega
      have k3 : ¬ 9223372036854775807 < 5 + T1.size + 4 + T2.size := by omega
      have D9 := hide D9; have HT1 := hide hT1; have HT2 := hide hT2; have HB17 := hide hb17
      clear z1 z2 hT1 hT2 hb17
      go_upto_region 12 with (at_builtin; refine wpList_append_run rfl _ _ 94 rfl _ _ _ _ rfl rfl (unhide HRUN17) ?_)
      clear HRUN17
      go_wp2_with (go_at_call 99; refine (unhide D9).mono ?_; rintro e w18 ⟨rfl, hb18⟩; have HB18 := hide hb18; clear hb18 D9)
      have D10 := rdate_any tt (unhide HTD) w18
      unfold TxtOut at D10
      rw [← unhide HT2] at D10
      have D10 := hide D10
      go_wp2_with (go_at_call 99; refine (unhide D10).mono ?_; rintro e w19 ⟨rfl, hb19⟩; have HB19 := hide hb19; clear hb19 D10)
      have b1719 : Below w17.heap.size w17 w19 := (unhide HB18).trans ((unhide HB19).mono (unhide HB18).size)
      have hdl : (hdD fr tt).length ≤ 1000 := by
        have := dtx_len fr; have := dtx_len tt
        unfold hdD
        simp only [List.length_append, List.length_cons, List.length_nil]
        omega
      have lnR : (rowsD d L R fr tt).length = M9 + 1 + 1 := by
        rw [rowsD_count, ← unhide HM3, ← unhide HM8, unhide HM9]
        omega
      have r19 := (unhide HR17).below b1719
      have D11 := rsheet_any r19.bk (hdD fr tt) hdl (c := c17) lnR r19.rl (by have := unhide HM9; have := unhide HN3; have := unhide HN8; omega) (rowsD_two d L R fr tt) (rowsD_cell (unhide HD) (unhide HNM) R fr tt)
      have eh : txB (hdD fr tt) = (⟨#[70, 114, 111, 109, 32]⟩ : ByteArray) ++ T1 ++ ⟨#[32, 116, 111, 32]⟩ ++ T2 := by
        unfold hdD
        rw [← txB_app, ← txB_app, ← txB_app, unhide HT1, unhide HT2]
        rfl
      rw [eh] at D11
      have D11 := hide D11
      have HB1 : Hid (Below w.heap.size w w19) := (unhide HB17).trans (b1719.mono (unhide HB17).size)
      clear b1719 hdl lnR r19 eh
      go_wp2_with (go_at_call 112; refine (unhide D11).mono ?_; rintro e w20 ⟨rfl, hb20⟩; have HB20 := hide hb20; clear hb20 D11)
      go_ret2
      refine ⟨?_, (unhide HB1).trans ((unhide HB20).mono (unhide HB1).size)⟩
      rw [unhide HANS]
      rfl
  · have hb : (E != 0) = true := by rw [bne_iff_ne]; exact hE0
    have HE : Hid (ansJ dg L R fr tt = ([], E)) := by
      show _ = _
      unfold ansJ
      rw [← hE, if_neg hE0]
    clear hL hLL hpc hna hsz hty hR hLR hok hnr hE
    go_enter Tryz.func27, Tryz.ntmps27
    go_wp2_with fail
    refine (unhide D0).mono ?_
    rintro e w1 ⟨⟨v1, rfl⟩, hb1⟩
    have HB := hide hb1
    clear hb1 D0
    go_wp2_with fail
    go_ret2
    exact ⟨by rw [unhide HE]; rfl, unhide HB⟩
end Go.Proofs.YtcafhmlpmbkhkaaGreatDoor
