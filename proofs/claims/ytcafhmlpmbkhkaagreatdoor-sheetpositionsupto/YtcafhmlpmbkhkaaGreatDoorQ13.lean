import Derived.Test.YtcafhmlpmbkhkaaGreatDoorQ11
import Derived.Test.YtcafhmlpmbkhkaaGreatDoorQ12
import Derived.Test.YtcafhmlpmbkhkaaGreatDoorQ09
import Derived.Test.YtcafhmlpmbkhkaaGreatDoorQ10
namespace Go.Proofs.YtcafhmlpmbkhkaaGreatDoor
open Go Go.Shelf Go.ChangeShapes Go.WideShapes Go.ChangeAt Go.RowKit Go.Maps
set_option linter.unusedVariables false
set_option linter.unusedSimpArgs false
theorem res_tot (F : ByteArray → List Int) : ∀ L : List Ch.Ac, (resL F L).sum = -(tot F 4 true L + tot F 5 true L)
  | [] => rfl
  | a :: L => by
    have ih := res_tot F L
    have s1 : sg true (F (Ch.txN a.nm)).sum = -(F (Ch.txN a.nm)).sum := rfl
    rw [resL, tot, tot, s1]
    by_cases h4 : a.ty = 4
    · have h5 : ¬ a.ty = 5 := by omega
      rw [if_pos (.inl h4), if_pos h4, if_neg h5, List.sum_append, ih]
      omega
    · by_cases h5 : a.ty = 5
      · rw [if_pos (.inr h5), if_neg h4, if_pos h5, List.sum_append, ih]
        omega
      · rw [if_neg (fun h => h.elim h4 h5), if_neg h4, if_neg h5, ih]
        omega
theorem resL_isA {F : ByteArray → List Int} (h : ∀ s, ∀ z ∈ F s, isA z) (L : List Ch.Ac) : ∀ z ∈ resL F L, isA z := resL_fit L (fun a _ => h _)
theorem same_position {L : List Ch.Ac} {R : List Po} (hok : ∀ r ∈ R, PoOk r) (dg day : Int) : ansQ dg L R day = ansP dg L R day := by
  unfold ansQ ansP
  by_cases hb : dg < 0 ∨ 6 < dg ∨ isDb day = false
  · have e1 : rngE dg L R day day = 1 := by
      unfold rngE
      rw [if_pos]
      rcases hb with h | h | h
      · exact .inl h
      · exact .inr (.inl h)
      · exact .inr (.inr (.inl h))
    have e2 : errP dg L R day = 1 := by unfold errP; rw [if_pos hb]
    rw [e1, e2, if_neg (by decide), if_neg (by decide)]
  · have e1 : rngE dg L R day day = errC L R := by
      unfold rngE
      rw [if_neg]
      rintro (h | h | h | h | h)
      · exact hb (.inl h)
      · exact hb (.inr (.inl h))
      · exact hb (.inr (.inr h))
      · exact hb (.inr (.inr h))
      · omega
    by_cases hE : errC L R = 0
    · have e2 : errP dg L R day = psO (cntF R 1 day) L := by unfold errP; rw [if_neg hb, if_neg (fun h => h hE)]
      have hG := errC_good hE
      have hR := fault_isA hE hok
      obtain ⟨F, hF⟩ : ∃ F, F = cntF R 1 day := ⟨_, rfl⟩
      have hFA : ∀ s, ∀ z ∈ F s, isA z := fun s => by rw [hF]; exact F_isA hR 1 day s
      have hGA : ∀ a ∈ L, a.ty = 1 → sumL (gPA L R day a) = (sg false (told (F (Ch.txN a.nm)).sum).1, (told (F (Ch.txN a.nm)).sum).2) := fun a ha ht => by rw [hF]; exact G_told hG hR ha ht 1 day false
      have hGD : ∀ a ∈ L, a.ty = 2 → sumL (gPD L R day a) = (sg true (told (F (Ch.txN a.nm)).sum).1, (told (F (Ch.txN a.nm)).sum).2) := fun a ha ht => by rw [hF]; exact G_told hG hR ha ht 1 day true
      have hGE : ∀ a ∈ L, a.ty = 3 → sumL (gPE L R day a) = (sg true (told (F (Ch.txN a.nm)).sum).1, (told (F (Ch.txN a.nm)).sum).2) := fun a ha ht => by rw [hF]; exact G_told hG hR ha ht 1 day true
      have h1 : ∀ z, sidS z 1 = sg false z := fun z => rfl
      have h2 : ∀ z, sidS z 2 = sg true z := fun z => rfl
      have h3 : ∀ z, sidS z 3 = sg true z := fun z => rfl
      obtain ⟨A, hA⟩ : ∃ z, z = tot F 1 false L := ⟨_, rfl⟩
      obtain ⟨D, hD⟩ : ∃ z, z = tot F 2 true L := ⟨_, rfl⟩
      obtain ⟨E, hEq⟩ : ∃ z, z = tot F 3 true L := ⟨_, rfl⟩
      obtain ⟨X, hX⟩ : ∃ z, z = tot F 4 true L + tot F 5 true L := ⟨_, rfl⟩
      have iA : ∀ z ∈ lPA L R day, isA z := amsL_isA hR
      have iD : ∀ z ∈ lPD L R day, isA z := amsL_isA hR
      have iR : ∀ z ∈ lPR L R day, isA z := fun z hz => by
        rcases List.mem_append.1 hz with hz | hz <;> exact amsL_isA hR z hz
      have iO : ∀ z ∈ lPO L R day, isA z := fun z hz => by
        rcases List.mem_append.1 hz with hz | hz
        · exact amsL_isA hR z hz
        · exact iR z hz
      have iT : ∀ z ∈ lPT L R day, isA z := fun z hz => by
        rcases List.mem_append.1 hz with hz | hz
        · exact iD z hz
        · exact iO z hz
      have uA : (lPA L R day).sum = A := by rw [hA, hF]; unfold lPA; rw [ams_all]
      have uD : (lPD L R day).sum = D := by rw [hD, hF]; unfold lPD; rw [ams_all]
      have uR : (lPR L R day).sum = X := by rw [hX, hF]; unfold lPR lP4 lP5; rw [List.sum_append, ams_all, ams_all]
      have uO : (lPO L R day).sum = E + X := by unfold lPO; rw [List.sum_append, uR, hEq, hF]; unfold lPE; rw [ams_all]
      have uT : (lPT L R day).sum = D + (E + X) := by unfold lPT; rw [List.sum_append, uD, uO]
      have sA : sumL (lPA L R day) = told A := by rw [sum_told _ iA, uA]
      have sD : sumL (lPD L R day) = told D := by rw [sum_told _ iD, uD]
      have sR : sumL (lPR L R day) = told X := by rw [sum_told _ iR, uR]
      have sO : sumL (lPO L R day) = told (E + X) := by rw [sum_told _ iO, uO]
      have sT : sumL (lPT L R day) = told (D + (E + X)) := by rw [sum_told _ iT, uT]
      have rS : sumL (resL F L) = (-(told X).1, (told X).2) := by rw [sum_told _ (resL_isA hFA L), res_tot, ← hX, told_neg]
      have pS : psS F L = (told X).1 := by unfold psS; rw [rS]; exact Int.neg_neg _
      obtain ⟨b1, b1'⟩ := blkE_two hFA 1 L 0 (.inl rfl)
      obtain ⟨b2, b2'⟩ := blkE_two hFA 2 L (blkE F 1 0 L) b1
      obtain ⟨b3, b3'⟩ := blkE_two hFA 3 L (blkE F 2 (blkE F 1 0 L) L) b2
      have aL : ∀ t, ∀ z ∈ (blkL F t L).map Lm.amt, isA z := fun t z hz => by obtain ⟨x, hx, rfl⟩ := List.mem_map.1 hz; exact blkL_isA F t L x hx
      have aE : ∀ z ∈ (psE F L).map Lm.amt, isA z := fun z hz => by obtain ⟨x, hx, rfl⟩ := List.mem_map.1 hz; exact psE_isA F L x hx
      have tA : fine F 1 L → sL (psA F L) = told A := fun hf => by
        unfold sL psA
        rw [sum_told _ (aL 1), lines_sum hFA 1 false h1 L hf, hA]
      have tD : fine F 2 L → sL (psD F L) = told D := fun hf => by
        unfold sL psD
        rw [sum_told _ (aL 2), lines_sum hFA 2 true h2 L hf, hD]
      have tE : fine F 3 L → (told X).2 = 0 → sL (psE F L) = told (E + X) := fun hf hx => by
        unfold sL
        rw [sum_told _ aE]
        unfold psE
        rw [List.map_append, List.sum_append, lines_sum hFA 3 true h3 L hf, ← hEq]
        simp only [List.map_cons, List.map_nil, List.sum_cons, List.sum_nil, Int.add_zero]
        rw [pS, told_fit hx]
      have aT : ∀ z ∈ [(sL (psD F L)).1, (sL (psE F L)).1], isA z := fun z hz => by
        simp only [List.mem_cons, List.not_mem_nil, or_false] at hz
        rcases hz with rfl | rfl <;> exact sL_isA _
      have tT : fine F 2 L → fine F 3 L → (told X).2 = 0 → (told D).2 = 0 → (told (E + X)).2 = 0 → psT F L = told (D + (E + X)) := fun f2 f3 hx hd he => by
        unfold psT
        rw [sum_told _ aT, tD f2, tE f3 hx, told_fit hd, told_fit he]
        simp
      have oA : (sL (psA F L)).2 = 0 ∨ (sL (psA F L)).2 = 11 := by unfold sL psA; rw [sum_told _ (aL 1)]; exact told_err _
      have oD : (sL (psD F L)).2 = 0 ∨ (sL (psD F L)).2 = 11 := by unfold sL psD; rw [sum_told _ (aL 2)]; exact told_err _
      have oE : (sL (psE F L)).2 = 0 ∨ (sL (psE F L)).2 = 11 := by unfold sL; rw [sum_told _ aE]; exact told_err _
      have oT : (psT F L).2 = 0 ∨ (psT F L).2 = 11 := by unfold psT; rw [sum_told _ aT]; exact told_err _
      have oR : (sumL (resL F L)).2 = 0 ∨ (sumL (resL F L)).2 = 11 := by rw [rS]; exact told_err _
      have i2 : psO F L = 0 ∨ psO F L = 11 := orE_two (orE_two (orE_two (orE_two (orE_two b3 oR) oA) oD) oE) oT
      have hP : psO F L = 0 ↔ ovP L R day = false := by
        unfold psO psO1 ovP
        rw [orE_zero, orE_zero, orE_zero, orE_zero, orE_zero, b3', b2', b1', ovr_false, ovr_false, ovr_false, rbO_two (F := F) (gPE L R day) 3 L (fun a ha ht => by rw [hGE a ha ht]), ovr_false, rbO_two (F := F) (gPD L R day) 2 L (fun a ha ht => by rw [hGD a ha ht]), ovr_false, rbO_two (F := F) (gPA L R day) 1 L (fun a ha ht => by rw [hGA a ha ht]), sA, sD, sR, sO, sT, rS]
        constructor
        · rintro ⟨⟨⟨⟨⟨⟨⟨⟨-, f1⟩, f2⟩, f3⟩, eR⟩, eA⟩, eD⟩, eE⟩, eT⟩
          have eR : (told X).2 = 0 := eR
          rw [tA f1] at eA
          rw [tD f2] at eD
          rw [tE f3 eR] at eE
          rw [tT f2 f3 eR eD eE] at eT
          exact ⟨⟨⟨⟨⟨⟨⟨⟨rfl, f1⟩, eA⟩, f2⟩, eD⟩, f3⟩, eR⟩, eE⟩, eT⟩
        · rintro ⟨⟨⟨⟨⟨⟨⟨⟨-, f1⟩, eA⟩, f2⟩, eD⟩, f3⟩, eR⟩, eE⟩, eT⟩
          exact ⟨⟨⟨⟨⟨⟨⟨⟨rfl, f1⟩, f2⟩, f3⟩, eR⟩, by rw [tA f1]; exact eA⟩, by rw [tD f2]; exact eD⟩, by rw [tE f3 eR]; exact eE⟩, by rw [tT f2 f3 eR eD eE]; exact eT⟩
      rw [e1, e2, if_pos hE, ← hF]
      by_cases h0 : psO F L = 0
      · have ho := hP.1 h0
        rw [if_pos h0]
        unfold shtA
        rw [ho]
        simp only [Bool.false_eq_true, if_false]
        have h9 := h0
        unfold psO psO1 at h9
        rw [orE_zero, orE_zero, orE_zero, orE_zero, orE_zero, b3', b2', b1', rS] at h9
        obtain ⟨⟨⟨⟨⟨⟨⟨⟨-, f1⟩, f2⟩, f3⟩, eR⟩, eA⟩, eD⟩, eE⟩, eT⟩ := h9
        have eR : (told X).2 = 0 := eR
        rw [tD f2] at eD
        rw [tE f3 eR] at eE
        have q1 : (sL (psA F L)).1 = (sumL (lPA L R day)).1 := by rw [tA f1, sA]
        have q2 : (sL (psD F L)).1 = (sumL (lPD L R day)).1 := by rw [tD f2, sD]
        have q3 : (sL (psE F L)).1 = (sumL (lPO L R day)).1 := by rw [tE f3 eR, sO]
        have q4 : (psT F L).1 = (sumL (lPT L R day)).1 := by rw [tT f2 f3 eR eD eE, sT]
        have q5 : psS F L = (sumL (lPR L R day)).1 := by rw [pS, sR]
        have r1 := rows_same hFA (gPA L R day) 1 false h1 dg.toNat L (fun a ha ht => by rw [hGA a ha ht])
        have r2 := rows_same hFA (gPD L R day) 2 true h2 dg.toNat L (fun a ha ht => by rw [hGD a ha ht])
        have r3 := rows_same hFA (gPE L R day) 3 true h3 dg.toNat L (fun a ha ht => by rw [hGE a ha ht])
        unfold posT posR rowsP blkR hdrP hdP psE psA psD lineT1 tiS
        unfold psA at q1
        unfold psD at q2
        unfold psE at q3
        rw [q1, q2, q3, q4, List.map_append, r1, r2, r3, List.map_cons, List.map_nil]
        show _ = ([65, 116, 32] ++ dtx day ++ [10] ++ gridT (rgt [0, 1]) _, (0 : Int))
        rw [q5]
        simp only [List.append_assoc]
      · have ho : ovP L R day = true := by
          cases h : ovP L R day with
          | true => rfl
          | false => exact absurd (hP.2 h) h0
        rw [if_neg h0]
        unfold shtA
        rw [ho, if_pos rfl]
        rcases i2 with h | h
        · exact absurd h h0
        · rw [h]
    · have e2 : errP dg L R day = errC L R := by unfold errP; rw [if_neg hb, if_pos hE]
      rw [e1, e2, if_neg hE, if_neg hE]
end Go.Proofs.YtcafhmlpmbkhkaaGreatDoor
namespace Go.Proofs.YtcafhmlpmbkhkaaGreatDoor
open Go Go.Shelf Go.ChangeShapes Go.WideShapes Go.ChangeAt Go.RowKit Go.Maps
set_option linter.unusedVariables false
set_option linter.unusedSimpArgs false
set_option maxRecDepth 100000 in
set_option maxHeartbeats 16000000 in
theorem positions_walk {w0 : World} (hP0 : Kg.Pw w0) (hM0 : Dy.Mon w0) {pa : Option Addr} {na ca : Nat} {L : List Ch.Ac} (hLn : L.length = na) (hpa : pa = none → ca = 0) (hLL0 : Lies Ch.kA w0 pa L) (hna : na ≤ 1048576) (hsz : ∀ a ∈ L, (Ch.txN a.nm).size ≤ 1048576) (hty : ∀ a ∈ L, fits64 a.ty) {p : Option Addr} {n c : Nat} {X : List Po} (hX : X.length = n) (hc : p = none → c = 0) (hL0 : Lies kU w0 p X) (hok : ∀ x ∈ X, PoOk x) (hn : n ≤ 1048576) (day : Int) (hday : fits64 day) (dg : Int) (hdg : fits64 dg) :
    Calls Tryz.prog 7 #[.slice pa na ca, .slice p n c, .int .i64 day, .int .i64 dg] w0 fun e W' => e = .returned (.bool true) ∧ Below w0.heap.size w0 W' := by
  have D00 := hide (Kg.roomA L pa na ca hLn hpa hna w0 hP0 hLL0)
  have HP0 := hide hP0; have HM0 := hide hM0; have HLL0 := hide hLL0; have HL0 := hide hL0; have HX0 := hide hX; have HLN := hide hLn; have HC0 := hide hc; have HOK := hide hok; have HSZ := hide hsz; have HTY := hide hty; have HPA := hide hpa
  clear hP0 hM0 hLL0 hL0 hX hLn hc hok hsz hty hpa
  go_enter Tryz.func7, Tryz.ntmps7
  go_wp2_with fail
  refine (unhide D00).mono ?_
  rintro e w ⟨ga, ka, rfl, hownA, hbA⟩
  have hcapA : na + 64 ≤ ka := by
    rcases hownA.2 with ⟨h1, _⟩ | ⟨g', cap, cur, e1, _, _, h4, _⟩
    · cases h1
    · injection e1 with _ _ e3
      omega
  have hlenA : (L ++ Kg.mklA 700000 64).length = na + 64 := by rw [List.length_append, Kg.mklA_len, unhide HLN]
  have hliesA : Lies Ch.kA w (some ⟨ga, 0, none⟩) (L ++ Kg.mklA 700000 64) := own_lies Ch.kA_ok hlenA hownA
  have hcA : (na : Int) ≤ (ka : Int) := by omega
  have HBW0 := hide hbA
  have HLA : Hid (∀ W, Below w.heap.size w W → Lies Ch.kA W (some ⟨ga, 0, none⟩) (L ++ Kg.mklA 700000 64) ∧ Lies Ch.kA W pa L) := fun W hb => ⟨hliesA.below hb, (unhide HLL0).below (hbA.trans (hb.mono hbA.size))⟩
  have hP := (unhide HP0).below hbA
  have hM := (unhide HM0).below hbA
  have hL := (unhide HL0).below hbA
  have hX := unhide HX0
  have D0 := hide (Kg.roomU X p n c hX (unhide HC0) hn w hP hL)
  have HP := hide hP; have HX := hide hX; have HL := hide hL; have HMO := hide hM
  clear hP hX hL hM hownA hbA hlenA hliesA D00
  go_wp2_with fail
  refine (unhide D0).mono ?_
  rintro e w1 ⟨g, c0, rfl, hown, hb1⟩
  have hcap : n + 64 ≤ c0 := by
    rcases hown.2 with ⟨h1, _⟩ | ⟨g', cap, cur, e1, _, _, h4, _⟩
    · cases h1
    · injection e1 with _ _ e3
      omega
  have hlen1 : (X ++ Kg.mklU 700000 64).length = n + 64 := by rw [List.length_append, Kg.mklU_len, unhide HX]
  have hlies1 : Lies kU w1 (some ⟨g, 0, none⟩) (X ++ Kg.mklU 700000 64) := own_lies kU_ok hlen1 hown
  have hcI : (n : Int) ≤ (c0 : Int) := by omega
  have D1 := hide (position_any ((unhide HP).below (below_drewN hb1 1)) ((unhide HMO).below (below_drewN hb1 1)) (ca := ka) (cr := c0) (unhide HLN) (unhide HLA _ (below_drewN hb1 1)).1.take hna (unhide HSZ) (unhide HTY) (unhide HX) (hlies1.take.below (below_drewN (Below.refl _ _) 1)) (unhide HOK) hn day hday dg hdg)
  obtain ⟨A, hA⟩ : ∃ A, A = ansP dg L X day := ⟨_, rfl⟩
  obtain ⟨T, hT⟩ : ∃ T, T = txB A.1 := ⟨_, rfl⟩
  obtain ⟨E, hE⟩ : ∃ E, E = A.2 := ⟨_, rfl⟩
  rw [← hA] at D1
  unfold TriOut at D1
  rw [← hT, ← hE] at D1
  have D2 : Hid (∀ W, Below w.heap.size w W → Calls Tryz.prog 31 #[.slice pa na ca, .slice p n c, .int .i64 day, .int .i64 dg] W fun e w' => e = .returned (.tuple #[.string T, .int .i64 E]) ∧ Below W.heap.size W w') := fun W hb => by
    have h := rposition_any (w := W) (ca := ca) (crr := c) (unhide HLN) (unhide HLA W hb).2 (unhide HPA) hna (unhide HSZ) (unhide HTY) (unhide HX) ((unhide HL).below hb) (unhide HOK) hn day hday dg hdg
    rw [same_position (unhide HOK)] at h
    unfold TriOut at h
    rw [← hA, ← hT, ← hE] at h
    exact h
  have HOWN := hide hown; have HB1 := hide hb1; have HLI1 := hide hlies1
  clear hA hT hE hown hb1 hlies1 D0
  go_upto_region 3 with fail
  refine wp_region_last (n := 16) (S := fun _ => True) (by kernel_rfl) trivial (fun hHeld => ?_)
  refine tkW 0 ?_; refine tkW 1 ?_; refine tkW 2 ?_; refine tkW 3 ?_; refine tkW 4 ?_; refine tkW 5 ?_; refine tkW 6 ?_; refine tkW 7 ?_; refine tkW 8 ?_; refine tkW 9 ?_
  clear hHeld
  refine wpAnyL_one (i := 10) (by kernel_rfl) rfl (fun KK hK => ?_)
  go_simp
  go_wp2_with (go_at_call 30; refine (unhide D1).mono ?_; rintro e w2 ⟨rfl, hb2⟩)
  have hb12 : Below w1.heap.size w1 w2 := (below_drewN (Below.refl _ _) 1).trans hb2
  have HB2 := hide hb12
  refine hK.out _ _ trivial (fun hHeld => ?_)
  clear hK KK hb2 hb12 D1
  refine tkW 11 ?_; refine tkW 12 ?_; refine tkW 13 ?_; refine tkW 14 ?_; refine tkW 15 ?_
  clear hHeld
  refine wpAnyL_done (by kernel_rfl) ?_
  have d2 := hide (unhide D2 w2 ((unhide HB1).trans ((unhide HB2).mono (unhide HB1).size)))
  clear D2
  go_wp2_with fail
  refine (unhide d2).mono ?_
  rintro e w3 ⟨rfl, hb3⟩
  have hb13 : Below w1.heap.size w1 w3 := (unhide HB2).trans (hb3.mono (unhide HB2).size)
  have hbw3 : Below w.heap.size w w3 := (unhide HB1).trans (hb13.mono (unhide HB1).size)
  have d3 := hide (Kg.keptA L pa (some ⟨ga, 0, none⟩) na ca ka (unhide HLN) (by omega) w3 ((unhide HP).below hbw3) (unhide HLA w3 hbw3).2 (unhide HLA w3 hbw3).1)
  have d3b : Hid (∀ W, Below w3.heap.size w3 W → Calls Tryz.prog 29 #[.slice (some ⟨g, 0, none⟩) (n + 64) c0, .slice p n c] W fun e w' => e = .returned (.bool true) ∧ Below W.heap.size W w') := fun W hb => Kg.keptU X p (some ⟨g, 0, none⟩) n c c0 (unhide HX) (by omega) W ((unhide HP).below (hbw3.trans (hb.mono hbw3.size))) ((unhide HL).below (hbw3.trans (hb.mono hbw3.size))) ((unhide HLI1).below (hb13.trans (hb.mono hb13.size)))
  have HB13 := hide hb13
  have HBW3 := hide hbw3
  have DF : Hid (∀ W, Below w.heap.size w W → Calls Tryz.prog 14 #[] W fun e w' => e = .returned (.bool true) ∧ Below W.heap.size W w') := fun W hb => first_any W ((unhide HP).below hb)
  clear hb3 hb13 hbw3 d2 HB2
  go_wp2_with (go_at_call 12; refine (like_yes _ _ _).mono ?_; rintro e wz ⟨rfl, hwz⟩; rw [hwz]; clear hwz wz)
  refine (unhide d3).mono ?_
  rintro e w3a ⟨rfl, hb3a⟩
  have d3c := hide (unhide d3b w3a hb3a)
  have HB3A := hide hb3a
  clear hb3a d3b d3
  go_wp2_with fail
  refine (unhide d3c).mono ?_
  rintro e w4 ⟨rfl, hb4'⟩
  have hb4 : Below w3.heap.size w3 w4 := (unhide HB3A).trans (hb4'.mono (unhide HB3A).size)
  have hbw4 : Below w.heap.size w w4 := (unhide HBW3).trans (hb4.mono (unhide HBW3).size)
  have HB14 : Hid (Below w1.heap.size w1 w4) := (unhide HB13).trans (hb4.mono (unhide HB13).size)
  have d4 := hide (unhide DF w4 hbw4)
  have HBW4 := hide hbw4
  clear hb4 hb4' hbw4 d3c DF HB13 HBW3 HB3A
  go_wp2_with fail
  refine (unhide d4).mono ?_
  rintro e w5 ⟨rfl, hb5⟩
  have HB15 : Hid (Below w1.heap.size w1 w5) := (unhide HB14).trans (hb5.mono (unhide HB14).size)
  have HBW5 : Hid (Below w.heap.size w w5) := (unhide HBW4).trans (hb5.mono (unhide HBW4).size)
  have ho5 := own_below (unhide HOWN) (unhide HB15)
  have HG : Hid (w.heap.size ≤ g) := (ho5.lt g rfl).1
  have HO5 := hide ho5
  clear hb5 ho5 d4 HB14 HBW4
  obtain ⟨X2, hX2⟩ : ∃ X2, X2 = upU X (n / 2) := ⟨_, rfl⟩
  have hX2l : X2.length = n := by rw [hX2, upU_len, unhide HX]
  have hX2o : ∀ x ∈ X2, PoOk x := by rw [hX2]; exact upU_ok (unhide HOK) _
  have HX2 := hide hX2; have HX2L := hide hX2l; have HX2O := hide hX2o
  have FIN : Hid (∀ W, Below w.heap.size w W → W.ownsRow w.heap.size 63 9 (.slice (some ⟨g, 0, none⟩) (n + 64) c0) (n + 64) (kU.flat (X2 ++ Kg.mklU 700000 64)) →
      ∃ p2 c2 w7, (Builtin.append_ #[56, 56] 56 #[.slice (some ⟨W.heap.size, 0, none⟩) 0 0, .slice (some ⟨g, 0, none⟩) n c0]).run Tryz.prog (W.alloc (.cells #[] 63)) = .ok (.slice p2 n c2) w7 ∧ Below W.heap.size W w7 ∧ Lies kU w7 p2 X2) := fun W hb ho => by
    have b0 : Below W.heap.size W (W.alloc (.cells #[] 63)) := bal (Below.refl _ _) _
    have hl : Lies kU (W.alloc (.cells #[] 63)) (some ⟨g, 0, none⟩) X2 := (own_lies kU_ok (by rw [List.length_append, Kg.mklU_len, unhide HX2L]) ho).take.below b0
    obtain ⟨p5, c5, w5, r5, o5, b5, _⟩ := run_app (K := kU) kU_ok (L := []) (M := X2) 56 (Kg.own_lit0U W) b0.size (some ⟨g, 0, none⟩) c0 (fun h => by cases h) hl (by rw [unhide HX2L]; omega)
    rw [unhide HX2L, Nat.zero_add] at r5 o5
    rw [List.nil_append] at o5
    exact ⟨p5, c5, w5, r5, b0.trans (b5.mono (Nat.le_refl _)), own_lies kU_ok (unhide HX2L) o5⟩
  obtain ⟨T2, hT2⟩ : ∃ T, T = txB (ansP dg L X2 day).1 := ⟨_, rfl⟩
  obtain ⟨E2, hE2⟩ : ∃ E, E = (ansP dg L X2 day).2 := ⟨_, rfl⟩
  have TAIL : Hid (∀ W, Below w.heap.size w W → Lies kU W (some ⟨g, 0, none⟩) (X2 ++ Kg.mklU 700000 64) → ∀ p2 c2 w7, Below W.heap.size W w7 → Lies kU w7 p2 X2 →
      Calls Tryz.prog 30 #[.slice (some ⟨ga, 0, none⟩) na ka, .slice (some ⟨g, 0, none⟩) n c0, .int .i64 day, .int .i64 dg] (w7.drewN 1) (fun e w8 => e = .returned (.tuple #[.string T2, .int .i64 E2]) ∧ Below w.heap.size w w8 ∧
        Calls Tryz.prog 31 #[.slice pa na ca, .slice p2 n c2, .int .i64 day, .int .i64 dg] w8 (fun e w9 => e = .returned (.tuple #[.string T2, .int .i64 E2]) ∧ Below w8.heap.size w8 w9 ∧
          Calls Tryz.prog 28 #[.slice (some ⟨ga, 0, none⟩) (na + 64) ka, .slice pa na ca] w9 (fun e w9a => e = .returned (.bool true) ∧ Below w9.heap.size w9 w9a ∧
            Calls Tryz.prog 29 #[.slice (some ⟨g, 0, none⟩) (n + 64) c0, .slice p2 n c2] w9a (fun e w10 => e = .returned (.bool true) ∧ Below w.heap.size w w10))))) := fun W hb hl p2 c2 w7 hb7 hl7 => by
    have hw7 : Below w.heap.size w w7 := hb.trans (hb7.mono hb.size)
    have hw7d := below_drewN hw7 1
    have h7d : Below w7.heap.size w7 (w7.drewN 1) := below_drewN (Below.refl _ _) 1
    rw [hT2, hE2]
    refine (position_any ((unhide HP).below hw7d) ((unhide HMO).below hw7d) (ca := ka) (cr := c0) (unhide HLN) (unhide HLA _ hw7d).1.take hna (unhide HSZ) (unhide HTY) (unhide HX2L) (hl.take.below (hb7.trans (h7d.mono hb7.size))) (unhide HX2O) hn day hday dg hdg).mono ?_
    rintro e w8 ⟨rfl, hb8⟩
    have h78 : Below w7.heap.size w7 w8 := h7d.trans (hb8.mono h7d.size)
    have hw8 : Below w.heap.size w w8 := hw7.trans (h78.mono hw7.size)
    refine ⟨rfl, hw8, ?_⟩
    have hr := rposition_any (w := w8) (ca := ca) (crr := c2) (unhide HLN) (unhide HLA w8 hw8).2 (unhide HPA) hna (unhide HSZ) (unhide HTY) (unhide HX2L) (hl7.below h78) (unhide HX2O) hn day hday dg hdg
    rw [same_position (unhide HX2O)] at hr
    refine hr.mono ?_
    rintro e w9 ⟨rfl, hb9⟩
    refine ⟨rfl, hb9, ?_⟩
    have hw9 : Below w.heap.size w w9 := hw8.trans (hb9.mono hw8.size)
    have h79 : Below w7.heap.size w7 w9 := h78.trans (hb9.mono h78.size)
    refine (Kg.keptA L pa (some ⟨ga, 0, none⟩) na ca ka (unhide HLN) (by omega) w9 ((unhide HP).below hw9) (unhide HLA w9 hw9).2 (unhide HLA w9 hw9).1).mono ?_
    rintro e w9a ⟨rfl, hb9a⟩
    refine ⟨rfl, hb9a, ?_⟩
    have hw9a : Below w.heap.size w w9a := hw9.trans (hb9a.mono hw9.size)
    have h79a : Below w7.heap.size w7 w9a := h79.trans (hb9a.mono h79.size)
    refine (Kg.keptU X2 p2 (some ⟨g, 0, none⟩) n c2 c0 (unhide HX2L) (by omega) w9a ((unhide HP).below hw9a) (hl7.below h79a) (hl.below (hb7.trans (h79a.mono hb7.size)))).mono ?_
    rintro e w10 ⟨rfl, hb10⟩
    exact ⟨rfl, hw9a.trans (hb10.mono hw9a.size)⟩
  clear hX2 hX2l hX2o hT2 hE2
  by_cases hn0 : n = 0
  · have hz : X2 = X := by
      have hx0 : X = [] := List.eq_nil_of_length_eq_zero (by rw [unhide HX, hn0])
      rw [unhide HX2, hx0]
      rfl
    have ho := unhide HO5
    rw [← hz] at ho
    have HO := hide ho
    have hnI : ¬ (n : Int) > 0 := by omega
    have HN0 := hide hn0
    clear ho hz hn0
    obtain ⟨p2, c2, w7, r7, hb7, hl7⟩ := unhide FIN w5 (unhide HBW5) (unhide HO)
    have d10 := hide (unhide TAIL w5 (unhide HBW5) (own_lies kU_ok (by rw [List.length_append, Kg.mklU_len, unhide HX2L]) (unhide HO)) p2 c2 w7 hb7 hl7)
    have HR7 := hide r7
    have HB7 : Hid (Below w.heap.size w w7) := (unhide HBW5).trans (hb7.mono (unhide HBW5).size)
    clear r7 hb7 hl7 FIN TAIL
    go_upto_region 10 with (at_builtin; refine wpList_append_run rfl _ _ 56 rfl _ _ _ _ rfl rfl (unhide HR7) ?_)
    refine wp_region_last (n := 16) (S := fun _ => True) (by kernel_rfl) trivial (fun hHeld => ?_)
    refine tkW 0 ?_; refine tkW 1 ?_; refine tkW 2 ?_; refine tkW 3 ?_; refine tkW 4 ?_; refine tkW 5 ?_; refine tkW 6 ?_; refine tkW 7 ?_; refine tkW 8 ?_; refine tkW 9 ?_
    clear hHeld
    refine wpAnyL_one (i := 10) (by kernel_rfl) rfl (fun KK hK => ?_)
    go_simp
    go_wp2_with (go_at_call 30; refine (unhide d10).mono ?_; rintro e w8 ⟨rfl, hw8, d11⟩)
    have D11 := hide d11
    have HW8 := hide hw8
    refine hK.out _ _ trivial (fun hHeld => ?_)
    clear hK KK hw8 d11 d10
    refine tkW 11 ?_; refine tkW 12 ?_; refine tkW 13 ?_; refine tkW 14 ?_; refine tkW 15 ?_
    clear hHeld
    refine wpAnyL_done (by kernel_rfl) ?_
    go_wp2_with fail
    refine (unhide D11).mono ?_
    rintro e w9 ⟨rfl, hb9, d12⟩
    have D12 := hide d12
    clear hb9 d12 D11
    go_wp2_with (go_at_call 12; refine (like_yes _ _ _).mono ?_; rintro e wz ⟨rfl, hwz⟩; rw [hwz]; clear hwz wz)
    refine (unhide D12).mono ?_
    rintro e w9a ⟨rfl, hb9a, d13⟩
    have D13 := hide d13
    clear hb9a d13 D12
    go_wp2_with fail
    refine (unhide D13).mono ?_
    rintro e w10 ⟨rfl, hb10⟩
    have HB10 := hide hb10
    clear hb10 D13
    go_wp2_with fail
    go_ret
    exact ⟨rfl, (unhide HBW0).trans ((unhide HB10).mono (unhide HBW0).size)⟩
  · have hnI : (n : Int) > 0 := by omega
    obtain ⟨q, hq⟩ : ∃ q, q = n / 2 := ⟨_, rfl⟩
    have hqn : q < n := by omega
    obtain ⟨y, hy⟩ : ∃ y, X[q]? = some y := ⟨X[q]'(by rw [unhide HX]; exact hqn), List.getElem?_eq_getElem _⟩
    have hyM : (X ++ Kg.mklU 700000 64)[q]? = some y := by rw [List.getElem?_append_left (by rw [unhide HX]; exact hqn)]; exact hy
    have hfl : q * 9 + 6 < (kU.flat (X ++ Kg.mklU 700000 64)).length := by
      rw [(unhide HO5).1]
      omega
    have hc5 : w5.cell? ⟨g, q * 9 + 6, none⟩ ≠ none := by
      rw [(unhide HO5).cellAt (q * 9 + 6) (by omega), List.getElem?_eq_getElem hfl]
      simp
    obtain ⟨u5, hu5⟩ := Option.ne_none_iff_exists'.1 hc5
    have hf5 : w5.frozen? ⟨g, q * 9 + 6, none⟩ = false := (unhide HO5).frozenAt (q * 9 + 6)
    obtain ⟨w6, hw6⟩ : ∃ W, W = w5.setCell ⟨g, q * 9 + 6, none⟩ (.int .i64 11) := ⟨_, rfl⟩
    have hbw6 : Below w.heap.size w w6 := by rw [hw6]; exact (unhide HBW5).setCell (p := ⟨g, q * 9 + 6, none⟩) (unhide HG) _
    have ho6 : w6.ownsRow w.heap.size 63 9 (.slice (some ⟨g, 0, none⟩) (n + 64) c0) (n + 64) (kU.flat (X2 ++ Kg.mklU 700000 64)) := by
      have h := ((unhide HO5).stored (q * 9 + 6) (.int .i64 11)).1
      rw [flat_set6 _ q y hyM, List.set_append_left _ _ (by rw [unhide HX]; exact hqn)] at h
      have e : X2 = X.set q (zzU y) := by rw [unhide HX2, ← hq]; unfold upU; rw [hy]; rfl
      rw [e, hw6]
      exact h
    have HBW6 := hide hbw6; have HO6 := hide ho6
    have hq2 : (n : Int).tdiv 2 = (q : Int) := by rw [Int.tdiv_eq_ediv_of_nonneg (by omega)]; omega
    have hw6' := hw6.symm
    clear hw6 hbw6 ho6 hq hy hyM hfl hc5
    obtain ⟨p2, c2, w7, r7, hb7, hl7⟩ := unhide FIN w6 (unhide HBW6) (unhide HO6)
    have d10 := hide (unhide TAIL w6 (unhide HBW6) (own_lies kU_ok (by rw [List.length_append, Kg.mklU_len, unhide HX2L]) (unhide HO6)) p2 c2 w7 hb7 hl7)
    have HR7 := hide r7
    have HB7 : Hid (Below w.heap.size w w7) := (unhide HBW6).trans (hb7.mono (unhide HBW6).size)
    clear r7 hb7 hl7 FIN TAIL
    go_upto_region 10 with (at_builtin; refine wpList_append_run rfl _ _ 56 rfl _ _ _ _ rfl rfl (unhide HR7) ?_)
    refine wp_region_last (n := 16) (S := fun _ => True) (by kernel_rfl) trivial (fun hHeld => ?_)
    refine tkW 0 ?_; refine tkW 1 ?_; refine tkW 2 ?_; refine tkW 3 ?_; refine tkW 4 ?_; refine tkW 5 ?_; refine tkW 6 ?_; refine tkW 7 ?_; refine tkW 8 ?_; refine tkW 9 ?_
    clear hHeld
    refine wpAnyL_one (i := 10) (by kernel_rfl) rfl (fun KK hK => ?_)
    go_simp
    go_wp2_with (go_at_call 30; refine (unhide d10).mono ?_; rintro e w8 ⟨rfl, hw8, d11⟩)
    have D11 := hide d11
    have HW8 := hide hw8
    refine hK.out _ _ trivial (fun hHeld => ?_)
    clear hK KK hw8 d11 d10
    refine tkW 11 ?_; refine tkW 12 ?_; refine tkW 13 ?_; refine tkW 14 ?_; refine tkW 15 ?_
    clear hHeld
    refine wpAnyL_done (by kernel_rfl) ?_
    go_wp2_with fail
    refine (unhide D11).mono ?_
    rintro e w9 ⟨rfl, hb9, d12⟩
    have D12 := hide d12
    clear hb9 d12 D11
    go_wp2_with (go_at_call 12; refine (like_yes _ _ _).mono ?_; rintro e wz ⟨rfl, hwz⟩; rw [hwz]; clear hwz wz)
    refine (unhide D12).mono ?_
    rintro e w9a ⟨rfl, hb9a, d13⟩
    have D13 := hide d13
    clear hb9a d13 D12
    go_wp2_with fail
    refine (unhide D13).mono ?_
    rintro e w10 ⟨rfl, hb10⟩
    have HB10 := hide hb10
    clear hb10 D13
    go_wp2_with fail
    go_ret
    exact ⟨rfl, (unhide HBW0).trans ((unhide HB10).mono (unhide HBW0).size)⟩
end Go.Proofs.YtcafhmlpmbkhkaaGreatDoor
