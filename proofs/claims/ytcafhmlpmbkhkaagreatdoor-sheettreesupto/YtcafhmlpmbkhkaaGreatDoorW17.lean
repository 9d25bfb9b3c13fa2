import Derived.Test.YtcafhmlpmbkhkaaGreatDoorW15
import Derived.Test.YtcafhmlpmbkhkaaGreatDoorW16
/- The program's Trial (10). -/
namespace Go.Proofs.YtcafhmlpmbkhkaaGreatDoor
open Go Go.Shelf Go.ChangeShapes Go.WideShapes Go.ChangeAt Go.RowKit Go.Maps
set_option linter.unusedVariables false
set_option linter.unusedSimpArgs false
theorem eg39 (args : Array Value) (w : World) : (callFunc 39 args).run Tryz.prog w = .ok (.enter 39 args) w := by kernel_rfl
theorem eg41 (args : Array Value) (w : World) : (callFunc 41 args).run Tryz.prog w = .ok (.enter 41 args) w := by kernel_rfl
theorem eg42 (args : Array Value) (w : World) : (callFunc 42 args).run Tryz.prog w = .ok (.enter 42 args) w := by kernel_rfl
theorem eg47 (args : Array Value) (w : World) : (callFunc 47 args).run Tryz.prog w = .ok (.enter 47 args) w := by kernel_rfl
theorem eg48 (args : Array Value) (w : World) : (callFunc 48 args).run Tryz.prog w = .ok (.enter 48 args) w := by kernel_rfl
theorem eg49 (args : Array Value) (w : World) : (callFunc 49 args).run Tryz.prog w = .ok (.enter 49 args) w := by kernel_rfl
/-- the columns of a trial balance's grid -/
def colsT (d : Nat) : List (Value × (Cm → Tx)) := [(.func (.func 47) #[] #[], fun x => x.acc.data.toList), (.func (.func 48) #[.agg #[.int .i64 (d : Int)]] #[], fun x => unz x.deb d), (.func (.func 49) #[.agg #[.int .i64 (d : Int)]] #[], fun x => unz x.cre d)]
theorem colsT_row (d : Nat) (x : Cm) : rowF (colsT d) x = rowT d x := rfl
theorem Kg.Pw.of_below {B : Nat} {w W : World} (h : Kg.Pw w) (hb : Below w.heap.size w W) : Kg.Pw W := h.below hb
theorem colsT_ok {d : Nat} (hd : d ≤ 6) {G : World → Prop} (hP : ∀ W, G W → Kg.Pw W) : ∀ q ∈ colsT d, FnOK cvM CmFine G q.1 q.2 := fun q hq => by
  simp only [colsT, List.mem_cons, List.not_mem_nil, or_false] at hq
  rcases hq with rfl | rfl | rfl
  · exact ⟨47, eg47, .inl ⟨rfl, fun x W _ _ => accountOf_any x W⟩⟩
  · exact ⟨48, eg48, .inr (.inl ⟨_, rfl, fun x W hx hG => debit_any x d ⟨by have := hx.deb.1; omega, hx.deb.2⟩ hd W (hP W hG)⟩)⟩
  · exact ⟨49, eg49, .inr (.inl ⟨_, rfl, fun x W hx hG => credit_any x d ⟨by have := hx.cre.1; omega, hx.cre.2⟩ hd W (hP W hG)⟩)⟩
theorem lit3 (w : World) (a b c : Tx) : RowIs (w.alloc (.cells #[.string (txB a), .string (txB b), .string (txB c)] 9)) ⟨some ⟨w.heap.size, 0, none⟩, 3, 3⟩ [a, b, c] := by
  refine ⟨rfl, (fun e => by cases e), ⟨(fun e => by cases e), fun k hk => ?_⟩, fun q hq => ?_⟩
  · refine ⟨w.heap.size, 0, rfl, by simp, fun j u hu => ?_⟩
    have hk3 : k = 0 ∨ k = 1 ∨ k = 2 := by simp at hk; omega
    have hj : j = 0 := by
      have := (List.getElem?_eq_some_iff.1 hu).1
      simp [kT] at this
      exact this
    subst hj
    rw [cell_at (heap_new w _)]
    rcases hk3 with rfl | rfl | rfl <;> simpa [kT] using hu
  · cases hq
    exact ⟨_, (0, 0), heap_new w _⟩
set_option maxRecDepth 100000 in
set_option maxHeartbeats 16000000 in
theorem trial_any {w : World} (hP : Kg.Pw w) {p : Option Addr} {n c : Nat} {X : List Cm} (hX : X.length = n) (hL : Lies kM w p X) (hok : ∀ x ∈ X, CmOk x) (hn : n ≤ 1048576) (dg : Int) (hdg : -9223372036854775808 ≤ dg ∧ dg ≤ 9223372036854775807) :
    Calls Tryz.prog 10 #[.slice p n c, .int .i64 dg] w (TriOut w (ansT dg X)) := by
  by_cases hbad : dg < 0 ∨ 6 < dg
  · have HE : Hid (ansT dg X = ([], 1)) := by
      have e : errT dg X = 1 := if_pos hbad
      show _ = _
      unfold ansT
      rw [e, if_neg (by decide)]
    have D := hide (digits_no dg w hbad)
    clear hP hX hL hok hbad
    go_enter Tryz.func10, Tryz.ntmps10
    go_wp2_with (go_at_call 37; refine (unhide D).mono ?_; rintro e w1 ⟨rfl, hw1⟩; rw [hw1]; clear hw1 w1)
    go_ret2
    exact ⟨by rw [unhide HE]; rfl, Below.refl _ _⟩
  · have hd0 : 0 ≤ dg := by omega
    have hd6 : dg ≤ 6 := by omega
    obtain ⟨d, hd⟩ : ∃ d : Nat, dg = (d : Int) := ⟨dg.toNat, by omega⟩
    subst hd
    have hd' : d ≤ 6 := by omega
    have D0 := hide (digits_yes (d : Int) w hd0 hd6)
    have HB := hide hbad
    have D1 := hide (fltM (g := 39) (c := c) hX hL eg39 (.inl rfl) (f := faultM) (ok := CmOk) hok (fun x W hx hb => colFault_any x hx.acc W) (by omega))
    obtain ⟨F, hF⟩ : ∃ F, F = fstM faultM X := ⟨_, rfl⟩
    rw [← hF] at D1
    by_cases hF0 : F = 0
    · subst hF0
      have hfine := fine_all hok hF.symm
      have HF := hide hF
      have HX := hide hX; have HL := hide hL; have HPW := hide hP; have HFI := hide hfine
      have D2 : Hid (∀ W, Below w.heap.size w W → Calls Tryz.prog 40 #[.slice p n c, .func (.func 41) #[] #[]] W (TotOut W (debL X))) := fun W hb =>
        totM (X := X) (f := fun x => x.deb) (ok := CmFine) (unhide HX) ((unhide HL).below hb) (unhide HFI) ⟨41, eg41, rfl, fun x W _ => debitOf_any x W⟩ (fun x hx => ⟨by have := (unhide HFI x hx).deb.1; omega, (unhide HFI x hx).deb.2⟩) (by omega)
      have D3 : Hid (∀ W, Below w.heap.size w W → Calls Tryz.prog 40 #[.slice p n c, .func (.func 42) #[] #[]] W (TotOut W (creL X))) := fun W hb =>
        totM (X := X) (f := fun x => x.cre) (ok := CmFine) (unhide HX) ((unhide HL).below hb) (unhide HFI) ⟨42, eg42, rfl, fun x W _ => creditOf_any x W⟩ (fun x hx => ⟨by have := (unhide HFI x hx).cre.1; omega, (unhide HFI x hx).cre.2⟩) (by omega)
      obtain ⟨a, ha⟩ : ∃ a, a = (sumL (debL X)).1 := ⟨_, rfl⟩
      obtain ⟨ea, hea⟩ : ∃ a, a = (sumL (debL X)).2 := ⟨_, rfl⟩
      obtain ⟨b, hb⟩ : ∃ a, a = (sumL (creL X)).1 := ⟨_, rfl⟩
      obtain ⟨eb, heb⟩ : ∃ a, a = (sumL (creL X)).2 := ⟨_, rfl⟩
      unfold TotOut at D2 D3
      rw [← ha, ← hea] at D2
      rw [← hb, ← heb] at D3
      have HA := hide ha; have HEA := hide hea; have HBB := hide hb; have HEB := hide heb
      clear hX hL hP hok hfine hF ha hea hb heb hbad
      go_enter Tryz.func10, Tryz.ntmps10
      go_wp2_with (go_at_call 37; refine (unhide D0).mono ?_; rintro e w1 ⟨rfl, hw1⟩; rw [hw1]; clear hw1 w1)
      refine (unhide D1).mono ?_
      rintro e w1 ⟨rfl, hb1⟩
      have HB1 := hide hb1
      have d2 := hide (unhide D2 w1 hb1)
      clear hb1 D0 D1 D2
      go_wp2_with fail
      refine (unhide d2).mono ?_
      rintro e w2 ⟨rfl, hb2⟩
      have HB2 : Hid (Below w.heap.size w w2) := (unhide HB1).trans (hb2.mono (unhide HB1).size)
      have d3 := hide (unhide D3 w2 (unhide HB2))
      clear hb2 D3 d2 HB1
      go_wp2_with fail
      refine (unhide d3).mono ?_
      rintro e w3 ⟨rfl, hb3⟩
      have HB3 : Hid (Below w.heap.size w w3) := (unhide HB2).trans (hb3.mono (unhide HB2).size)
      clear hb3 d3 HB2
      obtain ⟨w4, hw4⟩ : ∃ w4, w4 = w3.alloc (.cells #[.int .i64 ea, .int .i64 eb] 24) := ⟨_, rfl⟩
      have hh4 : w4.heap[w3.heap.size]? = some (.cells #[.int .i64 ea, .int .i64 eb] 24) := by rw [hw4]; exact heap_new _ _
      have D4 := hide (or_two ea eb w3.heap.size w4 (by rw [cell_at hh4]; rfl) (by rw [cell_at hh4]; rfl))
      have HB4 : Hid (Below w.heap.size w w4) := by rw [hw4]; exact (unhide HB3).trans ((bal (Below.refl _ _) _).mono (unhide HB3).size)
      obtain ⟨oe, hoe⟩ : ∃ o, o = orE ea eb := ⟨_, rfl⟩
      rw [← hoe] at D4
      have HOE := hide hoe
      have hw4' := hw4.symm
      clear hh4 hw4 hoe
      go_wp2_with fail
      refine (unhide D4).mono ?_
      rintro e w5 ⟨rfl, hw5⟩
      rw [hw5]
      clear hw5 w5 hw4' D4
      by_cases ho : oe = 0
      · subst ho
        have heo := unhide HOE
        rw [unhide HEA, unhide HEB] at heo
        have hz1 : (sumL (debL X)).2 = 0 ∧ (sumL (creL X)).2 = 0 := by
          unfold orE at heo
          by_cases h0 : (sumL (debL X)).2 = 0
          · rw [if_pos h0] at heo; exact ⟨h0, heo.symm⟩
          · rw [if_neg h0] at heo; exact absurd heo.symm h0
        have hEE : errT (d : Int) X = 0 := by
          unfold errT
          rw [if_neg (unhide HB), if_neg (by rw [← unhide HF]; simp), ← heo]
        have HANS : Hid (ansT (d : Int) X = (triT d X, 0)) := by
          show _ = _
          unfold ansT
          rw [if_pos hEE]
          rfl
        have haA : isA a := by rw [unhide HA]; exact sumL_fits hz1.1
        have hbA : isA b := by rw [unhide HBB]; exact sumL_fits hz1.2
        obtain ⟨w5, hw5⟩ : ∃ W, W = w4.alloc (.cells #[.int .i64 (d : Int)] 83) := ⟨_, rfl⟩
        obtain ⟨w6, hw6⟩ : ∃ W, W = w5.alloc (.cells #[.int .i64 0, .int .i64 1, .int .i64 1] 86) := ⟨_, rfl⟩
        have b56 : Below w5.heap.size w5 w6 := by rw [hw6]; exact bal (Below.refl _ _) _
        have b45 : Below w4.heap.size w4 w5 := by rw [hw5]; exact bal (Below.refl _ _) _
        have b46 : Below w4.heap.size w4 w6 := b45.trans (b56.mono b45.size)
        have hbw6 : Below w.heap.size w w6 := (unhide HB4).trans (b46.mono (unhide HB4).size)
        have ht6 : w6.heap[w4.heap.size]? = some (.cells #[.int .i64 (d : Int)] 83) := by
          refine (b56.block _ ?_).trans ?_
          · rw [hw5]; simp
          · rw [hw5]; exact heap_new _ _
        have hl6 : w4.heap.size < w6.heap.size := (Array.getElem?_eq_some_iff.1 ht6).1
        have HTX : Hid (∀ W, Below w6.heap.size w6 W → W.cell? ⟨w4.heap.size, 0, none⟩ = some (.int .i64 (d : Int))) := fun W hb => by
          rw [cell_at ((hb.block _ hl6).trans ht6)]
          rfl
        have hs6 : w6.heap[w5.heap.size]? = some (.cells #[.int .i64 0, .int .i64 1, .int .i64 1] 86) := by rw [hw6]; exact heap_new _ _
        have D5 : Hid (Calls Tryz.prog 44 #[.slice (some ⟨w5.heap.size, 0, none⟩) 3 3] w6 (NewOut w6 [0, 1, 1])) := by
          refine newGrid_any (S := [0, 1, 1]) (W := w6) ⟨(fun e => by cases e), fun k hk => ?_⟩ (fun q hq => ?_)
          · refine ⟨w5.heap.size, 0, rfl, (Array.getElem?_eq_some_iff.1 hs6).1, fun j u hu => ?_⟩
            have hj : j = 0 := by
              have := (List.getElem?_eq_some_iff.1 hu).1
              simp [kG] at this
              exact this
            subst hj
            have hk3 : k = 0 ∨ k = 1 ∨ k = 2 := by simp at hk; omega
            rw [cell_at hs6]
            rcases hk3 with rfl | rfl | rfl <;> simpa [kG] using hu
          · cases hq
            exact ⟨_, (0, 0), hs6⟩
        have hw5' : w4.alloc (.cells #[.int .i64 (d : Int)] 83) = w5 := hw5.symm
        have hw6' : w5.alloc (.cells #[.int .i64 0, .int .i64 1, .int .i64 1] 86) = w6 := hw6.symm
        have HBW6 := hide hbw6
        have HPW6 := hide ((unhide HPW).below hbw6)
        have HLX6 := hide ((unhide HL).below hbw6)
        clear hw5 hw6 b56 b45 b46 hbw6 ht6 hl6 hs6 hEE hz1 heo
        go_wp2_with fail
        refine (unhide D5).mono ?_
        rintro e w7 ⟨gd, rfl, hG7, hb7⟩
        clear hw5' hw6' D5
        obtain ⟨w8, hw8⟩ : ∃ W, W = w7.alloc (.cells #[.string (txB [65, 99, 99, 111, 117, 110, 116]), .string (txB [68, 101, 98, 105, 116]), .string (txB [67, 114, 101, 100, 105, 116])] 9) := ⟨_, rfl⟩
        have b78 : Below w7.heap.size w7 w8 := by rw [hw8]; exact bal (Below.refl _ _) _
        have D6 : Hid (Calls Tryz.prog 45 #[.pointer (some ⟨gd, 0, none⟩), .slice (some ⟨w7.heap.size, 0, none⟩) 3 3] w8 (AddOut w6.heap.size w8 gd [0, 1, 1] [] hdT)) := by
          refine add_any (hG7.below b78) ?_ (by simp)
          rw [hw8]
          exact lit3 w7 _ _ _
        have HB8 : Hid (Below w6.heap.size w6 w8) := hb7.trans (b78.mono hb7.size)
        have hw8' : w7.alloc (.cells #[.string ⟨#[65, 99, 99, 111, 117, 110, 116]⟩, .string ⟨#[68, 101, 98, 105, 116]⟩, .string ⟨#[67, 114, 101, 100, 105, 116]⟩] 9) = w8 := hw8.symm
        clear hw8 b78 hb7 hG7
        go_wp2_with fail
        refine (unhide D6).mono ?_
        rintro e w9 ⟨⟨v9, rfl⟩, hG9, hd9⟩
        clear hw8' D6
        have hb9 : Below w6.heap.size w6 w9 := (unhide HB8).trans hd9.bel
        have l9 := unhide HTX w9 hb9
        obtain ⟨w10, hw10⟩ : ∃ W, W = w9.alloc (.cells #[.func (.func 47) #[] #[], .func (.func 48) #[.agg #[.int .i64 (d : Int)]] #[], .func (.func 49) #[.agg #[.int .i64 (d : Int)]] #[]] 89) := ⟨_, rfl⟩
        have b910 : Below w9.heap.size w9 w10 := by rw [hw10]; exact bal (Below.refl _ _) _
        have hb10 : Below w6.heap.size w6 w10 := hb9.trans (b910.mono hb9.size)
        have hh10 : w10.heap[w9.heap.size]? = some (.cells #[.func (.func 47) #[] #[], .func (.func 48) #[.agg #[.int .i64 (d : Int)]] #[], .func (.func 49) #[.agg #[.int .i64 (d : Int)]] #[]] 89) := by rw [hw10]; exact heap_new _ _
        have D7 : Hid (Calls Tryz.prog 46 #[.pointer (some ⟨gd, 0, none⟩), .slice p n c, .slice (some ⟨w9.heap.size, 0, none⟩) 3 3] w10 (SetOut w6.heap.size w10 gd [0, 1, 1] [hdT] (colsT d) X)) := by
          refine setM (hG9.below b910) (unhide HX) (fun W hW => (unhide HLX6).below (hb10.trans hW.bel)) (FS := colsT d) rfl (fun W hW j q hq => ?_) (unhide HFI) (colsT_ok hd' (fun W hW => (unhide HPW6).below (hb10.trans hW.bel))) (by simp; omega) (by decide)
          have hc := (hW.kept _ _ _ _ hh10 (by decide) (by decide)).trans hh10
          rw [Nat.zero_add, cell_at hc]
          have hj3 : j = 0 ∨ j = 1 ∨ j = 2 := by
            have := (List.getElem?_eq_some_iff.1 hq).1
            simp [colsT] at this
            omega
          rcases hj3 with rfl | rfl | rfl <;> (simp [colsT] at hq; subst hq; rfl)
        have hw10' := hw10.symm
        have HB10 := hide hb10
        clear hw10 b910 hb10 hh10 hG9 hd9 hb9
        go_wp2_with fail
        refine (unhide D7).mono ?_
        rintro e w11 ⟨⟨v11, rfl⟩, hG11, hd11⟩
        clear hw10' D7 l9
        have hb11 : Below w6.heap.size w6 w11 := (unhide HB10).trans hd11.bel
        have HB11 := hide hb11
        have HG11 := hide hG11
        have D8 : Hid (∀ z, isA z → ∀ W, Below w6.heap.size w6 W → Calls Tryz.prog 50 #[.agg #[.int .i64 (d : Int)], .int .i64 z] W (TxtOut W (txt z d))) := fun z hz W hb => amount_any z d hz hd' W ((unhide HPW6).below hb)
        have HAA := hide haA; have HBA := hide hbA
        have HT0 := unhide HTX w11.drew (below_drewN hb11 1)
        clear hG11 hd11 hb11 haA hbA
        go_upto_region 15 with fail
        refine wp_region_last (n := 9) (S := fun W => W.cell? ⟨w4.heap.size, 0, none⟩ = some (.int .i64 (d : Int))) (by kernel_rfl) HT0 (fun hHeld => ?_)
        refine tkW 0 ?_; refine tkN 1 ?_; refine tkW 2 ?_; refine tkN 4 ?_; refine tkW 5 ?_
        clear hHeld
        have d8 := hide (unhide D8 a (unhide HAA) w11.drew (below_drewN (unhide HB11) 1))
        refine wpAnyL_one (i := 3) (by kernel_rfl) rfl (fun KK hK => ?_)
        go_simp
        go_wp2_with (go_at_call 50; refine (unhide d8).mono ?_; rintro e w12 ⟨rfl, hb12⟩)
        have hb6a : Below w6.heap.size w6 w12 := (below_drewN (unhide HB11) 1).trans (hb12.mono (below_drewN (unhide HB11) 1).size)
        have d9 := hide (unhide D8 b (unhide HBA) w12 hb6a)
        have HB12 := hide hb6a
        have HC12 : Hid (Below w11.heap.size w11 w12) := (below_drewN (Below.refl _ _) 1).trans hb12
        refine hK.out _ _ (unhide HTX w12 hb6a) (fun hHeld => ?_)
        clear hK KK hHeld hb6a hb12 d8
        refine wpAnyL_one (i := 6) (by kernel_rfl) rfl (fun KK hK => ?_)
        go_simp
        go_wp2_with (go_at_call 50; refine (unhide d9).mono ?_; rintro e w13 ⟨rfl, hb13⟩)
        have hb6b : Below w6.heap.size w6 w13 := (unhide HB12).trans (hb13.mono (unhide HB12).size)
        have HB13 := hide hb6b
        have HC13 : Hid (Below w11.heap.size w11 w13) := (unhide HC12).trans (hb13.mono (unhide HC12).size)
        refine hK.out _ _ (unhide HTX w13 hb6b) (fun hHeld => ?_)
        clear hK KK hHeld hb6b hb13 d9
        obtain ⟨w14, hw14⟩ : ∃ W, W = w13.alloc (.cells #[.string (txB [83, 117, 109]), .string (txB (txt a d)), .string (txB (txt b d))] 9) := ⟨_, rfl⟩
        have b1314 : Below w13.heap.size w13 w14 := by rw [hw14]; exact bal (Below.refl _ _) _
        have hb14 : Below w6.heap.size w6 w14 := (unhide HB13).trans (b1314.mono (unhide HB13).size)
        have D9 : Hid (Calls Tryz.prog 45 #[.pointer (some ⟨gd, 0, none⟩), .slice (some ⟨w13.heap.size, 0, none⟩) 3 3] w14 (AddOut w6.heap.size w14 gd [0, 1, 1] ([hdT] ++ X.map (rowF (colsT d))) (sumT d a b))) := by
          refine add_any ((unhide HG11).below ((unhide HC13).trans (b1314.mono (unhide HC13).size))) ?_ (by have := unhide HX; simp; omega)
          rw [hw14]
          exact lit3 w13 _ _ _
        have HT14 := hide (unhide HTX w14 hb14)
        have HB14 := hide hb14
        have HW14 := hide hw14
        clear hw14 b1314 hb14
        refine wpAnyL_one (i := 7) (by kernel_rfl) rfl (fun KK hK => ?_)
        go_simp
        refine hK.out _ _ (by have h := unhide HT14; rw [unhide HW14] at h; exact h) (fun hHeld => ?_)
        clear hK KK hHeld
        change wpAnyL _ _ _ _ _ _ _ _ _ (w13.alloc (.cells #[.string (txB [83, 117, 109]), .string (txB (txt a d)), .string (txB (txt b d))] 9))
        rw [← unhide HW14]
        refine wpAnyL_one (i := 8) (by kernel_rfl) rfl (fun KK hK => ?_)
        go_simp
        go_wp2_with (go_at_call 45; refine (unhide D9).mono ?_; rintro e w15 ⟨⟨v15, rfl⟩, hG15, hd15⟩)
        have hb15 : Below w6.heap.size w6 w15 := (unhide HB14).trans hd15.bel
        have HB15 := hide hb15
        have hrows : [hdT] ++ X.map (rowF (colsT d)) ++ [sumT d a b] = rowsT d X := by
          unfold rowsT
          rw [unhide HA, unhide HBB]
          rfl
        rw [hrows] at hG15
        have D10 := hide (gtext_of hG15 (by decide) (rowsT_len d X) (M := 200) (rowsT_cell hd' (by decide) (fun x hx => by
          have := name_short (unhide HFI x hx).name
          have e : x.acc.data.toList.length = x.acc.size := by simp
          omega)) (by decide) (by rw [rowsT_count, unhide HX]; show _ * (3 * _ + 1) ≤ _; omega) (by rw [rowsT_count, unhide HX]; omega))
        refine hK.out _ _ (unhide HTX w15 hb15) (fun hHeld => ?_)
        clear hK KK hHeld hb15 hd15 hG15 hrows D9
        refine wpAnyL_done (by kernel_rfl) ?_
        go_wp2_with fail
        refine (unhide D10).mono ?_
        rintro e w16 ⟨rfl, hb16⟩
        have HB16 : Hid (Below w.heap.size w w16) := by
          have h1 : Below w.heap.size w w15 := (unhide HBW6).trans ((unhide HB15).mono (unhide HBW6).size)
          exact h1.trans (hb16.mono h1.size)
        clear hb16 D10
        go_wp2_with fail
        go_ret2
        exact ⟨by rw [unhide HANS]; rfl, unhide HB16⟩
      · have hob : (oe != 0) = true := by rw [bne_iff_ne]; exact ho
        have HE : Hid (ansT (d : Int) X = ([], oe)) := by
          have e : errT (d : Int) X = oe := by
            unfold errT
            rw [if_neg (unhide HB), if_neg (by rw [← unhide HF]; simp), unhide HOE, unhide HEA, unhide HEB]
          show _ = _
          unfold ansT
          rw [e, if_neg ho]
        go_wp2_with fail
        go_ret2
        exact ⟨by rw [unhide HE]; rfl, unhide HB4⟩
    · have hFb : (F != 0) = true := by rw [bne_iff_ne]; exact hF0
      have HE : Hid (ansT (d : Int) X = ([], F)) := by
        have e : errT (d : Int) X = F := by
          unfold errT
          rw [if_neg hbad, ← hF, if_pos hF0]
        show _ = _
        unfold ansT
        rw [e, if_neg hF0]
      clear hP hX hL hok hF hbad
      go_enter Tryz.func10, Tryz.ntmps10
      go_wp2_with (go_at_call 37; refine (unhide D0).mono ?_; rintro e w1 ⟨rfl, hw1⟩; rw [hw1]; clear hw1 w1)
      refine (unhide D1).mono ?_
      rintro e w1 ⟨rfl, hb1⟩
      have HB1 := hide hb1
      clear hb1
      go_wp2_with fail
      go_ret2
      exact ⟨by rw [unhide HE]; rfl, unhide HB1⟩
end Go.Proofs.YtcafhmlpmbkhkaaGreatDoor
