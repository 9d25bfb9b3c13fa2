import Derived.Test.YtcafhmlpmbkhkaaGreatDoorW27
import Derived.Test.YtcafhmlpmbkhkaaGreatDoorW29
import Derived.Test.YtcafhmlpmbkhkaaGreatDoorW42
import Derived.Test.YtcafhmlpmbkhkaaGreatDoorW28
/- SheetStatements (5): the law's walk. -/
namespace Go.Proofs.YtcafhmlpmbkhkaaGreatDoor
open Go Go.Shelf Go.ChangeShapes Go.WideShapes Go.ChangeAt Go.RowKit Go.Maps
set_option linter.unusedVariables false
set_option linter.unusedSimpArgs false
def zzQ (x : Qm) : Qm := ⟨x.key, x.acc, x.day, x.due, 13⟩
theorem flat_set4 : ∀ (L : List Qm) (q : Nat) (y : Qm), L[q]? = some y → (kQ.flat L).set (q * 5 + 4) (.int .i64 13) = kQ.flat (L.set q (zzQ y))
  | [], _, _, h => by simp at h
  | x :: L, 0, y, h => by
    simp at h
    subst h
    rfl
  | x :: L, q + 1, y, h => by
    have ih := flat_set4 L q y (by simpa using h)
    have e1 : kQ.flat (x :: L) = x.vals ++ kQ.flat L := rfl
    have e2 : kQ.flat ((x :: L).set (q + 1) (zzQ y)) = x.vals ++ kQ.flat (L.set q (zzQ y)) := rfl
    rw [e1, e2, ← ih]
    have hv : x.vals.length = 5 := rfl
    rw [List.set_append_right _ _ (by rw [hv]; omega), hv, show (q + 1) * 5 + 4 - 5 = q * 5 + 4 by omega]
def upQ (X : List Qm) (q : Nat) : List Qm := (X[q]?).elim X fun y => X.set q (zzQ y)
theorem upQ_len (X : List Qm) (q : Nat) : (upQ X q).length = X.length := by
  unfold upQ
  cases X[q]? <;> simp
theorem upQ_ok {X : List Qm} (h : ∀ x ∈ X, QmOk x) (q : Nat) : ∀ x ∈ upQ X q, QmOk x := fun x hx => by
  unfold upQ at hx
  cases hq : X[q]? with
  | none => rw [hq] at hx; exact h x hx
  | some y =>
    rw [hq] at hx
    have hy := h y (List.mem_of_getElem? hq)
    rcases List.mem_or_eq_of_mem_set hx with h1 | rfl
    · exact h x h1
    · exact ⟨hy.key, hy.day, hy.due, by show (-9223372036854775808 : Int) ≤ 13 ∧ (13 : Int) ≤ 9223372036854775807; decide⟩
attribute [local go_sem ↓] ldE_is
set_option maxRecDepth 100000 in
set_option maxHeartbeats 16000000 in
theorem statements_walk {w' : World} (hP' : Kg.Pw w') (hM' : Dy.Mon w') {p : Option Addr} {n c : Nat} {X : List Qm} (hX : X.length = n) (hc : p = none → c = 0) (hL' : Lies kQ w' p X) (hok : ∀ x ∈ X, QmOk x) (hn : n ≤ 1048576) (acc : ByteArray) (hacc : acc.size < 4611686018427387904) (a0 a1 a2 a3 a4 : Int)
    (hA : ∀ z ∈ [a0, a1, a2, a3, a4], fits64 z) (t : Int) (ht : fits64 t) (dg : Int) (hdg : fits64 dg) :
    Calls Tryz.prog 5 #[.string acc, .slice p n c, agV a0 a1 a2 a3 a4, .int .i64 t, .int .i64 dg] w' fun e W' => e = .returned (.bool true) ∧ Below w'.heap.size w' W' := by
  obtain ⟨w, hw⟩ : ∃ W, W = w'.alloc (ageO a0 a1 a2 a3 a4) := ⟨_, rfl⟩
  have bw : Below w'.heap.size w' w := by rw [hw]; exact bal (Below.refl _ _) _
  have hhw : w.heap[w'.heap.size]? = some (ageO a0 a1 a2 a3 a4) := by rw [hw]; exact heap_new _ _
  have HAG : Hid (∀ W, Below w.heap.size w W → (ldE (.pointer (some ⟨w'.heap.size, 0, none⟩))).run Tryz.prog W = .ok (agV a0 a1 a2 a3 a4) W) := fun W hb => run_ldE ((hb.block _ (Array.getElem?_eq_some_iff.1 hhw).1).trans hhw)
  have hP := hP'.below bw
  have hM := hM'.below bw
  have hL := hL'.below bw
  have HBW0 := hide bw
  have hw' : w'.alloc (.cells #[.int .i64 a0, .int .i64 a1, .int .i64 a2, .int .i64 a3, .int .i64 a4] 48) = w := hw.symm
  have D0 := hide (Kg.roomQ X p n c hX hc hn w hP hL)
  have HP := hide hP; have HX := hide hX; have HL := hide hL; have HOK := hide hok; have HMO := hide hM; have HAF := hide hA
  clear hP hX hL hok hc hM hP' hM' hL' bw hhw hw hA
  unfold agV
  go_enter Tryz.func5, Tryz.ntmps5
  go_wp2_with fail
  refine (unhide D0).mono ?_
  rintro e w1 ⟨g, c0, rfl, hown, hb1⟩
  have hcap : n + 64 ≤ c0 := by
    rcases hown.2 with ⟨h1, _⟩ | ⟨g', cap, cur, e1, _, _, h4, _⟩
    · cases h1
    · injection e1 with _ _ e3
      omega
  have hlen1 : (X ++ Kg.mklQ 700000 64).length = n + 64 := by rw [List.length_append, Kg.mklQ_len, unhide HX]
  have hlies1 : Lies kQ w1 (some ⟨g, 0, none⟩) (X ++ Kg.mklQ 700000 64) := own_lies kQ_ok hlen1 hown
  have hcI : (n : Int) ≤ (c0 : Int) := by omega
  have D1 := hide (statement_any ((unhide HP).below (below_drewN hb1 1)) ((unhide HMO).below (below_drewN hb1 1)) (c := c0) (unhide HX) (hlies1.take.below (below_drewN (Below.refl _ _) 1)) (unhide HOK) hn acc hacc a0 a1 a2 a3 a4 (unhide HAF) t ht dg hdg)
  obtain ⟨A, hA⟩ : ∃ A, A = ansS dg acc X [a0, a1, a2, a3, a4] t := ⟨_, rfl⟩
  obtain ⟨T, hT⟩ : ∃ T, T = txB A.1 := ⟨_, rfl⟩
  obtain ⟨E, hE⟩ : ∃ E, E = A.2 := ⟨_, rfl⟩
  rw [← hA] at D1
  unfold TriOut at D1
  rw [← hT, ← hE] at D1
  have D2 : Hid (∀ W, Below w.heap.size w W → Calls Tryz.prog 22 #[.string acc, .slice p n c, agV a0 a1 a2 a3 a4, .int .i64 t, .int .i64 dg] W fun e w' => e = .returned (.tuple #[.string T, .int .i64 E]) ∧ Below W.heap.size W w') := fun W hb => by
    have h := rstatement_any (w := W) (c := c) (unhide HX) ((unhide HL).below hb) (unhide HOK) hn acc hacc a0 a1 a2 a3 a4 (unhide HAF) t ht dg hdg
    unfold TriOut at h
    rw [← hA, ← hT, ← hE] at h
    exact h
  have HOWN := hide hown; have HB1 := hide hb1; have HLI1 := hide hlies1
  have HAG1 : Hid (∀ W, Below w1.heap.size w1 W → (ldE (.pointer (some ⟨w'.heap.size, 0, none⟩))).run Tryz.prog W = .ok (agV a0 a1 a2 a3 a4) W) := fun W hb => unhide HAG W ((unhide HB1).trans (hb.mono (unhide HB1).size))
  unfold agV at D1 D2 HAG HAG1
  clear hA hT hE hown hb1 hlies1 D0
  go_upto_region 2 with fail
  have hs0 := unhide HAG1 w1.drew (below_drewN (Below.refl _ _) 1)
  refine wp_region_last (n := 14) (S := fun W => (ldE (.pointer (some ⟨w'.heap.size, 0, none⟩))).run Tryz.prog W = .ok (.agg #[.int .i64 a0, .int .i64 a1, .int .i64 a2, .int .i64 a3, .int .i64 a4]) W) (by kernel_rfl) hs0 (fun hHeld => ?_)
  clear hs0
  refine tkW 0 ?_; refine tkW 1 ?_; refine tkW 2 ?_; refine tkW 3 ?_; refine tkW 4 ?_
  refine tkN 5 ?_
  refine tkW 6 ?_; refine tkW 7 ?_
  clear hHeld
  refine wpAnyL_one (i := 8) (by kernel_rfl) rfl (fun KK hK => ?_)
  go_simp
  go_wp2_with (go_at_call 21; refine (unhide D1).mono ?_; rintro e w2 ⟨rfl, hb2⟩)
  have hb12 : Below w1.heap.size w1 w2 := (below_drewN (Below.refl _ _) 1).trans hb2
  have HB2 := hide hb12
  refine hK.out _ _ (unhide HAG1 w2 hb12) (fun hHeld => ?_)
  clear hK KK hb2 hb12 D1
  refine tkW 9 ?_; refine tkW 10 ?_; refine tkW 11 ?_; refine tkW 12 ?_; refine tkW 13 ?_
  clear hHeld
  refine wpAnyL_done (by kernel_rfl) ?_
  have l2 := unhide HAG1 w2 (unhide HB2)
  have d2 := hide (unhide D2 w2 ((unhide HB1).trans ((unhide HB2).mono (unhide HB1).size)))
  clear D2
  go_wp2_with fail
  refine (unhide d2).mono ?_
  rintro e w3 ⟨rfl, hb3⟩
  have hb13 : Below w1.heap.size w1 w3 := (unhide HB2).trans (hb3.mono (unhide HB2).size)
  have hbw3 : Below w.heap.size w w3 := (unhide HB1).trans (hb13.mono (unhide HB1).size)
  have d3 := hide (Kg.keptQ X p (some ⟨g, 0, none⟩) n c c0 (unhide HX) (by omega) w3 ((unhide HP).below hbw3) ((unhide HL).below hbw3) ((unhide HLI1).below hb13))
  have HB13 := hide hb13
  have HBW3 := hide hbw3
  have DF : Hid (∀ W, Below w.heap.size w W → Calls Tryz.prog 14 #[] W fun e w' => e = .returned (.bool true) ∧ Below W.heap.size W w') := fun W hb => first_any W ((unhide HP).below hb)
  clear hb3 hb13 hbw3 d2 HB2 l2
  go_wp2_with (go_at_call 12; refine (like_yes _ _ _).mono ?_; rintro e wz ⟨rfl, hwz⟩; rw [hwz]; clear hwz wz)
  refine (unhide d3).mono ?_
  rintro e w4 ⟨rfl, hb4⟩
  have hbw4 : Below w.heap.size w w4 := (unhide HBW3).trans (hb4.mono (unhide HBW3).size)
  have HB14 : Hid (Below w1.heap.size w1 w4) := (unhide HB13).trans (hb4.mono (unhide HB13).size)
  have d4 := hide (unhide DF w4 hbw4)
  have HBW4 := hide hbw4
  clear hb4 hbw4 d3 DF HB13 HBW3
  go_wp2_with fail
  refine (unhide d4).mono ?_
  rintro e w5 ⟨rfl, hb5⟩
  have HB15 : Hid (Below w1.heap.size w1 w5) := (unhide HB14).trans (hb5.mono (unhide HB14).size)
  have HBW5 : Hid (Below w.heap.size w w5) := (unhide HBW4).trans (hb5.mono (unhide HBW4).size)
  have ho5 := own_below (unhide HOWN) (unhide HB15)
  have HG : Hid (w.heap.size ≤ g) := (ho5.lt g rfl).1
  have HO5 := hide ho5
  clear hb5 ho5 d4 HB14 HBW4
  obtain ⟨X2, hX2⟩ : ∃ X2, X2 = upQ X (n / 2) := ⟨_, rfl⟩
  have hX2l : X2.length = n := by rw [hX2, upQ_len, unhide HX]
  have hX2o : ∀ x ∈ X2, QmOk x := by rw [hX2]; exact upQ_ok (unhide HOK) _
  have HX2 := hide hX2; have HX2L := hide hX2l; have HX2O := hide hX2o
  have FIN : Hid (∀ W, Below w.heap.size w W → W.ownsRow w.heap.size 53 5 (.slice (some ⟨g, 0, none⟩) (n + 64) c0) (n + 64) (kQ.flat (X2 ++ Kg.mklQ 700000 64)) →
      ∃ p2 c2 w7, (Builtin.append_ #[46, 46] 46 #[.slice (some ⟨W.heap.size, 0, none⟩) 0 0, .slice (some ⟨g, 0, none⟩) n c0]).run Tryz.prog (W.alloc (.cells #[] 53)) = .ok (.slice p2 n c2) w7 ∧ Below W.heap.size W w7 ∧ Lies kQ w7 p2 X2) := fun W hb ho => by
    have b0 : Below W.heap.size W (W.alloc (.cells #[] 53)) := bal (Below.refl _ _) _
    have hl : Lies kQ (W.alloc (.cells #[] 53)) (some ⟨g, 0, none⟩) X2 := (own_lies kQ_ok (by rw [List.length_append, Kg.mklQ_len, unhide HX2L]) ho).take.below b0
    obtain ⟨p5, c5, w5, r5, o5, b5, _⟩ := run_app (K := kQ) kQ_ok (L := []) (M := X2) 46 (Kg.own_lit0Q W) b0.size (some ⟨g, 0, none⟩) c0 (fun h => by cases h) hl (by rw [unhide HX2L]; omega)
    rw [unhide HX2L, Nat.zero_add] at r5 o5
    rw [List.nil_append] at o5
    exact ⟨p5, c5, w5, r5, b0.trans (b5.mono (Nat.le_refl _)), own_lies kQ_ok (unhide HX2L) o5⟩
  obtain ⟨T2, hT2⟩ : ∃ T, T = txB (ansS dg acc X2 [a0, a1, a2, a3, a4] t).1 := ⟨_, rfl⟩
  obtain ⟨E2, hE2⟩ : ∃ E, E = (ansS dg acc X2 [a0, a1, a2, a3, a4] t).2 := ⟨_, rfl⟩
  have TAIL : Hid (∀ W, Below w.heap.size w W → Lies kQ W (some ⟨g, 0, none⟩) (X2 ++ Kg.mklQ 700000 64) → ∀ p2 c2 w7, Below W.heap.size W w7 → Lies kQ w7 p2 X2 →
      Calls Tryz.prog 21 #[.string acc, .slice (some ⟨g, 0, none⟩) n c0, .agg #[.int .i64 a0, .int .i64 a1, .int .i64 a2, .int .i64 a3, .int .i64 a4], .int .i64 t, .int .i64 dg] (w7.drewN 1) (fun e w8 => e = .returned (.tuple #[.string T2, .int .i64 E2]) ∧ Below w.heap.size w w8 ∧
        Calls Tryz.prog 22 #[.string acc, .slice p2 n c2, .agg #[.int .i64 a0, .int .i64 a1, .int .i64 a2, .int .i64 a3, .int .i64 a4], .int .i64 t, .int .i64 dg] w8 (fun e w9 => e = .returned (.tuple #[.string T2, .int .i64 E2]) ∧ Below w8.heap.size w8 w9 ∧
          Calls Tryz.prog 23 #[.slice (some ⟨g, 0, none⟩) (n + 64) c0, .slice p2 n c2] w9 (fun e w10 => e = .returned (.bool true) ∧ Below w.heap.size w w10)))) := fun W hb hl p2 c2 w7 hb7 hl7 => by
    have hw7 : Below w.heap.size w w7 := hb.trans (hb7.mono hb.size)
    have hw7d := below_drewN hw7 1
    have h7d : Below w7.heap.size w7 (w7.drewN 1) := below_drewN (Below.refl _ _) 1
    rw [hT2, hE2]
    refine (statement_any ((unhide HP).below hw7d) ((unhide HMO).below hw7d) (c := c0) (unhide HX2L) (hl.take.below (hb7.trans (h7d.mono hb7.size))) (unhide HX2O) hn acc hacc a0 a1 a2 a3 a4 (unhide HAF) t ht dg hdg).mono ?_
    rintro e w8 ⟨rfl, hb8⟩
    have h78 : Below w7.heap.size w7 w8 := h7d.trans (hb8.mono h7d.size)
    have hw8 : Below w.heap.size w w8 := hw7.trans (h78.mono hw7.size)
    refine ⟨rfl, hw8, ?_⟩
    refine (rstatement_any (w := w8) (c := c2) (unhide HX2L) (hl7.below h78) (unhide HX2O) hn acc hacc a0 a1 a2 a3 a4 (unhide HAF) t ht dg hdg).mono ?_
    rintro e w9 ⟨rfl, hb9⟩
    refine ⟨rfl, hb9, ?_⟩
    have hw9 : Below w.heap.size w w9 := hw8.trans (hb9.mono hw8.size)
    have h79 : Below w7.heap.size w7 w9 := h78.trans (hb9.mono h78.size)
    refine (Kg.keptQ X2 p2 (some ⟨g, 0, none⟩) n c2 c0 (unhide HX2L) (by omega) w9 ((unhide HP).below hw9) (hl7.below h79) (hl.below (hb7.trans (h79.mono hb7.size)))).mono ?_
    rintro e w10 ⟨rfl, hb10⟩
    exact ⟨rfl, hw9.trans (hb10.mono hw9.size)⟩
  have HAGW : Hid (∀ W, Below w.heap.size w W → (ldE (.pointer (some ⟨w'.heap.size, 0, none⟩))).run Tryz.prog W = .ok (.agg #[.int .i64 a0, .int .i64 a1, .int .i64 a2, .int .i64 a3, .int .i64 a4]) W) := HAG
  clear hX2 hX2l hX2o hT2 hE2
  by_cases hn0 : n = 0
  · have hz : X2 = X := by
      have hx0 : X = [] := List.eq_nil_of_length_eq_zero (by rw [unhide HX, hn0])
      rw [unhide HX2, hx0]
      rfl
    have ho := unhide HO5
    rw [← hz] at ho
    have HO := hide ho
    have hnI : ¬ (n : Int) > 0 := by omega
    have HN0 := hide hn0
    clear ho hz hn0
    obtain ⟨p2, c2, w7, r7, hb7, hl7⟩ := unhide FIN w5 (unhide HBW5) (unhide HO)
    have d10 := hide (unhide TAIL w5 (unhide HBW5) (own_lies kQ_ok (by rw [List.length_append, Kg.mklQ_len, unhide HX2L]) (unhide HO)) p2 c2 w7 hb7 hl7)
    have HR7 := hide r7
    have HB7 : Hid (Below w.heap.size w w7) := (unhide HBW5).trans (hb7.mono (unhide HBW5).size)
    clear r7 hb7 hl7 FIN TAIL
    go_upto_region 9 with (at_builtin; refine wpList_append_run rfl _ _ 46 rfl _ _ _ _ rfl rfl (unhide HR7) ?_)
    have hs0 := unhide HAGW w7.drew (below_drewN (unhide HB7) 1)
    refine wp_region_last (n := 14) (S := fun W => (ldE (.pointer (some ⟨w'.heap.size, 0, none⟩))).run Tryz.prog W = .ok (.agg #[.int .i64 a0, .int .i64 a1, .int .i64 a2, .int .i64 a3, .int .i64 a4]) W) (by kernel_rfl) hs0 (fun hHeld => ?_)
    clear hs0
    refine tkW 0 ?_; refine tkW 1 ?_; refine tkW 2 ?_; refine tkW 3 ?_; refine tkW 4 ?_
    refine tkN 5 ?_
    refine tkW 6 ?_; refine tkW 7 ?_
    clear hHeld
    refine wpAnyL_one (i := 8) (by kernel_rfl) rfl (fun KK hK => ?_)
    go_simp
    go_wp2_with (go_at_call 21; refine (unhide d10).mono ?_; rintro e w8 ⟨rfl, hw8, d11⟩)
    have D11 := hide d11
    have HW8 := hide hw8
    refine hK.out _ _ (unhide HAGW w8 hw8) (fun hHeld => ?_)
    clear hK KK hw8 d11 d10
    refine tkW 9 ?_; refine tkW 10 ?_; refine tkW 11 ?_; refine tkW 12 ?_; refine tkW 13 ?_
    clear hHeld
    refine wpAnyL_done (by kernel_rfl) ?_
    have l8 := unhide HAGW w8 (unhide HW8)
    go_wp2_with fail
    refine (unhide D11).mono ?_
    rintro e w9 ⟨rfl, hb9, d12⟩
    have D12 := hide d12
    clear hb9 d12 D11 l8
    go_wp2_with (go_at_call 12; refine (like_yes _ _ _).mono ?_; rintro e wz ⟨rfl, hwz⟩; rw [hwz]; clear hwz wz)
    refine (unhide D12).mono ?_
    rintro e w10 ⟨rfl, hb10⟩
    have HB10 := hide hb10
    clear hb10 D12
    go_wp2_with fail
    go_ret
    exact ⟨rfl, (unhide HBW0).trans ((unhide HB10).mono (unhide HBW0).size)⟩
  · have hnI : (n : Int) > 0 := by omega
    obtain ⟨q, hq⟩ : ∃ q, q = n / 2 := ⟨_, rfl⟩
    have hqn : q < n := by omega
    obtain ⟨y, hy⟩ : ∃ y, X[q]? = some y := ⟨X[q]'(by rw [unhide HX]; exact hqn), List.getElem?_eq_getElem _⟩
    have hyM : (X ++ Kg.mklQ 700000 64)[q]? = some y := by rw [List.getElem?_append_left (by rw [unhide HX]; exact hqn)]; exact hy
    have hfl : q * 5 + 4 < (kQ.flat (X ++ Kg.mklQ 700000 64)).length := by
      rw [(unhide HO5).1]
      omega
    have hc5 : w5.cell? ⟨g, q * 5 + 4, none⟩ ≠ none := by
      rw [(unhide HO5).cellAt (q * 5 + 4) (by omega), List.getElem?_eq_getElem hfl]
      simp
    obtain ⟨u5, hu5⟩ := Option.ne_none_iff_exists'.1 hc5
    have hf5 : w5.frozen? ⟨g, q * 5 + 4, none⟩ = false := (unhide HO5).frozenAt (q * 5 + 4)
    obtain ⟨w6, hw6⟩ : ∃ W, W = w5.setCell ⟨g, q * 5 + 4, none⟩ (.int .i64 13) := ⟨_, rfl⟩
    have hbw6 : Below w.heap.size w w6 := by rw [hw6]; exact (unhide HBW5).setCell (p := ⟨g, q * 5 + 4, none⟩) (unhide HG) _
    have ho6 : w6.ownsRow w.heap.size 53 5 (.slice (some ⟨g, 0, none⟩) (n + 64) c0) (n + 64) (kQ.flat (X2 ++ Kg.mklQ 700000 64)) := by
      have h := ((unhide HO5).stored (q * 5 + 4) (.int .i64 13)).1
      rw [flat_set4 _ q y hyM, List.set_append_left _ _ (by rw [unhide HX]; exact hqn)] at h
      have e : X2 = X.set q (zzQ y) := by rw [unhide HX2, ← hq]; unfold upQ; rw [hy]; rfl
      rw [e, hw6]
      exact h
    have HBW6 := hide hbw6; have HO6 := hide ho6
    have hq2 : (n : Int).tdiv 2 = (q : Int) := by rw [Int.tdiv_eq_ediv_of_nonneg (by omega)]; omega
    have hw6' := hw6.symm
    clear hw6 hbw6 ho6 hq hy hyM hfl hc5
    obtain ⟨p2, c2, w7, r7, hb7, hl7⟩ := unhide FIN w6 (unhide HBW6) (unhide HO6)
    have d10 := hide (unhide TAIL w6 (unhide HBW6) (own_lies kQ_ok (by rw [List.length_append, Kg.mklQ_len, unhide HX2L]) (unhide HO6)) p2 c2 w7 hb7 hl7)
    have HR7 := hide r7
    have HB7 : Hid (Below w.heap.size w w7) := (unhide HBW6).trans (hb7.mono (unhide HBW6).size)
    clear r7 hb7 hl7 FIN TAIL
    go_upto_region 9 with (at_builtin; refine wpList_append_run rfl _ _ 46 rfl _ _ _ _ rfl rfl (unhide HR7) ?_)
    have hs0 := unhide HAGW w7.drew (below_drewN (unhide HB7) 1)
    refine wp_region_last (n := 14) (S := fun W => (ldE (.pointer (some ⟨w'.heap.size, 0, none⟩))).run Tryz.prog W = .ok (.agg #[.int .i64 a0, .int .i64 a1, .int .i64 a2, .int .i64 a3, .int .i64 a4]) W) (by kernel_rfl) hs0 (fun hHeld => ?_)
    clear hs0
    refine tkW 0 ?_; refine tkW 1 ?_; refine tkW 2 ?_; refine tkW 3 ?_; refine tkW 4 ?_
    refine tkN 5 ?_
    refine tkW 6 ?_; refine tkW 7 ?_
    clear hHeld
    refine wpAnyL_one (i := 8) (by kernel_rfl) rfl (fun KK hK => ?_)
    go_simp
    go_wp2_with (go_at_call 21; refine (unhide d10).mono ?_; rintro e w8 ⟨rfl, hw8, d11⟩)
    have D11 := hide d11
    have HW8 := hide hw8
    refine hK.out _ _ (unhide HAGW w8 hw8) (fun hHeld => ?_)
    clear hK KK hw8 d11 d10
    refine tkW 9 ?_; refine tkW 10 ?_; refine tkW 11 ?_; refine tkW 12 ?_; refine tkW 13 ?_
    clear hHeld
    refine wpAnyL_done (by kernel_rfl) ?_
    have l8 := unhide HAGW w8 (unhide HW8)
    go_wp2_with fail
    refine (unhide D11).mono ?_
    rintro e w9 ⟨rfl, hb9, d12⟩
    have D12 := hide d12
    clear hb9 d12 D11 l8
    go_wp2_with (go_at_call 12; refine (like_yes _ _ _).mono ?_; rintro e wz ⟨rfl, hwz⟩; rw [hwz]; clear hwz wz)
    refine (unhide D12).mono ?_
    rintro e w10 ⟨rfl, hb10⟩
    have HB10 := hide hb10
    clear hb10 D12
    go_wp2_with fail
    go_ret
    exact ⟨rfl, (unhide HBW0).trans ((unhide HB10).mono (unhide HBW0).size)⟩
end Go.Proofs.YtcafhmlpmbkhkaaGreatDoor
/- A list of claims as an argument, opened. -/
namespace Go.Proofs.YtcafhmlpmbkhkaaGreatDoor
open Go.Deep Go Go.RowKit Go.Shelf Go.ChangeShapes Go.WideShapes Go.ChangeAt Go.Maps
set_option linter.unusedVariables false
set_option linter.unusedSimpArgs false
set_option maxRecDepth 100000
set_option maxHeartbeats 8000000
theorem cells53 : Tryz.prog.cellsOf 53 = 5 := by kernel_rfl
theorem clQ {α : Type} {cs : List α} (h : cs.length = 5) : ∃ c0 c1 c2 c3 c4, cs = [c0, c1, c2, c3, c4] := by
  match cs, h with
  | [c0, c1, c2, c3, c4], _ => exact ⟨c0, c1, c2, c3, c4, rfl⟩
def wQ (x : Qm) : Nat := x.key.size + x.acc.size + 1
/-- the numbers of one that comes in -/
structure IQ (x : Qm) : Prop where
  day : -9223372036854775808 ≤ x.day ∧ x.day ≤ 9223372036854775807
  due : -9223372036854775808 ≤ x.due ∧ x.due ≤ 9223372036854775807
  amt : -9223372036854775808 ≤ x.amt ∧ x.amt ≤ 9223372036854775807
section
variable {H : Type} {enc : TypeId × Value → H} {W : World}
theorem trodSQ {P : Program} {w : World} {base : Nat} {spare : Nat → Bool} {held : Bool} {t : TypeId} {f0 f1 f2 f3 f4 : Field} {fuel : Nat} {cs : List Value} {x : DataW H × List MemPlace} (ht : P.underlying t = some (.struct #[f0, f1, f2, f3, f4])) (h : DataW.trod enc P w base spare held fuel t cs = some x) :
    ∃ (y0 y1 y2 y3 y4 : DataW H × List MemPlace) (n : Nat), x.1 = .agg [y0.1, y1.1, y2.1, y3.1, y4.1] ∧ cs.length = P.cellsOf t ∧ DataW.trod enc P w base spare held n f0.type ((cs.drop f0.offset).take (P.cellsOf f0.type)) = some y0 ∧ DataW.trod enc P w base spare held n f1.type ((cs.drop f1.offset).take (P.cellsOf f1.type)) = some y1 ∧ DataW.trod enc P w base spare held n f2.type ((cs.drop f2.offset).take (P.cellsOf f2.type)) = some y2 ∧ DataW.trod enc P w base spare held n f3.type ((cs.drop f3.offset).take (P.cellsOf f3.type)) = some y3 ∧ DataW.trod enc P w base spare held n f4.type ((cs.drop f4.offset).take (P.cellsOf f4.type)) = some y4 := by
  obtain ⟨xs, n, _, rfl, hl, hlen, hf⟩ := DataW.trod_struct ht h
  match xs, hlen with
  | [y0, y1, y2, y3, y4], _ => exact ⟨y0, y1, y2, y3, y4, n, by simp, hl, by simpa using hf 0 f0 rfl, by simpa using hf 1 f1 rfl, by simpa using hf 2 f2 rfl, by simpa using hf 3 f3 rfl, by simpa using hf 4 f4 rfl⟩
theorem openQ {fuel : Nat} {cs : List Value} {x : DataW H × List MemPlace} (h : DataW.trod enc Tryz.prog W 0 (fun _ => true) true fuel 53 cs = some x) :
    ∃ r : Qm, cs = r.vals ∧ wQ r ≤ Rows.uptoBulk x.1 ∧ IQ r := by
  obtain ⟨y0, y1, y2, y3, y4, n, hx, hl, g0, g1, g2, g3, g4⟩ := trodSQ Tryz.underlying53 h
  rw [cells53] at hl
  obtain ⟨c0, c1, c2, c3, c4, rfl⟩ := clQ hl
  clear h hl
  simp only [cells2, cells3, cells4, cells9, List.drop_zero, List.drop_succ_cons, List.take_succ_cons, List.take_zero] at g0 g1 g2 g3 g4
  obtain ⟨s0, e0, x0, _⟩ := DataW.trod_string Tryz.underlying9 g0
  obtain ⟨s1, e1, x1, _⟩ := DataW.trod_string Tryz.underlying9 g1
  obtain ⟨s2, e2, _, z2⟩ := DataW.trod_int Tryz.underlying3 g2
  obtain ⟨s3, e3, _, z3⟩ := DataW.trod_int Tryz.underlying3 g3
  obtain ⟨s4, e4, _, z4⟩ := DataW.trod_int Tryz.underlying2 g4
  simp only [List.cons.injEq, and_true] at e0 e1 e2 e3 e4
  refine ⟨⟨s0, s1, s2, s3, s4⟩, by rw [e0, e1, e2, e3, e4]; rfl, ?_, ⟨i64_in z2, i64_in z3, i64_in z4⟩⟩
  show s0.size + s1.size + 1 ≤ _
  rw [hx]
  have b0 : Rows.uptoBulk y0.1 = s0.size + 1 := by rw [x0]; simp [Rows.uptoBulk]
  have b1 : Rows.uptoBulk y1.1 = s1.size + 1 := by rw [x1]; simp [Rows.uptoBulk]
  simp only [Rows.uptoBulk, Rows.uptoBulkAll]
  omega
theorem opensQ {fuel : Nat} {v : Value} {x : DataW H × List MemPlace} (h : DataW.trod enc Tryz.prog W 0 (fun _ => true) true fuel 46 [v] = some x) :
    ∃ (p : Option Addr) (c : Nat) (L : List Qm), v = .slice p L.length c ∧ (p = none → c = 0) ∧ Lies kQ W p L ∧ (L.map wQ).sum + 1 ≤ Rows.uptoBulk x.1 ∧ ∀ y ∈ L, IQ y := by
  rcases open_slice Tryz.underlying46 h with ⟨hcs, hx⟩ | ⟨a, len, cap, m, n, D, Pl, hcs, hb, hl, hm, hmm, hx, hall⟩
  · simp only [List.cons.injEq, and_true] at hcs
    exact ⟨none, 0, [], hcs, fun _ => rfl, Lies.nil _ _, by have := one_le x.1; simpa using this, fun y hy => (by cases hy)⟩
  · simp only [List.cons.injEq, and_true] at hcs
    have hmm' : m = cap := by simpa using hmm
    have hd : x.1 = .slice ((List.range len).map D) ((List.range (m - len)).map fun j => D (len + j)) := (Prod.mk.inj hx).1
    have hq : ∀ i, i < len → ∃ y : Qm, (∃ b off, some a = some (⟨b, off, none⟩ : Addr) ∧ b < W.heap.size ∧ W.rangeAt b (off + i * 5) y.vals) ∧ wQ y ≤ Rows.uptoBulk (D i) ∧ IQ y := fun i hi => by
      obtain ⟨cs', h1, h2⟩ := hall i (by omega)
      obtain ⟨y, hy, hwt, hpo⟩ := openQ h2
      rw [cells53] at h1
      obtain ⟨_, hlen, hc⟩ := World.cells?_some h1
      have hs : a.spot = none := by
        obtain ⟨cz, hz1, hz2⟩ := hall 0 (by omega)
        obtain ⟨rz, hrz, _, _⟩ := openQ hz2
        rw [cells53] at hz1
        obtain ⟨_, _, hcz⟩ := World.cells?_some hz1
        have h3 := hcz 0 (by omega)
        rw [hrz] at h3
        simpa [Addr.add] using World.cell?_spot h3
      obtain ⟨b, off, sp⟩ := a
      simp only at hs
      subst hs
      refine ⟨y, ⟨b, off, rfl, ?_, fun j u hj => ?_⟩, hwt, hpo⟩
      · have h3 := hc 0 (by omega)
        rw [hy] at h3
        rw [add_add, Addr.add_mid] at h3
        exact World.block_lt_of_cell? W _ h3
      · have hj' : j < 5 := (List.getElem?_eq_some_iff.1 hj).1
        have h3 := hc j hj'
        rw [hy, hj, add_add, Addr.add_mid, ← Nat.add_assoc] at h3
        exact h3
    obtain ⟨L, hL, hall⟩ := choose_list len hq
    have hsum := sum_bulk wQ D L (fun i hi => (hall i hi).2.1)
    refine ⟨some a, cap, L, by rw [hL]; exact hcs, (fun h => by cases h), ⟨(fun h => by cases h), fun k hk => (hall k hk).1⟩, ?_, fun y hy => ?_⟩
    · rw [hd]
      simp only [Rows.uptoBulk]
      rw [hL] at hsum
      omega
    · obtain ⟨k, hk, rfl⟩ := List.mem_iff_getElem.1 hy
      exact (hall k hk).2.2

/-- the argument itself -/
theorem argQ {base : Nat} {v : Value} {d : DataW H} {p : List MemPlace} (hok : Value.okWide Tryz.prog W .any base 46 v) (h : ∃ fuel, DataW.trod enc Tryz.prog W 0 (fun _ => true) true fuel 46 v.cells.toList = some (d, p)) (hk : Rows.uptoBulk d ≤ 1048576) :
    ∃ pX cX X, v = .slice pX (X : List Qm).length cX ∧ (pX = none → cX = 0) ∧ Lies kQ W pX X ∧ X.length ≤ 1048576 ∧ (∀ y ∈ X, wQ y ≤ 1048576 ∧ IQ y) := by
  obtain ⟨a0, len0, cap0, rfl⟩ := okWide_slice Tryz.underlying46 hok
  obtain ⟨fuel, hf⟩ := h
  obtain ⟨pX, cX, X, e, h0, hl, hs, hi⟩ := opensQ hf
  have lX := len_sum wQ (fun x => by unfold wQ; omega) X
  have hs' : (X.map wQ).sum + 1 ≤ Rows.uptoBulk d := hs
  refine ⟨pX, cX, X, e, h0, hl, by omega, fun y hy => ⟨?_, hi y hy⟩⟩
  have := mem_sum wQ hy
  omega
end
end Go.Proofs.YtcafhmlpmbkhkaaGreatDoor
