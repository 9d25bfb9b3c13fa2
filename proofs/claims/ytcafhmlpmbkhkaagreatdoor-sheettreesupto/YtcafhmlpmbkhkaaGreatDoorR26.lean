import Derived.Test.YtcafhmlpmbkhkaaGreatDoorR24
import Derived.Test.YtcafhmlpmbkhkaaGreatDoorR25
namespace Go.Proofs.YtcafhmlpmbkhkaaGreatDoor
open Go Go.Shelf Go.ChangeShapes Go.WideShapes Go.ChangeAt Go.RowKit Go.Maps
set_option linter.unusedVariables false
set_option linter.unusedSimpArgs false
def zzV (x : Bv) : Bv := ⟨x.acc, x.own, 7⟩
theorem flat_set2 : ∀ (L : List Bv) (q : Nat) (y : Bv), L[q]? = some y → (kV.flat L).set (q * 3 + 2) (.int .i64 7) = kV.flat (L.set q (zzV y))
  | [], _, _, h => by simp at h
  | x :: L, 0, y, h => by
    simp at h
    subst h
    rfl
  | x :: L, q + 1, y, h => by
    have ih := flat_set2 L q y (by simpa using h)
    have e1 : kV.flat (x :: L) = x.vals ++ kV.flat L := rfl
    have e2 : kV.flat ((x :: L).set (q + 1) (zzV y)) = x.vals ++ kV.flat (L.set q (zzV y)) := rfl
    rw [e1, e2, ← ih]
    have hv : x.vals.length = 3 := rfl
    rw [List.set_append_right _ _ (by rw [hv]; omega), hv, show (q + 1) * 3 + 2 - 3 = q * 3 + 2 by omega]
def upV (X : List Bv) (q : Nat) : List Bv := (X[q]?).elim X fun y => X.set q (zzV y)
theorem upV_len (X : List Bv) (q : Nat) : (upV X q).length = X.length := by
  unfold upV
  cases X[q]? <;> simp
theorem upV_ok {X : List Bv} (h : ∀ x ∈ X, BvOk x) (q : Nat) : ∀ x ∈ upV X q, BvOk x := fun x hx => by
  unfold upV at hx
  cases hq : X[q]? with
  | none => rw [hq] at hx; exact h x hx
  | some y =>
    rw [hq] at hx
    have hy := h y (List.mem_of_getElem? hq)
    rcases List.mem_or_eq_of_mem_set hx with h1 | rfl
    · exact h x h1
    · exact ⟨hy.acc, hy.own, by show fits64 7; unfold fits64; omega⟩
set_option maxRecDepth 100000 in
set_option maxHeartbeats 16000000 in
theorem trees_walk {w0 : World} (hP0 : Kg.Pw w0) {pa : Option Addr} {na ca : Nat} {L : List Ch.Ac} (hLn : L.length = na) (hpa : pa = none → ca = 0) (hLL0 : Lies Ch.kA w0 pa L) (hna : na ≤ 1048576) (hsz : ∀ a ∈ L, (Ch.txN a.nm).size ≤ 1048576) (hty : ∀ a ∈ L, fits64 a.ty) {p : Option Addr} {n c : Nat} {X : List Bv} (hX : X.length = n) (hc : p = none → c = 0) (hcap : n ≤ c) (hL0 : Lies kV w0 p X) (hok : ∀ x ∈ X, BvOk x) (hn : n ≤ 1048576) (dg : Int) (hdg : fits64 dg) :
    Calls Tryz.prog 8 #[.slice pa na ca, .slice p n c, .int .i64 dg] w0 fun e W' => e = .returned (.bool true) ∧ Below w0.heap.size w0 W' := by
  have D00 := hide (Kg.roomA L pa na ca hLn hpa hna w0 hP0 hLL0)
  have HP0 := hide hP0; have HLL0 := hide hLL0; have HL0 := hide hL0; have HX0 := hide hX; have HLN := hide hLn; have HC0 := hide hc; have HOK := hide hok; have HSZ := hide hsz; have HTY := hide hty; have HPA := hide hpa; have HCAP := hide hcap
  clear hP0 hLL0 hL0 hX hLn hc hok hsz hty hpa hcap
  go_enter Tryz.func8, Tryz.ntmps8
  go_wp2_with fail
  refine (unhide D00).mono ?_
  rintro e w ⟨ga, ka, rfl, hownA, hbA⟩
  have hcapA : na + 64 ≤ ka := by
    rcases hownA.2 with ⟨h1, _⟩ | ⟨g', cap, cur, e1, _, _, h4, _⟩
    · cases h1
    · injection e1 with _ _ e3
      omega
  have hlenA : (L ++ Kg.mklA 700000 64).length = na + 64 := by rw [List.length_append, Kg.mklA_len, unhide HLN]
  have hliesA : Lies Ch.kA w (some ⟨ga, 0, none⟩) (L ++ Kg.mklA 700000 64) := own_lies Ch.kA_ok hlenA hownA
  have hcA : (na : Int) ≤ (ka : Int) := by omega
  have HBW0 := hide hbA
  have HLA : Hid (∀ W, Below w.heap.size w W → Lies Ch.kA W (some ⟨ga, 0, none⟩) (L ++ Kg.mklA 700000 64) ∧ Lies Ch.kA W pa L) := fun W hb => ⟨hliesA.below hb, (unhide HLL0).below (hbA.trans (hb.mono hbA.size))⟩
  have hP := (unhide HP0).below hbA
  have hL := (unhide HL0).below hbA
  have hX := unhide HX0
  have D0 := hide (Kg.roomV X p n c hX (unhide HC0) hn w hP hL)
  have HP := hide hP; have HX := hide hX; have HL := hide hL
  clear hP hX hL hownA hbA hlenA hliesA D00
  go_wp2_with fail
  refine (unhide D0).mono ?_
  rintro e w1 ⟨g, c0, rfl, hown, hb1⟩
  have hcap : n + 64 ≤ c0 := by
    rcases hown.2 with ⟨h1, _⟩ | ⟨g', cap, cur, e1, _, _, h4, _⟩
    · cases h1
    · injection e1 with _ _ e3
      omega
  have hlen1 : (X ++ Kg.mklV 700000 64).length = n + 64 := by rw [List.length_append, Kg.mklV_len, unhide HX]
  have hlies1 : Lies kV w1 (some ⟨g, 0, none⟩) (X ++ Kg.mklV 700000 64) := own_lies kV_ok hlen1 hown
  have hcI : (n : Int) ≤ (c0 : Int) := by omega
  have D1 := hide (tree_any ((unhide HP).below (below_drewN hb1 1)) (ca := ka) (c := c0) (unhide HLN) (unhide HLA _ (below_drewN hb1 1)).1.take hna (unhide HSZ) (unhide HX) (hlies1.take.below (below_drewN (Below.refl _ _) 1)) (unhide HOK) hn dg hdg)
  obtain ⟨A, hA⟩ : ∃ A, A = ansW dg L X := ⟨_, rfl⟩
  obtain ⟨T, hT⟩ : ∃ T, T = txB A.1 := ⟨_, rfl⟩
  obtain ⟨E, hE⟩ : ∃ E, E = A.2 := ⟨_, rfl⟩
  rw [← hA] at D1
  unfold TriOut at D1
  rw [← hT, ← hE] at D1
  have D2 : Hid (∀ W, Below w.heap.size w W → Calls Tryz.prog 34 #[.slice pa na ca, .slice p n c, .int .i64 dg] W fun e w' => e = .returned (.tuple #[.string T, .int .i64 E]) ∧ Below W.heap.size W w') := fun W hb => by
    have h := rtree_any (w := W) (ca := ca) (c := c) (unhide HLN) (unhide HLA W hb).2 (unhide HPA) hna (unhide HSZ) (unhide HX) ((unhide HL).below hb) (unhide HCAP) (unhide HOK) hn dg hdg
    unfold TriOut at h
    rw [← hA, ← hT, ← hE] at h
    exact h
  have HOWN := hide hown; have HB1 := hide hb1; have HLI1 := hide hlies1
  clear hA hT hE hown hb1 hlies1 D0
  go_upto_region 3 with fail
  refine wp_region_last (n := 15) (S := fun _ => True) (by kernel_rfl) trivial (fun hHeld => ?_)
  refine tkW 0 ?_; refine tkW 1 ?_; refine tkW 2 ?_; refine tkW 3 ?_; refine tkW 4 ?_; refine tkW 5 ?_; refine tkW 6 ?_; refine tkW 7 ?_; refine tkW 8 ?_
  clear hHeld
  refine wpAnyL_one (i := 9) (by kernel_rfl) rfl (fun KK hK => ?_)
  go_simp
  go_wp2_with (go_at_call 33; refine (unhide D1).mono ?_; rintro e w2 ⟨rfl, hb2⟩)
  have hb12 : Below w1.heap.size w1 w2 := (below_drewN (Below.refl _ _) 1).trans hb2
  have HB2 := hide hb12
  refine hK.out _ _ trivial (fun hHeld => ?_)
  clear hK KK hb2 hb12 D1
  refine tkW 10 ?_; refine tkW 11 ?_; refine tkW 12 ?_; refine tkW 13 ?_; refine tkW 14 ?_
  clear hHeld
  refine wpAnyL_done (by kernel_rfl) ?_
  have d2 := hide (unhide D2 w2 ((unhide HB1).trans ((unhide HB2).mono (unhide HB1).size)))
  clear D2
  go_wp2_with fail
  refine (unhide d2).mono ?_
  rintro e w3 ⟨rfl, hb3⟩
  have hb13 : Below w1.heap.size w1 w3 := (unhide HB2).trans (hb3.mono (unhide HB2).size)
  have hbw3 : Below w.heap.size w w3 := (unhide HB1).trans (hb13.mono (unhide HB1).size)
  have d3 := hide (Kg.keptA L pa (some ⟨ga, 0, none⟩) na ca ka (unhide HLN) (by omega) w3 ((unhide HP).below hbw3) (unhide HLA w3 hbw3).2 (unhide HLA w3 hbw3).1)
  have d3b : Hid (∀ W, Below w3.heap.size w3 W → Calls Tryz.prog 35 #[.slice (some ⟨g, 0, none⟩) (n + 64) c0, .slice p n c] W fun e w' => e = .returned (.bool true) ∧ Below W.heap.size W w') := fun W hb => Kg.keptV X p (some ⟨g, 0, none⟩) n c c0 (unhide HX) (by omega) W ((unhide HP).below (hbw3.trans (hb.mono hbw3.size))) ((unhide HL).below (hbw3.trans (hb.mono hbw3.size))) ((unhide HLI1).below (hb13.trans (hb.mono hb13.size)))
  have HB13 := hide hb13
  have HBW3 := hide hbw3
  have DF : Hid (∀ W, Below w.heap.size w W → Calls Tryz.prog 14 #[] W fun e w' => e = .returned (.bool true) ∧ Below W.heap.size W w') := fun W hb => first_any W ((unhide HP).below hb)
  clear hb3 hb13 hbw3 d2 HB2
  go_wp2_with (go_at_call 12; refine (like_yes _ _ _).mono ?_; rintro e wz ⟨rfl, hwz⟩; rw [hwz]; clear hwz wz)
  refine (unhide d3).mono ?_
  rintro e w3a ⟨rfl, hb3a⟩
  have d3c := hide (unhide d3b w3a hb3a)
  have HB3A := hide hb3a
  clear hb3a d3b d3
  go_wp2_with fail
  refine (unhide d3c).mono ?_
  rintro e w4 ⟨rfl, hb4'⟩
  have hb4 : Below w3.heap.size w3 w4 := (unhide HB3A).trans (hb4'.mono (unhide HB3A).size)
  have hbw4 : Below w.heap.size w w4 := (unhide HBW3).trans (hb4.mono (unhide HBW3).size)
  have HB14 : Hid (Below w1.heap.size w1 w4) := (unhide HB13).trans (hb4.mono (unhide HB13).size)
  have d4 := hide (unhide DF w4 hbw4)
  have HBW4 := hide hbw4
  clear hb4 hb4' hbw4 d3c DF HB13 HBW3 HB3A
  go_wp2_with fail
  refine (unhide d4).mono ?_
  rintro e w5 ⟨rfl, hb5⟩
  have HB15 : Hid (Below w1.heap.size w1 w5) := (unhide HB14).trans (hb5.mono (unhide HB14).size)
  have HBW5 : Hid (Below w.heap.size w w5) := (unhide HBW4).trans (hb5.mono (unhide HBW4).size)
  have ho5 := own_below (unhide HOWN) (unhide HB15)
  have HG : Hid (w.heap.size ≤ g) := (ho5.lt g rfl).1
  have HO5 := hide ho5
  clear hb5 ho5 d4 HB14 HBW4
  obtain ⟨X2, hX2⟩ : ∃ X2, X2 = upV X (n / 2) := ⟨_, rfl⟩
  have hX2l : X2.length = n := by rw [hX2, upV_len, unhide HX]
  have hX2o : ∀ x ∈ X2, BvOk x := by rw [hX2]; exact upV_ok (unhide HOK) _
  have HX2 := hide hX2; have HX2L := hide hX2l; have HX2O := hide hX2o
  have FIN : Hid (∀ W, Below w.heap.size w W → W.ownsRow w.heap.size 72 3 (.slice (some ⟨g, 0, none⟩) (n + 64) c0) (n + 64) (kV.flat (X2 ++ Kg.mklV 700000 64)) →
      ∃ p2 c2 w7, (Builtin.append_ #[67, 67] 67 #[.slice (some ⟨W.heap.size, 0, none⟩) 0 0, .slice (some ⟨g, 0, none⟩) n c0]).run Tryz.prog (W.alloc (.cells #[] 72)) = .ok (.slice p2 n c2) w7 ∧ Below W.heap.size W w7 ∧ Lies kV w7 p2 X2 ∧ n ≤ c2) := fun W hb ho => by
    have b0 : Below W.heap.size W (W.alloc (.cells #[] 72)) := bal (Below.refl _ _) _
    have hl : Lies kV (W.alloc (.cells #[] 72)) (some ⟨g, 0, none⟩) X2 := (own_lies kV_ok (by rw [List.length_append, Kg.mklV_len, unhide HX2L]) ho).take.below b0
    obtain ⟨p5, c5, w5, r5, o5, b5, _⟩ := run_app (K := kV) kV_ok (L := []) (M := X2) 67 (Kg.own_lit0V W) b0.size (some ⟨g, 0, none⟩) c0 (fun h => by cases h) hl (by rw [unhide HX2L]; omega)
    rw [unhide HX2L, Nat.zero_add] at r5 o5
    rw [List.nil_append] at o5
    have hc5 : n ≤ c5 := by
      obtain ⟨p6, c6, e, q1, q2⟩ := row_slice o5
      cases e
      cases p5 with
      | none => have := (q1 rfl).1; omega
      | some a => exact (q2 a rfl).2.2.2
    exact ⟨p5, c5, w5, r5, b0.trans (b5.mono (Nat.le_refl _)), own_lies kV_ok (unhide HX2L) o5, hc5⟩
  obtain ⟨T2, hT2⟩ : ∃ T, T = txB (ansW dg L X2).1 := ⟨_, rfl⟩
  obtain ⟨E2, hE2⟩ : ∃ E, E = (ansW dg L X2).2 := ⟨_, rfl⟩
  have TAIL : Hid (∀ W, Below w.heap.size w W → Lies kV W (some ⟨g, 0, none⟩) (X2 ++ Kg.mklV 700000 64) → ∀ p2 c2 w7, Below W.heap.size W w7 → Lies kV w7 p2 X2 → n ≤ c2 →
      Calls Tryz.prog 33 #[.slice (some ⟨ga, 0, none⟩) na ka, .slice (some ⟨g, 0, none⟩) n c0, .int .i64 dg] (w7.drewN 1) (fun e w8 => e = .returned (.tuple #[.string T2, .int .i64 E2]) ∧ Below w.heap.size w w8 ∧
        Calls Tryz.prog 34 #[.slice pa na ca, .slice p2 n c2, .int .i64 dg] w8 (fun e w9 => e = .returned (.tuple #[.string T2, .int .i64 E2]) ∧ Below w8.heap.size w8 w9 ∧
          Calls Tryz.prog 28 #[.slice (some ⟨ga, 0, none⟩) (na + 64) ka, .slice pa na ca] w9 (fun e w9a => e = .returned (.bool true) ∧ Below w9.heap.size w9 w9a ∧
            Calls Tryz.prog 35 #[.slice (some ⟨g, 0, none⟩) (n + 64) c0, .slice p2 n c2] w9a (fun e w10 => e = .returned (.bool true) ∧ Below w.heap.size w w10))))) := fun W hb hl p2 c2 w7 hb7 hl7 hc7 => by
    have hw7 : Below w.heap.size w w7 := hb.trans (hb7.mono hb.size)
    have hw7d := below_drewN hw7 1
    have h7d : Below w7.heap.size w7 (w7.drewN 1) := below_drewN (Below.refl _ _) 1
    rw [hT2, hE2]
    refine (tree_any ((unhide HP).below hw7d) (ca := ka) (c := c0) (unhide HLN) (unhide HLA _ hw7d).1.take hna (unhide HSZ) (unhide HX2L) (hl.take.below (hb7.trans (h7d.mono hb7.size))) (unhide HX2O) hn dg hdg).mono ?_
    rintro e w8 ⟨rfl, hb8⟩
    have h78 : Below w7.heap.size w7 w8 := h7d.trans (hb8.mono h7d.size)
    have hw8 : Below w.heap.size w w8 := hw7.trans (h78.mono hw7.size)
    refine ⟨rfl, hw8, ?_⟩
    have hr := rtree_any (w := w8) (ca := ca) (c := c2) (unhide HLN) (unhide HLA w8 hw8).2 (unhide HPA) hna (unhide HSZ) (unhide HX2L) (hl7.below h78) hc7 (unhide HX2O) hn dg hdg
    refine hr.mono ?_
    rintro e w9 ⟨rfl, hb9⟩
    refine ⟨rfl, hb9, ?_⟩
    have hw9 : Below w.heap.size w w9 := hw8.trans (hb9.mono hw8.size)
    have h79 : Below w7.heap.size w7 w9 := h78.trans (hb9.mono h78.size)
    refine (Kg.keptA L pa (some ⟨ga, 0, none⟩) na ca ka (unhide HLN) (by omega) w9 ((unhide HP).below hw9) (unhide HLA w9 hw9).2 (unhide HLA w9 hw9).1).mono ?_
    rintro e w9a ⟨rfl, hb9a⟩
    refine ⟨rfl, hb9a, ?_⟩
    have hw9a : Below w.heap.size w w9a := hw9.trans (hb9a.mono hw9.size)
    have h79a : Below w7.heap.size w7 w9a := h79.trans (hb9a.mono h79.size)
    refine (Kg.keptV X2 p2 (some ⟨g, 0, none⟩) n c2 c0 (unhide HX2L) (by omega) w9a ((unhide HP).below hw9a) (hl7.below h79a) (hl.below (hb7.trans (h79a.mono hb7.size)))).mono ?_
    rintro e w10 ⟨rfl, hb10⟩
    exact ⟨rfl, hw9a.trans (hb10.mono hw9a.size)⟩
  clear hX2 hX2l hX2o hT2 hE2
  by_cases hn0 : n = 0
  · have hz : X2 = X := by
      have hx0 : X = [] := List.eq_nil_of_length_eq_zero (by rw [unhide HX, hn0])
      rw [unhide HX2, hx0]
      rfl
    have ho := unhide HO5
    rw [← hz] at ho
    have HO := hide ho
    have hnI : ¬ (n : Int) > 0 := by omega
    have HN0 := hide hn0
    clear ho hz hn0
    obtain ⟨p2, c2, w7, r7, hb7, hl7, hc7⟩ := unhide FIN w5 (unhide HBW5) (unhide HO)
    have d10 := hide (unhide TAIL w5 (unhide HBW5) (own_lies kV_ok (by rw [List.length_append, Kg.mklV_len, unhide HX2L]) (unhide HO)) p2 c2 w7 hb7 hl7 hc7)
    have HR7 := hide r7
    have HB7 : Hid (Below w.heap.size w w7) := (unhide HBW5).trans (hb7.mono (unhide HBW5).size)
    clear r7 hb7 hl7 FIN TAIL
    go_upto_region 10 with (at_builtin; refine wpList_append_run rfl _ _ 67 rfl _ _ _ _ rfl rfl (unhide HR7) ?_)
    refine wp_region_last (n := 15) (S := fun _ => True) (by kernel_rfl) trivial (fun hHeld => ?_)
    refine tkW 0 ?_; refine tkW 1 ?_; refine tkW 2 ?_; refine tkW 3 ?_; refine tkW 4 ?_; refine tkW 5 ?_; refine tkW 6 ?_; refine tkW 7 ?_; refine tkW 8 ?_
    clear hHeld
    refine wpAnyL_one (i := 9) (by kernel_rfl) rfl (fun KK hK => ?_)
    go_simp
    go_wp2_with (go_at_call 33; refine (unhide d10).mono ?_; rintro e w8 ⟨rfl, hw8, d11⟩)
    have D11 := hide d11
    have HW8 := hide hw8
    refine hK.out _ _ trivial (fun hHeld => ?_)
    clear hK KK hw8 d11 d10
    refine tkW 10 ?_; refine tkW 11 ?_; refine tkW 12 ?_; refine tkW 13 ?_; refine tkW 14 ?_
    clear hHeld
    refine wpAnyL_done (by kernel_rfl) ?_
    go_wp2_with fail
    refine (unhide D11).mono ?_
    rintro e w9 ⟨rfl, hb9, d12⟩
    have D12 := hide d12
    clear hb9 d12 D11
    go_wp2_with (go_at_call 12; refine (like_yes _ _ _).mono ?_; rintro e wz ⟨rfl, hwz⟩; rw [hwz]; clear hwz wz)
    refine (unhide D12).mono ?_
    rintro e w9a ⟨rfl, hb9a, d13⟩
    have D13 := hide d13
    clear hb9a d13 D12
    go_wp2_with fail
    refine (unhide D13).mono ?_
    rintro e w10 ⟨rfl, hb10⟩
    have HB10 := hide hb10
    clear hb10 D13
    go_wp2_with fail
    go_ret
    exact ⟨rfl, (unhide HBW0).trans ((unhide HB10).mono (unhide HBW0).size)⟩
  · have hnI : (n : Int) > 0 := by omega
    obtain ⟨q, hq⟩ : ∃ q, q = n / 2 := ⟨_, rfl⟩
    have hqn : q < n := by omega
    obtain ⟨y, hy⟩ : ∃ y, X[q]? = some y := ⟨X[q]'(by rw [unhide HX]; exact hqn), List.getElem?_eq_getElem _⟩
    have hyM : (X ++ Kg.mklV 700000 64)[q]? = some y := by rw [List.getElem?_append_left (by rw [unhide HX]; exact hqn)]; exact hy
    have hfl : q * 3 + 2 < (kV.flat (X ++ Kg.mklV 700000 64)).length := by
      rw [(unhide HO5).1]
      omega
    have hc5 : w5.cell? ⟨g, q * 3 + 2, none⟩ ≠ none := by
      rw [(unhide HO5).cellAt (q * 3 + 2) (by omega), List.getElem?_eq_getElem hfl]
      simp
    obtain ⟨u5, hu5⟩ := Option.ne_none_iff_exists'.1 hc5
    have hf5 : w5.frozen? ⟨g, q * 3 + 2, none⟩ = false := (unhide HO5).frozenAt (q * 3 + 2)
    obtain ⟨w6, hw6⟩ : ∃ W, W = w5.setCell ⟨g, q * 3 + 2, none⟩ (.int .i64 7) := ⟨_, rfl⟩
    have hbw6 : Below w.heap.size w w6 := by rw [hw6]; exact (unhide HBW5).setCell (p := ⟨g, q * 3 + 2, none⟩) (unhide HG) _
    have ho6 : w6.ownsRow w.heap.size 72 3 (.slice (some ⟨g, 0, none⟩) (n + 64) c0) (n + 64) (kV.flat (X2 ++ Kg.mklV 700000 64)) := by
      have h := ((unhide HO5).stored (q * 3 + 2) (.int .i64 7)).1
      rw [flat_set2 _ q y hyM, List.set_append_left _ _ (by rw [unhide HX]; exact hqn)] at h
      have e : X2 = X.set q (zzV y) := by rw [unhide HX2, ← hq]; unfold upV; rw [hy]; rfl
      rw [e, hw6]
      exact h
    have HBW6 := hide hbw6; have HO6 := hide ho6
    have hq2 : (n : Int).tdiv 2 = (q : Int) := by rw [Int.tdiv_eq_ediv_of_nonneg (by omega)]; omega
    have hw6' := hw6.symm
    clear hw6 hbw6 ho6 hq hy hyM hfl hc5
    obtain ⟨p2, c2, w7, r7, hb7, hl7, hc7⟩ := unhide FIN w6 (unhide HBW6) (unhide HO6)
    have d10 := hide (unhide TAIL w6 (unhide HBW6) (own_lies kV_ok (by rw [List.length_append, Kg.mklV_len, unhide HX2L]) (unhide HO6)) p2 c2 w7 hb7 hl7 hc7)
    have HR7 := hide r7
    have HB7 : Hid (Below w.heap.size w w7) := (unhide HBW6).trans (hb7.mono (unhide HBW6).size)
    clear r7 hb7 hl7 FIN TAIL
    go_upto_region 10 with (at_builtin; refine wpList_append_run rfl _ _ 67 rfl _ _ _ _ rfl rfl (unhide HR7) ?_)
    refine wp_region_last (n := 15) (S := fun _ => True) (by kernel_rfl) trivial (fun hHeld => ?_)
    refine tkW 0 ?_; refine tkW 1 ?_; refine tkW 2 ?_; refine tkW 3 ?_; refine tkW 4 ?_; refine tkW 5 ?_; refine tkW 6 ?_; refine tkW 7 ?_; refine tkW 8 ?_
    clear hHeld
    refine wpAnyL_one (i := 9) (by kernel_rfl) rfl (fun KK hK => ?_)
    go_simp
    go_wp2_with (go_at_call 33; refine (unhide d10).mono ?_; rintro e w8 ⟨rfl, hw8, d11⟩)
    have D11 := hide d11
    have HW8 := hide hw8
    refine hK.out _ _ trivial (fun hHeld => ?_)
    clear hK KK hw8 d11 d10
    refine tkW 10 ?_; refine tkW 11 ?_; refine tkW 12 ?_; refine tkW 13 ?_; refine tkW 14 ?_
    clear hHeld
    refine wpAnyL_done (by kernel_rfl) ?_
    go_wp2_with fail
    refine (unhide D11).mono ?_
    rintro e w9 ⟨rfl, hb9, d12⟩
    have D12 := hide d12
    clear hb9 d12 D11
    go_wp2_with (go_at_call 12; refine (like_yes _ _ _).mono ?_; rintro e wz ⟨rfl, hwz⟩; rw [hwz]; clear hwz wz)
    refine (unhide D12).mono ?_
    rintro e w9a ⟨rfl, hb9a, d13⟩
    have D13 := hide d13
    clear hb9a d13 D12
    go_wp2_with fail
    refine (unhide D13).mono ?_
    rintro e w10 ⟨rfl, hb10⟩
    have HB10 := hide hb10
    clear hb10 D13
    go_wp2_with fail
    go_ret
    exact ⟨rfl, (unhide HBW0).trans ((unhide HB10).mono (unhide HBW0).size)⟩
end Go.Proofs.YtcafhmlpmbkhkaaGreatDoor
