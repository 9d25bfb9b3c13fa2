/- SheetTrials (3): the law's walk. -/
import Derived.Test.YtcafhmlpmbkhkaaGreatDoorLawT
namespace Go.Proofs.YtcafhmlpmbkhkaaGreatDoor
open Go Go.Shelf Go.ChangeShapes Go.WideShapes Go.ChangeAt Go.RowKit Go.Maps
set_option linter.unusedVariables false
set_option linter.unusedSimpArgs false
def stM (x y : Value) : Sem Unit := Instr.storeAt 31 x y
theorem stM_is (x y : Value) : Instr.storeAt 31 x y = stM x y := rfl
theorem run_stM {w : World} {b o : Nat} (h : w.there b o 3) (x : Cm) : (stM (.pointer (some ⟨b, o, none⟩)) (cvM x)).run Tryz.prog w = .ok () (w.setCells b o x.vals) :=
  run_storeAt_mid (P := Tryz.prog) w b o 31 #[.string x.acc, .int .i64 x.deb, .int .i64 x.cre] h sizM (by simp [Value.oneCell'])
def zzM : Cm := ⟨⟨#[90, 122]⟩, 3, 0⟩
theorem zz_ok {X : List Cm} (h : ∀ x ∈ X, CmOk x) (k : Nat) : ∀ x ∈ X.set k zzM, CmOk x := fun x hx => by
  rcases List.mem_or_eq_of_mem_set hx with h1 | rfl
  · exact h x h1
  · exact ⟨by decide, by decide, by decide⟩
attribute [local go_sem ↓] stM_is
set_option maxRecDepth 100000 in
set_option maxHeartbeats 16000000 in
theorem trials_walk {w : World} (hP : Kg.Pw w) {p : Option Addr} {n c : Nat} {X : List Cm} (hX : X.length = n) (hc : p = none → c = 0) (hL : Lies kM w p X) (hok : ∀ x ∈ X, CmOk x) (hn : n ≤ 1048576) (dg : Int) (hdg : -9223372036854775808 ≤ dg ∧ dg ≤ 9223372036854775807) :
    Calls Tryz.prog 3 #[.slice p n c, .int .i64 dg] w fun e w' => e = .returned (.bool true) ∧ Below w.heap.size w w' := by
  have D0 := hide (Kg.roomM X p n c hX hc hn w hP hL)
  have HP := hide hP; have HX := hide hX; have HL := hide hL; have HOK := hide hok
  clear hP hX hL hok hc
  go_enter Tryz.func3, Tryz.ntmps3
  go_wp2_with fail
  refine (unhide D0).mono ?_
  rintro e w1 ⟨g, c0, rfl, hown, hb1⟩
  have hcap : n + 64 ≤ c0 := by
    rcases hown.2 with ⟨h1, _⟩ | ⟨g', cap, cur, e1, _, _, h4, _⟩
    · cases h1
    · injection e1 with _ _ e3
      omega
  have hlen1 : (X ++ Kg.mklM 700000 64).length = n + 64 := by rw [List.length_append, Kg.mklM_len, unhide HX]
  have hlies1 : Lies kM w1 (some ⟨g, 0, none⟩) (X ++ Kg.mklM 700000 64) := own_lies kM_ok hlen1 hown
  have hcI : (n : Int) ≤ (c0 : Int) := by omega
  have D1 := hide (trial_any ((unhide HP).below hb1) (c := c0) (unhide HX) hlies1.take (unhide HOK) hn dg hdg)
  obtain ⟨A, hA⟩ : ∃ A, A = ansT dg X := ⟨_, rfl⟩
  obtain ⟨T, hT⟩ : ∃ T, T = txB A.1 := ⟨_, rfl⟩
  obtain ⟨E, hE⟩ : ∃ E, E = A.2 := ⟨_, rfl⟩
  rw [← hA] at D1
  unfold TriOut at D1
  rw [← hT, ← hE] at D1
  have D2 : Hid (∀ W, Below w.heap.size w W → Calls Tryz.prog 11 #[.slice p n c, .int .i64 dg] W fun e w' => e = .returned (.tuple #[.string T, .int .i64 E]) ∧ Below W.heap.size W w') := fun W hb => by
    have h := rtrial_any (w := W) (c := c) (unhide HX) ((unhide HL).below hb) (unhide HOK) hn dg hdg
    unfold TriOut at h
    rw [← hA, ← hT, ← hE] at h
    exact h
  have HOWN := hide hown; have HB1 := hide hb1; have HLI1 := hide hlies1
  clear hA hT hE hown hb1 hlies1 D0
  go_wp2_with fail
  refine (unhide D1).mono ?_
  rintro e w2 ⟨rfl, hb2⟩
  have HB2 : Hid (Below w1.heap.size w1 w2) := hb2
  have d2 := hide (unhide D2 w2 ((unhide HB1).trans (hb2.mono (unhide HB1).size)))
  clear hb2 D1 D2
  go_wp2_with fail
  refine (unhide d2).mono ?_
  rintro e w3 ⟨rfl, hb3⟩
  have hb13 : Below w1.heap.size w1 w3 := (unhide HB2).trans (hb3.mono (unhide HB2).size)
  have hbw3 : Below w.heap.size w w3 := (unhide HB1).trans (hb13.mono (unhide HB1).size)
  have d3 := hide (Kg.keptM X p (some ⟨g, 0, none⟩) n c c0 (unhide HX) (by omega) w3 ((unhide HP).below hbw3) ((unhide HL).below hbw3) ((unhide HLI1).below hb13))
  have HB13 := hide hb13
  have HBW3 := hide hbw3
  have DF : Hid (∀ W, Below w.heap.size w W → Calls Tryz.prog 14 #[] W fun e w' => e = .returned (.bool true) ∧ Below W.heap.size W w') := fun W hb => first_any W ((unhide HP).below hb)
  clear hb3 hb13 hbw3 d2 HB2
  go_wp2_with (go_at_call 12; refine (like_yes _ _ _).mono ?_; rintro e wz ⟨rfl, hwz⟩; rw [hwz]; clear hwz wz)
  refine (unhide d3).mono ?_
  rintro e w4 ⟨rfl, hb4⟩
  have hbw4 : Below w.heap.size w w4 := (unhide HBW3).trans (hb4.mono (unhide HBW3).size)
  have HB14 : Hid (Below w1.heap.size w1 w4) := (unhide HB13).trans (hb4.mono (unhide HB13).size)
  have d4 := hide (unhide DF w4 hbw4)
  have HBW4 := hide hbw4
  clear hb4 hbw4 d3 DF HB13 HBW3
  go_wp2_with fail
  refine (unhide d4).mono ?_
  rintro e w5 ⟨rfl, hb5⟩
  have HB15 : Hid (Below w1.heap.size w1 w5) := (unhide HB14).trans (hb5.mono (unhide HB14).size)
  have HBW5 : Hid (Below w.heap.size w w5) := (unhide HBW4).trans (hb5.mono (unhide HBW4).size)
  have ho5 := own_below (unhide HOWN) (unhide HB15)
  have HG : Hid (w.heap.size ≤ g) := (ho5.lt g rfl).1
  have HO5 := hide ho5
  clear hb5 ho5 d4 HB14 HBW4
  obtain ⟨X2, hX2⟩ : ∃ X2, X2 = X.set (n / 2) zzM := ⟨_, rfl⟩
  have hX2l : X2.length = n := by rw [hX2, List.length_set, unhide HX]
  have hX2o : ∀ x ∈ X2, CmOk x := by rw [hX2]; exact zz_ok (unhide HOK) _
  have HX2 := hide hX2; have HX2L := hide hX2l; have HX2O := hide hX2o
  have FIN : Hid (∀ W, Below w.heap.size w W → W.ownsRow w.heap.size 31 3 (.slice (some ⟨g, 0, none⟩) (n + 64) c0) (n + 64) (kM.flat (X2 ++ Kg.mklM 700000 64)) →
      ∃ p2 c2 w7, (Builtin.append_ #[22, 22] 22 #[.slice (some ⟨W.heap.size, 0, none⟩) 0 0, .slice (some ⟨g, 0, none⟩) n c0]).run Tryz.prog (W.alloc (.cells #[] 31)) = .ok (.slice p2 n c2) w7 ∧ Below W.heap.size W w7 ∧ Lies kM w7 p2 X2) := fun W hb ho => by
    have b0 : Below W.heap.size W (W.alloc (.cells #[] 31)) := bal (Below.refl _ _) _
    have hl : Lies kM (W.alloc (.cells #[] 31)) (some ⟨g, 0, none⟩) X2 := (own_lies kM_ok (by rw [List.length_append, Kg.mklM_len, unhide HX2L]) ho).take.below b0
    obtain ⟨p5, c5, w5, r5, o5, b5, _⟩ := run_app (K := kM) kM_ok (L := []) (M := X2) 22 (Kg.own_lit0M W) b0.size (some ⟨g, 0, none⟩) c0 (fun h => by cases h) hl (by rw [unhide HX2L]; omega)
    rw [unhide HX2L, Nat.zero_add] at r5 o5
    rw [List.nil_append] at o5
    exact ⟨p5, c5, w5, r5, b0.trans (b5.mono (Nat.le_refl _)), own_lies kM_ok (unhide HX2L) o5⟩
  have TAIL : Hid (∀ W, Below w.heap.size w W → Lies kM W (some ⟨g, 0, none⟩) (X2 ++ Kg.mklM 700000 64) → ∀ p2 c2 w7, Below W.heap.size W w7 → Lies kM w7 p2 X2 →
      Calls Tryz.prog 10 #[.slice (some ⟨g, 0, none⟩) n c0, .int .i64 dg] w7 (fun e w8 => e = .returned (.tuple #[.string (txB (ansT dg X2).1), .int .i64 (ansT dg X2).2]) ∧ Below w7.heap.size w7 w8 ∧
        Calls Tryz.prog 11 #[.slice p2 n c2, .int .i64 dg] w8 (fun e w9 => e = .returned (.tuple #[.string (txB (ansT dg X2).1), .int .i64 (ansT dg X2).2]) ∧ Below w8.heap.size w8 w9 ∧
          Calls Tryz.prog 13 #[.slice (some ⟨g, 0, none⟩) (n + 64) c0, .slice p2 n c2] w9 (fun e w10 => e = .returned (.bool true) ∧ Below w.heap.size w w10)))) := fun W hb hl p2 c2 w7 hb7 hl7 => by
    have hw7 : Below w.heap.size w w7 := hb.trans (hb7.mono hb.size)
    refine (trial_any ((unhide HP).below hw7) (c := c0) (unhide HX2L) (hl.take.below hb7) (unhide HX2O) hn dg hdg).mono ?_
    rintro e w8 ⟨rfl, hb8⟩
    refine ⟨rfl, hb8, ?_⟩
    have hw8 : Below w.heap.size w w8 := hw7.trans (hb8.mono hw7.size)
    refine (rtrial_any (w := w8) (c := c2) (unhide HX2L) (hl7.below hb8) (unhide HX2O) hn dg hdg).mono ?_
    rintro e w9 ⟨rfl, hb9⟩
    refine ⟨rfl, hb9, ?_⟩
    have hw9 : Below w.heap.size w w9 := hw8.trans (hb9.mono hw8.size)
    have h79 : Below w7.heap.size w7 w9 := hb8.trans (hb9.mono hb8.size)
    refine (Kg.keptM X2 p2 (some ⟨g, 0, none⟩) n c2 c0 (unhide HX2L) (by omega) w9 ((unhide HP).below hw9) (hl7.below h79) (hl.below (hb7.trans (h79.mono hb7.size)))).mono ?_
    rintro e w10 ⟨rfl, hb10⟩
    exact ⟨rfl, hw9.trans (hb10.mono hw9.size)⟩
  obtain ⟨T2, hT2⟩ : ∃ T, T = txB (ansT dg X2).1 := ⟨_, rfl⟩
  obtain ⟨E2, hE2⟩ : ∃ E, E = (ansT dg X2).2 := ⟨_, rfl⟩
  rw [← hT2, ← hE2] at TAIL
  clear hX2 hX2l hX2o hT2 hE2
  by_cases hn0 : n = 0
  · have hz : X2 = X := by
      have hx0 : X = [] := List.eq_nil_of_length_eq_zero (by rw [unhide HX, hn0])
      rw [unhide HX2, hx0]
      rfl
    have ho := unhide HO5
    rw [← hz] at ho
    have HO := hide ho
    have hnI : ¬ (n : Int) > 0 := by omega
    have HN0 := hide hn0
    clear ho hz hn0
    obtain ⟨p2, c2, w7, r7, hb7, hl7⟩ := unhide FIN w5 (unhide HBW5) (unhide HO)
    have d10 := hide (unhide TAIL w5 (unhide HBW5) (own_lies kM_ok (by rw [List.length_append, Kg.mklM_len, unhide HX2L]) (unhide HO)) p2 c2 w7 hb7 hl7)
    have HR7 := hide r7
    clear r7 hb7 hl7 FIN TAIL
    go_wp2_with (at_builtin; refine wpList_append_run rfl _ _ 22 rfl _ _ _ _ rfl rfl (unhide HR7) ?_)
    refine (unhide d10).mono ?_
    rintro e w8 ⟨rfl, hb8, d11⟩
    have D11 := hide d11
    clear hb8 d11 d10
    go_wp2_with fail
    refine (unhide D11).mono ?_
    rintro e w9 ⟨rfl, hb9, d12⟩
    have D12 := hide d12
    clear hb9 d12 D11
    go_wp2_with (go_at_call 12; refine (like_yes _ _ _).mono ?_; rintro e wz ⟨rfl, hwz⟩; rw [hwz]; clear hwz wz)
    refine (unhide D12).mono ?_
    rintro e w10 ⟨rfl, hb10⟩
    have HB10 := hide hb10
    clear hb10 D12
    go_wp2_with fail
    go_ret
    exact ⟨rfl, unhide HB10⟩
  · have hnI : (n : Int) > 0 := by omega
    obtain ⟨q, hq⟩ : ∃ q, q = n / 2 := ⟨_, rfl⟩
    have hqn : q < n := by omega
    have hth : w5.there g (q * 3) 3 := own_there (unhide HO5) (by omega)
    have hst := run_stM hth zzM
    obtain ⟨w6, hw6⟩ : ∃ W, W = w5.setCells g (q * 3) zzM.vals := ⟨_, rfl⟩
    have hbw6 : Below w.heap.size w w6 := by rw [hw6]; exact below_cells (unhide HBW5) (unhide HG) _ _
    have ho6 : w6.ownsRow w.heap.size 31 3 (.slice (some ⟨g, 0, none⟩) (n + 64) c0) (n + 64) (kM.flat (X2 ++ Kg.mklM 700000 64)) := by
      have h := own_set kM_ok (unhide HO5) hlen1 (show q < n + 64 by omega) zzM
      rw [List.set_append_left _ _ (by rw [unhide HX]; exact hqn), hq, ← unhide HX2] at h
      rw [hw6, hq]
      exact h
    rw [← hw6] at hst
    have HBW6 := hide hbw6; have HO6 := hide ho6
    have hq2 : (n : Int).tdiv 2 = (q : Int) := by rw [Int.tdiv_eq_ediv_of_nonneg (by omega)]; omega
    unfold cvM zzM at hst
    clear hth hw6 hbw6 ho6 hq
    obtain ⟨p2, c2, w7, r7, hb7, hl7⟩ := unhide FIN w6 (unhide HBW6) (unhide HO6)
    have d10 := hide (unhide TAIL w6 (unhide HBW6) (own_lies kM_ok (by rw [List.length_append, Kg.mklM_len, unhide HX2L]) (unhide HO6)) p2 c2 w7 hb7 hl7)
    have HR7 := hide r7
    clear r7 hb7 hl7 FIN TAIL
    go_wp2_with (at_builtin; refine wpList_append_run rfl _ _ 22 rfl _ _ _ _ rfl rfl (unhide HR7) ?_)
    refine (unhide d10).mono ?_
    rintro e w8 ⟨rfl, hb8, d11⟩
    have D11 := hide d11
    clear hb8 d11 d10
    go_wp2_with fail
    refine (unhide D11).mono ?_
    rintro e w9 ⟨rfl, hb9, d12⟩
    have D12 := hide d12
    clear hb9 d12 D11
    go_wp2_with (go_at_call 12; refine (like_yes _ _ _).mono ?_; rintro e wz ⟨rfl, hwz⟩; rw [hwz]; clear hwz wz)
    refine (unhide D12).mono ?_
    rintro e w10 ⟨rfl, hb10⟩
    have HB10 := hide hb10
    clear hb10 D12
    go_wp2_with fail
    go_ret
    exact ⟨rfl, unhide HB10⟩
end Go.Proofs.YtcafhmlpmbkhkaaGreatDoor
