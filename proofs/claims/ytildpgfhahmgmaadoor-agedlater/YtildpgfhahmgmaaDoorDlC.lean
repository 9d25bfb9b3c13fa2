/- the law's own makers: allots (9). -/
import Derived.Test.YtildpgfhahmgmaaDoorDlB
namespace Go.Proofs.YtildpgfhahmgmaaDoor
open Go Go.Shelf Go.ChangeShapes Go.WideShapes Go.ChangeAt Go.RowKit Go.Maps
set_option linter.unusedVariables false
/-- the parts lie beside -/
def PtsIn (W : World) (d : Dl) : Prop := d.np = d.parts.length ∧ ∀ k (hk : k < d.parts.length), ∃ b off, d.pp = some ⟨b, off, none⟩ ∧ b < W.heap.size ∧ W.rangeAt b (off + k * 2) [.int .i64 d.parts[k].1, .int .i64 d.parts[k].2]
def alN (left : Int) (p : Int × Int) : Int := if amountS p.2 > left then left else amountS p.2
def alD (c : Cl) (p : Int × Int) : Int := intoS (c.day + intoS p.1 0 500) 1 3652059
def alStep (c : Cl) (s : Int × List Al) (p : Int × Int) : Int × List Al :=
  if alN s.1 p < 1 then s else (s.1 - alN s.1 p, s.2 ++ [⟨⟨#[112]⟩, c.key, alD c p, alN s.1 p⟩])
def rowS (c : Cl) (P : List (Int × Int)) (k : Nat) : Int × List Al := (P.take k).foldl (alStep c) (c.amt, [])
theorem rowS_succ (c : Cl) {P : List (Int × Int)} {k : Nat} (h : k < P.length) : rowS c P (k + 1) = alStep c (rowS c P k) P[k] := by
  unfold rowS
  rw [List.take_succ_eq_append_getElem h, List.foldl_append]
  rfl
theorem rowS_all (c : Cl) {P : List (Int × Int)} {k : Nat} (h : P.length ≤ k) : rowS c P k = rowS c P P.length := by
  unfold rowS
  rw [List.take_of_length_le h, List.take_of_length_le (Nat.le_refl _)]
theorem rowS_bounds (c : Cl) (P : List (Int × Int)) (h : 0 ≤ c.amt) (k : Nat) : 0 ≤ (rowS c P k).1 ∧ (rowS c P k).1 ≤ c.amt ∧ (rowS c P k).2.length ≤ k := by
  induction k with
  | zero => exact ⟨h, Int.le_refl _, Nat.le_refl _⟩
  | succ k ih =>
    by_cases hk : k < P.length
    · rw [rowS_succ c hk]
      unfold alStep
      split
      · exact ⟨ih.1, ih.2.1, by omega⟩
      · rename_i hn
        have h1 : alN (rowS c P k).1 P[k] ≤ (rowS c P k).1 := by unfold alN; split <;> omega
        refine ⟨?_, ?_, ?_⟩
        · show 0 ≤ (rowS c P k).1 - _; omega
        · show (rowS c P k).1 - _ ≤ _; omega
        · show ((rowS c P k).2 ++ _).length ≤ _
          rw [List.length_append]; simp; omega
    · rw [rowS_all c (by omega), ← rowS_all c (k := k) (by omega)]
      exact ⟨ih.1, ih.2.1, by omega⟩
def alP (C : List Cl) (L : List Dl) (i : Nat) : List Al := (List.range i).flatMap fun j => (rowS (C.getD j ⟨⟨#[]⟩, ⟨#[]⟩, 0, 0, 0⟩) (L.getD j dl0).parts 6).2
theorem alP_succ {C : List Cl} {L : List Dl} {i : Nat} (h : i < C.length) (h2 : i < L.length) : alP C L (i + 1) = alP C L i ++ (rowS C[i] L[i].parts 6).2 := by
  unfold alP
  rw [List.range_succ, List.flatMap_append, List.flatMap_cons, List.flatMap_nil, List.append_nil, List.getD_eq_getElem?_getD, List.getElem?_eq_getElem h, List.getD_eq_getElem?_getD, List.getElem?_eq_getElem h2]
  rfl
set_option maxRecDepth 100000 in
set_option maxHeartbeats 16000000 in
theorem allots_any {W : World} {pu pc : Option Addr} {K cu n cc : Nat} {L : List Dl} {C : List Cl} (hK : L.length = K) (hL : DlsIn W pu L) (hP : ∀ d ∈ L, PtsIn W d ∧ d.np ≤ maxLen) (hn : C.length = n) (hnK : n ≤ K) (hn5 : n ≤ 50) (hm : K ≤ maxLen) (hC : Lies kC W pc C) (hc : ∀ c ∈ C, (1 ≤ c.amt ∧ c.amt ≤ 1000000000) ∧ (1 ≤ c.day ∧ c.day ≤ 3651659)) :
    Calls Tryd.prog 9 #[.slice pu K cu, .slice pc n cc] W fun e w' => ∃ p m c, e = .returned (.slice p m c) ∧ Rw kA W w' (.slice p m c) m (alP C L n) := by
  have hKb : K ≤ 9223372036854775807 := by unfold maxLen at hm; omega
  have HL := hide hL; have HK := hide hK; have HP := hide hP; have HN := hide hn; have HC := hide hC; have HCC := hide hc
  have dI := hide into_any; have dA := hide amount_any
  clear hL hK hP hm hn hC hc
  go_enter Tryd.func9, Tryd.ntmps9
  go_wp2_with fail
  go_loopw [5, 6] (fun v5 v6 wr => ∃ (i m : Nat), v6 = .int .i64 i ∧ i ≤ n ∧ (∃ p' c', v5 = .slice p' m c') ∧ Hid (Rw kA W wr v5 m (alP C L i) ∧ m ≤ 6 * i)) (fun _ v6 _ => n - (intOf v6).toNat)
  case atStart => exact ⟨0, 0, rfl, by omega, ⟨none, 0, rfl⟩, ⟨World.ownsRow_nil _ _ _ _, Below.refl _ _, rfl⟩, by omega⟩
  case round =>
    obtain ⟨i, m, rfl, hi, ⟨p5, c5, rfl⟩, hrel⟩ := hrel
    by_cases hlt : i < n
    · have hiC : i < C.length := by rw [unhide HN]; exact hlt
      have hiL : i < L.length := by rw [unhide HK]; omega
      obtain ⟨b, off, e, hbl, hr⟩ := unhide HL i hiL
      obtain ⟨bc, oc, ec, hbc, hrc⟩ := (unhide HC).2 i hiC
      obtain ⟨d, hd⟩ : ∃ d, d = L[i] := ⟨_, rfl⟩
      obtain ⟨c, hcd⟩ : ∃ c, c = C[i] := ⟨_, rfl⟩
      obtain ⟨hPd, hnp⟩ := unhide HP d (by rw [hd]; exact List.getElem_mem hiL)
      have hcb := unhide HCC c (by rw [hcd]; exact List.getElem_mem hiC)
      have hss := alP_succ hiC hiL
      rw [← hd] at hr hss
      rw [← hcd] at hrc hss
      obtain ⟨hRr, hm6⟩ := unhide hrel
      have HCE : Hid (∀ w', Below W.heap.size W w' → w'.cell? ⟨b, off + i * 5 + 4, none⟩ = some (.slice d.pp d.np d.cp) ∧ w'.cell? ⟨bc, oc + i * 5, none⟩ = some (.string c.key) ∧ w'.cell? ⟨bc, oc + i * 5 + 2, none⟩ = some (.int .i64 c.day) ∧ w'.cell? ⟨bc, oc + i * 5 + 4, none⟩ = some (.int .i64 c.amt)) := fun w' hb => by
        refine ⟨(hb.cell (p := ⟨b, off + i * 5 + 4, none⟩) hbl).trans (hr 4 _ rfl), ?_, (hb.cell (p := ⟨bc, oc + i * 5 + 2, none⟩) hbc).trans (hrc 2 _ rfl), (hb.cell (p := ⟨bc, oc + i * 5 + 4, none⟩) hbc).trans (hrc 4 _ rfl)⟩
        have h0 : W.cell? ⟨bc, oc + i * 5 + 0, none⟩ = some (.string c.key) := hrc 0 _ rfl
        exact (hb.cell (p := ⟨bc, oc + i * 5, none⟩) hbc).trans h0
      obtain ⟨e0, e1, e2, e3⟩ := unhide HCE wr hRr.bel
      subst e
      subst ec
      have HPD := hide hPd; have HSS := hide hss; have HRR := hide hRr; have HM6 := hide hm6; have HCB := hide hcb; have HBL := hide hbl; have HBC := hide hbc
      obtain ⟨np, hnpe⟩ : ∃ np, np = d.np := ⟨_, rfl⟩
      rw [← hnpe] at e0 hnp
      have hnpb : np ≤ 9223372036854775807 := by unfold maxLen at hnp; omega
      have HNP := hide hnpe
      clear hrel hRr hm6 hPd hss hr hrc hd hcd hiC hiL hcb hbl hbc hnpe hnp
      go_wp2_with fail
      obtain ⟨wo, hwo⟩ : ∃ wo, wo = wr := ⟨_, rfl⟩
      subst hwo
      go_loopw [5, 7, 8] (fun v5 v7 v8 wi => ∃ (k m2 : Nat) (left : Int), v8 = .int .i64 k ∧ k ≤ np ∧ k ≤ 6 ∧ (∃ p' c', v5 = .slice p' m2 c') ∧ v7 = .int .i64 left ∧ (0 ≤ left ∧ left ≤ 1000000000) ∧ Hid (Rw kA W wi v5 m2 (alP C L i ++ (rowS c d.parts k).2) ∧ m2 ≤ 6 * i + k ∧ left = (rowS c d.parts k).1)) (fun _ _ v8 _ => np - (intOf v8).toNat)
      case atStart => exact ⟨0, m, c.amt, rfl, by omega, by omega, ⟨_, _, rfl⟩, rfl, by have := unhide HCB; omega, by rw [show (rowS c d.parts 0).2 = [] from rfl, List.append_nil]; exact unhide HRR, unhide HM6, rfl⟩
      case round =>
        obtain ⟨k, m2, left, rfl, hk, hk6, ⟨p6, c6, rfl⟩, rfl, hlb, hrel⟩ := hrel
        obtain ⟨hRk, hm2, hle⟩ := unhide hrel
        obtain ⟨f0, f1, f2, f3⟩ := unhide HCE wr hRk.bel
        rw [← unhide HNP] at f0
        by_cases hlk : k < np ∧ k < 6
        · obtain ⟨hlk, hl6⟩ := hlk
          have hkp : k < d.parts.length := by rw [← (unhide HPD).1, ← unhide HNP]; exact hlk
          obtain ⟨bp, op, ep, hbp, hrp⟩ := (unhide HPD).2 k hkp
          obtain ⟨q, hq⟩ : ∃ q, q = d.parts[k] := ⟨_, rfl⟩
          have hrs := rowS_succ c hkp
          rw [← hq] at hrp hrs
          have g0 : wr.cell? ⟨bp, op + k * 2, none⟩ = some (.int .i64 q.1) := by
            have h0 : W.cell? ⟨bp, op + k * 2 + 0, none⟩ = some (.int .i64 q.1) := hrp 0 _ rfl
            exact (hRk.bel.cell (p := ⟨bp, op + k * 2, none⟩) hbp).trans h0
          have g1 : wr.cell? ⟨bp, op + k * 2 + 1, none⟩ = some (.int .i64 q.2) := (hRk.bel.cell (p := ⟨bp, op + k * 2 + 1, none⟩) hbp).trans (hrp 1 _ rfl)
          rw [ep] at f0
          obtain ⟨X, hX⟩ : ∃ X, X = alN left q := ⟨_, rfl⟩
          obtain ⟨V, hV⟩ : ∃ V, V = amountS q.2 := ⟨_, rfl⟩
          have hXl : X ≤ left := by rw [hX]; unfold alN; split <;> omega
          have hXv : X = if V > left then left else V := by rw [hX, hV]; rfl
          have hVb : 1 ≤ V ∧ V ≤ 1000000000 := by rw [hV]; exact amount_bounds _
          have hX0 : 0 ≤ X := by rw [hXv]; split <;> omega
          have dA1 := hide (fun w => unhide dA q.2 w)
          rw [← hV] at dA1
          have hrs2 : rowS c d.parts (k + 1) = if X < 1 then rowS c d.parts k else (left - X, (rowS c d.parts k).2 ++ [⟨⟨#[112]⟩, c.key, alD c q, X⟩]) := by
            rw [hrs]; unfold alStep; rw [← hle, ← hX]
          have HRK := hide hRk; have HM2 := hide hm2; have HLE := hide hle; have HRS := hide hrs2; have HBP := hide hbp; have HXV := hide hXv
          clear hRk hm2 hle hrel hrs hrs2 hX hV hrp hq hkp hbp hXv
          go_upto_if 47 with (first | (go_at_call 35; refine (unhide dA1 _).mono ?_; rintro e w2 ⟨rfl, hw⟩; rw [hw]; clear hw w2))
          go_cut [9] (fun v9 wx => v9 = .int .i64 X ∧ Hid (wx = wr))
          case first =>
            have hv := unhide HXV
            by_cases hgt : V > left
            · rw [if_pos hgt] at hv
              go_wp2_with fail
              go_meet
              exact ⟨by rw [hv], rfl⟩
            · rw [if_neg hgt] at hv
              subst hv
              go_wp2_with fail
              go_meet
              exact ⟨rfl, rfl⟩
          obtain ⟨rfl, hwc⟩ := hcut
          rw [unhide hwc]
          clear hwc wc
          by_cases hx1 : X < 1
          · have HREL : Hid (Rw kA W wr (.slice p6 m2 c6) m2 (alP C L i ++ (rowS c d.parts (k + 1)).2) ∧ m2 ≤ 6 * i + (k + 1) ∧ left = (rowS c d.parts (k + 1)).1) := by
              rw [unhide HRS, if_pos hx1]
              exact ⟨unhide HRK, by have := unhide HM2; omega, unhide HLE⟩
            go_wp2_with fail
            exact ⟨⟨k + 1, m2, left, by simp, by omega, by omega, ⟨_, _, rfl⟩, rfl, hlb, unhide HREL⟩, by simp [intOf]; omega⟩
          · obtain ⟨T, hT⟩ : ∃ T, T = intoS q.1 0 500 := ⟨_, rfl⟩
            obtain ⟨E, hE⟩ : ∃ E, E = alD c q := ⟨_, rfl⟩
            have hTb : 0 ≤ T ∧ T ≤ 500 := by rw [hT]; exact into_bounds _ (by decide)
            have hcb := (unhide HCB).2
            have dI1 := hide (fun w => unhide dI q.1 0 500 w)
            have dI2 := hide (fun w => unhide dI (c.day + T) 1 3652059 w)
            have hE2 : intoS (c.day + T) 1 3652059 = E := by rw [hE, hT]; rfl
            rw [← hT] at dI1
            rw [hE2] at dI2
            obtain ⟨x, hx⟩ : ∃ x : Al, x = ⟨⟨#[112]⟩, c.key, E, X⟩ := ⟨_, rfl⟩
            have hrs : rowS c d.parts (k + 1) = (left - X, (rowS c d.parts k).2 ++ [x]) := by rw [unhide HRS, if_neg hx1, hx, hE]
            have hw1 : IntKind.i64.wrap (left - X) = left - X := by rw [IntKind.wrap_i64]; omega
            have hw2 : IntKind.i64.wrap (c.day + T) = c.day + T := by rw [IntKind.wrap_i64]; omega
            have hRd : Rw kA W wr.drew (.slice p6 m2 c6) m2 (alP C L i ++ (rowS c d.parts k).2) := ⟨(unhide HRK).row, (unhide HRK).bel.drew, (unhide HRK).len⟩
            have hmm := unhide HM2
            obtain ⟨p8, c8, w8, r8, o8, b8, _⟩ := run_app kA_ok 25 (W := wr.drew.alloc (.cells #[.string ⟨#[112]⟩, .string c.key, .int .i64 E, .int .i64 X] 51)) (M := [x]) (B := W.heap.size) (hRd.row.alloc _) (Nat.le_trans hRd.bel.size (by simp)) (some ⟨wr.drew.heap.size, 0, none⟩) 1 (fun h => by cases h) (one_lies wr.drew x 51 _ (by rw [hx]; rfl)) (by simp; omega)
            simp only [List.length_singleton] at r8 o8
            have HREL : Hid (Rw kA W w8 (.slice p8 (m2 + 1) c8) (m2 + 1) (alP C L i ++ (rowS c d.parts (k + 1)).2) ∧ m2 + 1 ≤ 6 * i + (k + 1) ∧ left - X = (rowS c d.parts (k + 1)).1) := by
              rw [hrs]
              refine ⟨⟨?_, (hRd.bel.alloc hRd.bel.size _).trans b8, ?_⟩, by omega, rfl⟩
              · rw [← List.append_assoc]; exact o8
              · rw [← List.append_assoc, List.length_append, hRd.len]; rfl
            have hsz := hRd.bel.size
            have hq0 : ∀ (bb oo : Nat) (v : Value), bb < W.heap.size → wr.cell? ⟨bb, oo, none⟩ = some v → w8.cell? ⟨bb, oo, none⟩ = some v := fun bb oo v hb hc => by
              rw [b8.cell (p := ⟨bb, oo, none⟩) hb, World.cell?_alloc_lt _ _ _ (by show bb < wr.heap.size; have : W.heap.size ≤ wr.heap.size := hsz; omega)]
              exact hc
            have hs0 : ∀ (bb oo : Nat) (o : Obj) (v : Value), bb < W.heap.size → wr.cell? ⟨bb, oo, none⟩ = some v → (wr.alloc o).cell? ⟨bb, oo, none⟩ = some v := fun bb oo o v hb hc => by
              rw [World.cell?_alloc_lt _ _ _ (by show bb < wr.heap.size; have : W.heap.size ≤ wr.heap.size := hsz; omega)]
              exact hc
            have a0 := hq0 _ _ _ (unhide HBL) f0
            have a1 := hq0 _ _ _ (unhide HBC) f1
            have a2 := hq0 _ _ _ (unhide HBC) f2
            have a3 := hq0 _ _ _ (unhide HBP) g0
            have HS0 := hide hs0
            clear hRd hrs hx hE hE2 hT o8 b8 hq0 hs0 hsz hcb hmm
            have hiK : i < K := by omega
            go_upto_region 14 with fail
            refine wp_region_last (n := 28) (S := fun W' => W'.cell? ⟨b, off + i * 5 + 4, none⟩ = some (.slice (some ⟨bp, op, none⟩) np d.cp) ∧ W'.cell? ⟨bc, oc + i * 5, none⟩ = some (.string c.key) ∧ W'.cell? ⟨bc, oc + i * 5 + 2, none⟩ = some (.int .i64 c.day) ∧ W'.cell? ⟨bp, op + k * 2, none⟩ = some (.int .i64 q.1)) (by kernel_rfl) (by exact ⟨f0, f1, f2, g0⟩) (fun hHeld => ?_)
            refine tkW 0 ?_; refine tkW 1 ?_; refine tkW 2 ?_; refine tkW 3 ?_; refine tkW 4 ?_; refine tkN 5 ?_; refine tkW 6 ?_; refine tkW 7 ?_; refine tkW 8 ?_; refine tkW 9 ?_; refine tkN 10 ?_; refine tkW 11 ?_; refine tkW 12 ?_; refine tkW 13 ?_; refine tkW 14 ?_; refine tkN 15 ?_; refine tkW 16 ?_; refine tkW 17 ?_; refine tkW 18 ?_; refine tkN 19 ?_; refine tkW 23 ?_
            refine wpAnyL_one (i := 20) (by kernel_rfl) rfl (fun KK hK => ?_)
            go_simp
            go_wp2_with (first | (go_at_call 12; refine (unhide dI1 _).mono ?_; rintro e w2 ⟨rfl, hw⟩; rw [hw]; clear hw w2))
            refine hK.out _ _ (by exact ⟨f0, f1, f2, g0⟩) (fun hHeld => ?_)
            clear hK KK
            refine tkW 21 ?_
            try rw [hw2]
            refine wpAnyL_one (i := 22) (by kernel_rfl) rfl (fun KK hK => ?_)
            go_simp
            go_wp2_with (first | (go_at_call 12; refine (unhide dI2 _).mono ?_; rintro e w2 ⟨rfl, hw⟩; rw [hw]; clear hw w2))
            refine hK.out _ _ (by exact ⟨f0, f1, f2, g0⟩) (fun hHeld => ?_)
            clear hK KK
            refine tkW 24 ?_
            refine wpAnyL_one (i := 25) (by kernel_rfl) rfl (fun KK hK => ?_)
            go_simp
            refine hK.out _ _ (by exact ⟨unhide HS0 _ _ _ _ (unhide HBL) f0, unhide HS0 _ _ _ _ (unhide HBC) f1, unhide HS0 _ _ _ _ (unhide HBC) f2, unhide HS0 _ _ _ _ (unhide HBP) g0⟩) (fun hHeld => ?_)
            clear hK KK
            refine wpAnyL_one (i := 26) (by kernel_rfl) rfl (fun KK hK => ?_)
            refine step_append_run _ (by rfl) _ _ _ (by rfl) _ _ _ _ (by rfl) (by rfl) r8 ?_
            refine hK.out _ _ (by exact ⟨a0, a1, a2, a3⟩) (fun hHeld => ?_)
            clear hK KK
            refine wpAnyL_one (i := 27) (by kernel_rfl) rfl (fun KK hK => ?_)
            go_simp
            refine hK.out _ _ (by exact ⟨a0, a1, a2, a3⟩) (fun hHeld => ?_)
            clear hK KK
            refine wpAnyL_done (by kernel_rfl) ?_
            go_wp2_with fail
            exact ⟨⟨k + 1, m2 + 1, left - X, by simp, by omega, by omega, ⟨_, _, rfl⟩, rfl, by omega, unhide HREL⟩, by simp [intOf]; omega⟩
        · have hke : rowS c d.parts k = rowS c d.parts 6 := by
            have hpl : d.parts.length = np := by rw [← (unhide HPD).1, ← unhide HNP]
            by_cases h6 : k = 6
            · rw [h6]
            · rw [rowS_all c (k := 6) (by omega), rowS_all c (k := k) (by omega)]
          have HREL : Hid (Rw kA W wr (.slice p6 m2 c6) m2 (alP C L (i + 1)) ∧ m2 ≤ 6 * (i + 1)) := by
            rw [unhide HSS, ← hke]
            exact ⟨hRk, by omega⟩
          clear hRk hke hle
          by_cases hlk2 : k < np
          · have hk6' : ¬ (k < 6) := by omega
            go_wp2_with fail
            exact ⟨⟨i + 1, m2, by simp, by omega, ⟨_, _, rfl⟩, unhide HREL⟩, by simp [intOf]; omega⟩
          · go_wp2_with fail
            exact ⟨⟨i + 1, m2, by simp, by omega, ⟨_, _, rfl⟩, unhide HREL⟩, by simp [intOf]; omega⟩
    · have hin : i = n := by omega
      subst hin
      have HRL := hide (unhide hrel).1
      go_wp2_with fail
      go_ret
      exact ⟨_, _, _, rfl, unhide HRL⟩
end Go.Proofs.YtildpgfhahmgmaaDoor
