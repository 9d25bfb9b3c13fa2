import Derived.Test.YtfclknlpdcanpaaGreatDoorW08
/- aged: show (56). -/
namespace Go.Proofs.YtfclknlpdcanpaaGreatDoor
open Go Go.Shelf Go.ChangeShapes Go.WideShapes Go.ChangeAt Go.RowKit Go.Maps
set_option linter.unusedVariables false
def ld94 (x : Value) : Sem Value := Instr.loadAt 107 x
theorem ld94_is (x : Value) : Instr.loadAt 107 x = ld94 x := rfl
def st94 (x y : Value) : Sem Unit := Instr.storeAt 107 x y
theorem st94_is (x y : Value) : Instr.storeAt 107 x y = st94 x y := rfl
theorem size94 : (Tryz.prog.info? 107).map (·.size) = some 2 := by kernel_rfl
theorem run_st94 {w : World} {b o : Nat} (h : w.there b o 2) (x y : Int) : (st94 (.pointer (some ⟨b, o, none⟩)) (.agg #[.int .i64 x, .int .i64 y])).run Tryz.prog w = .ok () (w.setCells b o [.int .i64 x, .int .i64 y]) :=
  run_storeAt_mid (P := Tryz.prog) w b o 107 #[.int .i64 x, .int .i64 y] h size94 (by simp [Value.oneCell'])
attribute [local go_sem ↓] ld94_is st94_is
def Gh.key (G : Gh) (p : Nat) : List UInt8 := (G.cl p).acc.data.toList
/-- the view with a claim shown as this -/
def Gh.shown (G : Gh) (p : Nat) (s : Int × Int) : Gh := { G with
  sh := fun x => if x = p then s else G.sh x
  nw := fun k j => if k = G.key p then (G.nw k j - (if (j : Int) = (G.sh p).1 then (G.sh p).2 else 0)) + (if (j : Int) = s.1 then s.2 else 0) else G.nw k j }
theorem und79 : Tryz.prog.underlying 96 = some (.map 9 118) := Tryz.underlying96
theorem und78 : Tryz.prog.underlying 95 = some (.map 9 101) := Tryz.underlying95
theorem zero89 (w : World) : (zeroValue 118).run Tryz.prog w = .ok (.pointer none) w := by kernel_rfl
theorem zero84 (w : World) : (zeroValue 101).run Tryz.prog w = .ok (.pointer none) w := by kernel_rfl
theorem acV_at (G : Gh) (k : List UInt8) (n : Nat) (hn : n ≤ 4) : (G.acV k)[1 + n]? = some (.int .i64 (G.nw k n)) := by
  have : n = 0 ∨ n = 1 ∨ n = 2 ∨ n = 3 ∨ n = 4 := by omega
  rcases this with rfl | rfl | rfl | rfl | rfl <;> rfl
theorem acV_set (G : Gh) (k : List UInt8) (n : Nat) (hn : n ≤ 4) (v : Int) (G' : Gh) (h1 : G'.av k = G.av k) (h2 : ∀ j, j ≤ 4 → G'.nw k j = if j = n then v else G.nw k j) : (G.acV k).setIfInBounds (1 + n) (.int .i64 v) = G'.acV k := by
  unfold Gh.acV
  rw [h1, h2 0 (by omega), h2 1 (by omega), h2 2 (by omega), h2 3 (by omega), h2 4 (by omega)]
  have : n = 0 ∨ n = 1 ∨ n = 2 ∨ n = 3 ∨ n = 4 := by omega
  rcases this with rfl | rfl | rfl | rfl | rfl <;> rfl
structure ShowOK (G : Gh) (p : Nat) : Prop where
  len : (G.pt p).length ≤ 1048576
  pos : ∀ x ∈ G.pt p, 1 ≤ x.2
  sum : sumAll (G.pt p) ≤ (G.cl p).amt
  amt : 0 ≤ (G.cl p).amt ∧ (G.cl p).amt ≤ 9223372036854775807
  due : 0 ≤ (G.cl p).due ∧ (G.cl p).due ≤ 4000000
  gone : 0 ≤ G.gone ∧ G.gone ≤ 3652058
  age : 0 ≤ (G.sh p).1 ∧ (G.sh p).1 ≤ 4
  sz : (G.cl p).acc.size ≤ maxLen
  less : -9223372036854775808 ≤ G.nw (G.key p) (G.sh p).1.toNat - (G.sh p).2 ∧ G.nw (G.key p) (G.sh p).1.toNat - (G.sh p).2 ≤ 9223372036854775807
  more : ∀ j, j ≤ 4 → -9223372036854775808 ≤ (G.shown p (shr (G.cl p) (G.pt p) (1 + G.gone))).nw (G.key p) j ∧ (G.shown p (shr (G.cl p) (G.pt p) (1 + G.gone))).nw (G.key p) j ≤ 9223372036854775807
set_option maxRecDepth 100000 in
set_option maxHeartbeats 8000000 in
theorem show_any {W : World} {d p q : Nat} {G : Gh} (h : Raw W d G) (hp : p ∈ G.bs) (hq : G.qa (G.key p) = some q) (hS : Stp W) (hz : ¬ G.own d 0) (hok : ShowOK G p) :
    Calls Tryz.prog 108 #[ptr d, ptr p] W fun e w' => e = .returned (.tuple #[]) ∧ Next W w' d G (G.shown p (shr (G.cl p) (G.pt p) (1 + G.gone))) := by
  obtain ⟨b, hb⟩ : ∃ b, G.ma = some b := by
    cases hma : G.ma with
    | none => rw [h.an hma] at hq; cases hq
    | some b => exact ⟨b, rfl⟩
  have hob := h.ob
  have hcb := h.cb p hp
  have hac := h.ac _ q hq
  have hpq : p ≠ q := fun e => by have h1 := h.tyB hp; rw [e, h.tyQ hq] at h1; cases h1
  have hpd : p ≠ d := fun e => by have h1 := h.tyB hp; rw [e, h.tyD] at h1; cases h1
  have hqd : q ≠ d := fun e => by have h1 := h.tyQ hq; rw [e, h.tyD] at h1; cases h1
  obtain ⟨n0, hn0⟩ : ∃ n0, n0 = (G.sh p).1.toNat := ⟨_, rfl⟩
  obtain ⟨s, hs⟩ : ∃ s, s = shr (G.cl p) (G.pt p) (1 + G.gone) := ⟨_, rfl⟩
  have hsb := shr_bounds hok.pos hok.sum hok.amt.1 (1 + G.gone)
  rw [← hs] at hsb
  obtain ⟨n1, hn1⟩ : ∃ n1, n1 = s.1.toNat := ⟨_, rfl⟩
  have hage := hok.age
  obtain ⟨k, hk⟩ : ∃ k, k = G.key p := ⟨_, rfl⟩
  have d2 : W.drew.cell? ⟨d, 2, none⟩ = some (.map (some b)) := by
    show W.cell? _ = _
    simp [World.cell?, hob, Gh.agV, hb]
  have p1 : W.drew.cell? ⟨p, 1, none⟩ = some (.string (G.cl p).acc) := by
    show W.cell? _ = _
    simp [World.cell?, hcb, Gh.clV]
  have hlk : (Instr.lookup 96 (.map (some b)) (.string (G.cl p).acc) false).run Tryz.prog W.drew = .ok (ptr q) W.drew := by
    have h1 := ((h.am b hb).keep (w' := W.drew) rfl).look (t := 96) und79 (zero89 _) hok.sz
    have h2 : G.qa (G.cl p).acc.data.toList = some q := hq
    rw [h2] at h1
    exact h1
  unfold ptr at hlk ⊢
  go_enter Tryz.func108, Tryz.ntmps108
  go_wp2_with fail
  refine wp_region_last (n := 13) (S := fun W' => W'.cell? ⟨d, 2, none⟩ = some (.map (some b)) ∧ W'.cell? ⟨p, 1, none⟩ = some (.string (G.cl p).acc) ∧ (Instr.lookup 96 (.map (some b)) (.string (G.cl p).acc) false).run Tryz.prog W' = .ok (.pointer (some ⟨q, 0, none⟩)) W') (by kernel_rfl) (by exact ⟨d2, p1, hlk⟩) (fun hHeld => ?_)
  refine tkW 0 ?_; refine tkW 1 ?_; refine tkW 2 ?_; refine tkN 3 ?_; refine tkW 4 ?_; refine tkW 5 ?_; refine tkW 6 ?_; refine tkW 7 ?_; refine tkN 8 ?_; refine tkN 9 ?_; refine tkW 10 ?_; refine tkW 11 ?_; refine tkW 12 ?_
  refine wpAnyL_done (by kernel_rfl) ?_
  clear hHeld d2 p1 hlk
  obtain ⟨a0, ha0⟩ : ∃ a0, a0 = (G.sh p).1 := ⟨_, rfl⟩
  obtain ⟨o0, ho0⟩ : ∃ o0, o0 = (G.sh p).2 := ⟨_, rfl⟩
  obtain ⟨x0, hx0⟩ : ∃ x0, x0 = G.nw k n0 := ⟨_, rfl⟩
  rw [← ha0] at hage hn0
  have hless := hok.less
  rw [← ha0, ← ho0, ← hk, ← hn0, ← hx0] at hless
  have p7 : W.drew.drew.cell? ⟨p, 7, none⟩ = some (.int .i64 a0) := by
    show W.cell? _ = _
    simp [World.cell?, hcb, Gh.clV, ha0]
  have p8 : W.drew.drew.cell? ⟨p, 8, none⟩ = some (.int .i64 o0) := by
    show W.cell? _ = _
    simp [World.cell?, hcb, Gh.clV, ho0]
  have q1 : W.drew.drew.cell? ⟨q, 1 + n0, none⟩ = some (.int .i64 x0) := by
    show W.cell? _ = _
    rw [cell_at hac, ← hk, hx0]
    exact acV_at G k n0 (by omega)
  have q1f : W.drew.drew.frozen? ⟨q, 1 + n0, none⟩ = false := by
    show W.frozen? _ = _
    exact froz_at hac
  have ha1 : 0 ≤ a0 := hage.1
  have ha2 : a0 < 5 := by omega
  have hat : a0.toNat = n0 := hn0.symm
  have hw1 : IntKind.i64.wrap (x0 - o0) = x0 - o0 := by rw [IntKind.wrap_i64]; omega
  obtain ⟨V, hV⟩ : ∃ V, V = W.drew.drew := ⟨_, rfl⟩
  obtain ⟨V1, hV1⟩ : ∃ V1, V1 = V.setCell ⟨q, 1 + n0, none⟩ (.int .i64 (x0 - o0)) := ⟨_, rfl⟩
  rw [← hV] at p7 p8 q1 q1f
  have HH := hide h; have HOK := hide hok; have HN0 := hide hn0; have HN1 := hide hn1; have HA0 := hide ha0; have HO0 := hide ho0; have HX0 := hide hx0; have HS := hide hs; have HK := hide hk; have HSB := hide hsb; have HAC := hide hac; have HCB := hide hcb; have HOB := hide hob; have HQ := hide hq; have HST := hide hS; have HVV := hide hV
  clear h hok hn0 hn1 ha0 ho0 hx0 hs hk hsb hac hcb hob hq hS hless hb hage hV
  go_wp2_with fail
  refine wp_region_last (n := 17) (S := fun W' => W'.cell? ⟨p, 7, none⟩ = some (.int .i64 a0) ∧ W'.cell? ⟨p, 8, none⟩ = some (.int .i64 o0) ∧ W'.cell? ⟨q, 1 + n0, none⟩ = some (.int .i64 x0) ∧ W'.frozen? ⟨q, 1 + n0, none⟩ = false ∧ W' = W.drew.drew) (by kernel_rfl) (by rw [unhide HVV] at p7 p8 q1 q1f; exact ⟨p7, p8, q1, q1f, rfl⟩) (fun hHeld => ?_)
  refine tkW 0 ?_; refine tkW 1 ?_; refine tkW 2 ?_; refine tkW 3 ?_; refine tkW 4 ?_; refine tkS 5 ?_; refine tkW 6 ?_; refine tkW 7 ?_; refine tkS 8 ?_; refine tkW 9 ?_; refine tkW 10 ?_; refine tkW 11 ?_; refine tkW 12 ?_; refine tkS 13 ?_; refine tkW 14 ?_; refine tkW 15 ?_; refine tkW 16 ?_
  clear hHeld
  rw [← unhide HVV]
  refine wpAnyL_past (i := 17) (by kernel_rfl) rfl (by kernel_rfl) (fun KK hK => ?_)
  go_simp
  refine hK.out _ _ ?_
  clear hK KK
  refine wpAnyL_done (by kernel_rfl) ?_
  rw [← hV1]
  clear p7 p8 q1 q1f hw1
  obtain ⟨G1, hG1⟩ : ∃ G1 : Gh, G1 = { G with nw := fun k' j => if k' = k then (if j = n0 then x0 - o0 else G.nw k' j) else G.nw k' j } := ⟨_, rfl⟩
  have hbV : ∀ b, b ≠ q → V1.heap[b]? = W.heap[b]? := fun b hb => by rw [hV1, Below.heap_setCell _ _ _ _ hb, unhide HVV]; rfl
  have hq1 : V1.heap[q]? = some (.cells (G1.acV k) 120 (0, 0)) := by
    have h1 : V.heap[q]? = some (.cells (G.acV k) 120 (0, 0)) := by rw [unhide HVV, unhide HK]; exact unhide HAC
    rw [hV1, Go.heap_setCell_same _ _ _ _ _ _ h1, acV_set G k n0 (by omega) (x0 - o0) G1 (by rw [hG1]) (fun j _ => by rw [hG1]; simp)]
  have hd1 : V1.heap[d]? = some (.cells G.agV 100 (0, 0)) := (hbV d (fun e => hqd e.symm)).trans (unhide HOB)
  have hp1 : V1.heap[p]? = some (.cells (G.clV p) 109 (0, 0)) := (hbV p hpq).trans (unhide HCB)
  have hok := unhide HOK
  have g5 : V1.cell? ⟨d, 5, none⟩ = some (.int .i64 G.gone) := by simp [World.cell?, hd1, Gh.agV]
  have dA := hide (asOf_any g5 hok.gone)
  obtain ⟨pp, cp, hpv, hpn, hps⟩ := row_slice ((unhide HH).pr p hp)
  have hq0 : q ≠ 0 := fun e => hz (by rw [← e]; exact own_qa (unhide HQ))
  have dS := hide (share_any (W := V1) (p := p) (c := G.cl p) (P := G.pt p) (lf := G.lf p) (a0 := (G.sh p).1) (o0 := (G.sh p).2) (pp := pp) (np := (G.pt p).length) (cp := cp) (by rw [hp1]; unfold Gh.clV; rw [hpv]) rfl hok.len (own_lies kQ_ok rfl (by rw [← hpv]; exact row_keep ((unhide HH).pr p hp) (fun g hg => hbV g (fun e => by
    have h1 := row_ty ((unhide HH).pr p hp) hg
    rw [e, (unhide HH).tyQ (unhide HQ)] at h1
    cases h1)))) ((unhide HST).keep (hbV 0 (fun e => hq0 e.symm))) hok.pos hok.sum hok.amt hok.due (t := 1 + G.gone) (by have := hok.gone; omega))
  rw [← unhide HS] at dS
  unfold ptr at dS
  have HD1 := hide hd1; have HP1 := hide hp1; have HQ1 := hide hq1; have HBV := hide hbV; have HV1 := hide hV1; have HG1 := hide hG1
  clear hd1 hp1 hq1 hbV hV1 g5 hok hpv hpn hps hG1 HAC HCB HOB
  go_wp2_with fail
  refine (unhide dA).mono ?_
  rintro e w1 ⟨rfl, hw⟩
  rw [hw]
  clear hw w1 dA
  go_wp2_with fail
  refine (unhide dS).mono ?_
  rintro e w2 ⟨rfl, hb2⟩
  clear dS
  have hpl : p < V1.heap.size := heap_lt (unhide HP1)
  have hql : q < V1.heap.size := heap_lt (unhide HQ1)
  have hp2 : w2.heap[p]? = some (.cells (G.clV p) 109 (0, 0)) := (hb2.block p hpl).trans (unhide HP1)
  have hq2 : w2.heap[q]? = some (.cells (G1.acV k) 120 (0, 0)) := (hb2.block q hql).trans (unhide HQ1)
  have hth : w2.there p 7 2 := fun j hj => by
    have : j = 0 ∨ j = 1 := by omega
    rcases this with rfl | rfl <;> simp [World.cell?, World.frozen?, hp2, Gh.clV]
  have sS := run_st94 hth s.1 s.2
  obtain ⟨W3, hW3⟩ : ∃ W3, W3 = w2.setCells p 7 [.int .i64 s.1, .int .i64 s.2] := ⟨_, rfl⟩
  rw [← hW3] at sS
  have hG1' := unhide HG1
  have hp3 : W3.heap[p]? = some (.cells ((G.shown p s).clV p) 109 (0, 0)) := by
    rw [hW3]
    show ((w2.setCell ⟨p, 7, none⟩ _).setCell ⟨p, 7 + 1, none⟩ _).heap[p]? = _
    rw [Go.heap_setCell_same _ _ _ _ _ _ (Go.heap_setCell_same _ _ _ _ _ _ hp2)]
    unfold Gh.clV Gh.shown
    simp
  have hq3 : W3.heap[q]? = some (.cells (G1.acV k) 120 (0, 0)) := by
    rw [hW3]
    show ((w2.setCell ⟨p, 7, none⟩ _).setCell ⟨p, 7 + 1, none⟩ _).heap[q]? = _
    rw [Below.heap_setCell _ _ _ _ (fun e => hpq e.symm), Below.heap_setCell _ _ _ _ (fun e => hpq e.symm)]
    exact hq2
  have ho3 : ∀ b, b < V1.heap.size → b ≠ p → W3.heap[b]? = V1.heap[b]? := fun b hb hbp => by
    rw [hW3]
    show ((w2.setCell ⟨p, 7, none⟩ _).setCell ⟨p, 7 + 1, none⟩ _).heap[b]? = _
    rw [Below.heap_setCell _ _ _ _ hbp, Below.heap_setCell _ _ _ _ hbp]
    exact hb2.block b hb
  obtain ⟨x1, hx1⟩ : ∃ x1, x1 = G1.nw k n1 := ⟨_, rfl⟩
  obtain ⟨s1, hs1⟩ : ∃ s1, s1 = s.1 := ⟨_, rfl⟩
  obtain ⟨s2, hs2⟩ : ∃ s2, s2 = s.2 := ⟨_, rfl⟩
  have hsb := unhide HSB
  have hn1 := unhide HN1
  have hs1t : s1.toNat = n1 := by rw [hs1]; exact hn1.symm
  have hs10 : 0 ≤ s1 := by rw [hs1]; exact hsb.2.2.1
  have hs15 : s1 < 5 := by rw [hs1]; omega
  have p7 : W3.drew.cell? ⟨p, 7, none⟩ = some (.int .i64 s1) := by
    show W3.cell? _ = _
    simp [World.cell?, hp3, Gh.clV, Gh.shown, hs1]
  have p8 : W3.drew.cell? ⟨p, 8, none⟩ = some (.int .i64 s2) := by
    show W3.cell? _ = _
    simp [World.cell?, hp3, Gh.clV, Gh.shown, hs2]
  have q1 : W3.drew.cell? ⟨q, 1 + n1, none⟩ = some (.int .i64 x1) := by
    show W3.cell? _ = _
    rw [cell_at hq3, hx1]
    exact acV_at G1 k n1 (by omega)
  have q1f : W3.drew.frozen? ⟨q, 1 + n1, none⟩ = false := by
    show W3.frozen? _ = _
    exact froz_at hq3
  have hnw : ∀ j, j ≤ 4 → (G.shown p s).nw k j = if j = n1 then x1 + s2 else G1.nw k j := fun j hj => by
    unfold Gh.shown
    rw [hx1, hG1']
    simp only [← unhide HK, if_true]
    rw [← unhide HA0, ← unhide HO0, ← hs1, ← hs2, unhide HX0]
    have e0 : ((j : Int) = a0) ↔ j = n0 := by omega
    have e1 : ((j : Int) = s1) ↔ j = n1 := by omega
    by_cases h0 : j = n0
    · by_cases h1 : j = n1
      · have h01 : n1 = n0 := by omega
        rw [if_pos (e0.2 h0), if_pos (e1.2 h1), if_pos h1, if_pos h01, h0]
      · rw [if_pos (e0.2 h0), if_neg (fun e => h1 (e1.1 e)), if_neg h1, if_pos h0, h0]
        omega
    · by_cases h1 : j = n1
      · have h01 : ¬ n1 = n0 := by omega
        rw [if_neg (fun e => h0 (e0.1 e)), if_pos (e1.2 h1), if_pos h1, if_neg h01, h1]
        omega
      · rw [if_neg (fun e => h0 (e0.1 e)), if_neg (fun e => h1 (e1.1 e)), if_neg h1, if_neg h0]
        omega
  have hmore := (unhide HOK).more n1 (by omega)
  rw [← unhide HS, ← unhide HK, hnw n1 (by omega), if_pos rfl] at hmore
  have hw2 : IntKind.i64.wrap (x1 + s2) = x1 + s2 := by rw [IntKind.wrap_i64]; omega
  obtain ⟨W4, hW4⟩ : ∃ W4, W4 = W3.drew.setCell ⟨q, 1 + n1, none⟩ (.int .i64 (x1 + s2)) := ⟨_, rfl⟩
  have HEND : Hid (Next W W4 d G (G.shown p s)) := by
    have hVW : V1.heap.size = W.heap.size := by rw [unhide HV1, unhide HVV]; simp
    have hb4 : ∀ b, b ≠ q → W4.heap[b]? = W3.heap[b]? := fun b hb => by rw [hW4, Below.heap_setCell _ _ _ _ hb]; rfl
    have hfr : Fr W W4 (fun b => b = d ∨ b ∈ G.bs ∨ ∃ k, G.qa k = some b) := by
      have f1 : Fr W V1 (fun b => b = d ∨ b ∈ G.bs ∨ ∃ k, G.qa k = some b) := by
        rw [unhide HV1, unhide HVV]
        exact (Fr.refl W _).drew.drew.setCell (.inl (.inr (.inr ⟨_, unhide HQ⟩))) _
      have f2 : Fr V1 w2 (fun b => b = d ∨ b ∈ G.bs ∨ ∃ k, G.qa k = some b) := Fr.of_below hb2 _
      have f3 := f1.trans f2 (fun _ _ h => h)
      have f4 : Fr W W3 (fun b => b = d ∨ b ∈ G.bs ∨ ∃ k, G.qa k = some b) := by
        rw [hW3]
        exact (f3.setCell (p := ⟨p, 7, none⟩) (.inl (.inr (.inl hp))) _).setCell (p := ⟨p, 7 + 1, none⟩) (.inl (.inr (.inl hp))) _
      rw [hW4]
      exact f4.drew.setCell (.inl (.inr (.inr ⟨_, unhide HQ⟩))) _
    refine (unhide HH).scalar rfl rfl rfl rfl rfl rfl rfl rfl rfl rfl rfl rfl rfl rfl rfl rfl rfl hfr ?_ (fun p' hp' => ?_) (fun k' q' hq' => ?_)
    · rw [hb4 d (fun e => hqd e.symm), ho3 d (heap_lt (unhide HD1)) (fun e => hpd e.symm)]
      exact unhide HD1
    · have hp'q : p' ≠ q := fun e => by have h1 := (unhide HH).tyB hp'; rw [e, (unhide HH).tyQ (unhide HQ)] at h1; cases h1
      by_cases e : p' = p
      · rw [hb4 p' hp'q, e]; exact hp3
      · rw [hb4 p' hp'q, ho3 p' (by rw [hVW]; exact heap_lt ((unhide HH).cb p' hp')) e, unhide HBV p' hp'q, (unhide HH).cb p' hp']
        unfold Gh.clV Gh.shown
        simp [e]
    · by_cases e : k' = k
      · subst e
        have e2 : q' = q := by
          rw [unhide HK, unhide HQ] at hq'
          exact (Option.some.inj hq').symm
        rw [e2, hW4, Go.heap_setCell_same _ _ _ _ _ _ (show W3.drew.heap[q]? = _ from hq3), acV_set G1 k' n1 (by omega) (x1 + s2) (G.shown p s) (by rw [hG1']; rfl) hnw]
      · have hq'q : q' ≠ q := fun e2 => e ((unhide HH).qi k' k q' hq' (by rw [e2, unhide HK]; exact unhide HQ))
        have hq'p : q' ≠ p := fun e2 => by have h1 := (unhide HH).tyQ hq'; rw [e2, (unhide HH).tyB hp] at h1; cases h1
        rw [hb4 q' hq'q, ho3 q' (by rw [hVW]; exact heap_lt ((unhide HH).ac k' q' hq')) hq'p, unhide HBV q' hq'q, (unhide HH).ac k' q' hq']
        unfold Gh.acV Gh.shown
        have e3 : ¬ k' = G.key p := by rw [← unhide HK]; exact e
        simp [e3]
  have HB2 := hide hb2; have HX1 := hide hx1
  rw [← hs1, ← hs2] at sS ⊢
  clear hp2 hq2 hth hp3 hq3 ho3 hx1 hs1 hs2 hsb hn1 hnw hmore hb2 hW3 hG1' HSB
  go_wp2_with fail
  refine wp_region_last (n := 17) (S := fun W' => W'.cell? ⟨p, 7, none⟩ = some (.int .i64 s1) ∧ W'.cell? ⟨p, 8, none⟩ = some (.int .i64 s2) ∧ W'.cell? ⟨q, 1 + n1, none⟩ = some (.int .i64 x1) ∧ W'.frozen? ⟨q, 1 + n1, none⟩ = false ∧ W' = W3.drew) (by kernel_rfl) (by exact ⟨p7, p8, q1, q1f, rfl⟩) (fun hHeld => ?_)
  refine tkW 0 ?_; refine tkW 1 ?_; refine tkW 2 ?_; refine tkW 3 ?_; refine tkW 4 ?_; refine tkS 5 ?_; refine tkW 6 ?_; refine tkW 7 ?_; refine tkS 8 ?_; refine tkW 9 ?_; refine tkW 10 ?_; refine tkW 11 ?_; refine tkW 12 ?_; refine tkS 13 ?_; refine tkW 14 ?_; refine tkW 15 ?_; refine tkW 16 ?_
  clear hHeld
  refine wpAnyL_past (i := 17) (by kernel_rfl) rfl (by kernel_rfl) (fun KK hK => ?_)
  obtain ⟨Z3, hZ3⟩ : ∃ Z3, Z3 = W3.drew := ⟨_, rfl⟩
  rw [← hZ3] at p7 p8 q1 q1f hW4 ⊢
  have HW4 := hide hW4
  clear hZ3 hW4
  go_simp
  refine hK.out _ _ ?_
  clear hK KK
  refine wpAnyL_done (by kernel_rfl) ?_
  rw [← unhide HW4]
  go_wp2_with fail
  go_end0
  exact ⟨rfl, by rw [← unhide HS]; exact unhide HEND⟩
end Go.Proofs.YtfclknlpdcanpaaGreatDoor
/- aged: turns (54), follow (46). -/
namespace Go.Proofs.YtfclknlpdcanpaaGreatDoor
open Go Go.Shelf Go.ChangeShapes Go.WideShapes Go.ChangeAt Go.RowKit Go.Maps
set_option linter.unusedVariables false
def trn5 (c : Cl) : List Int := [c.day, c.due + 1, c.due + 31, c.due + 61, c.due + 91]
theorem trn5_is (c : Cl) : trn c [] = trn5 c := rfl
/-- the claim's days so far -/
structure TurnsR (W wr : World) (v : Value) (n : Nat) (L : List Int) : Prop where
  row : wr.ownsRow W.heap.size 3 1 v n (kI.flat L)
  bel : Below W.heap.size W wr
  len : L.length = n
set_option maxRecDepth 100000 in
set_option maxHeartbeats 8000000 in
theorem turns_any {W : World} {p : Nat} {c : Cl} {x5 x6 x7 x8 : Value} (hp : W.heap[p]? = some (.cells #[.string c.key, .string c.acc, .int .i64 c.day, .int .i64 c.due, .int .i64 c.amt, x5, x6, x7, x8] 109 (0, 0))) (hS : Stp W) (hD : 0 ≤ c.due ∧ c.due ≤ 4000000) :
    Calls Tryz.prog 190 #[ptr p] W fun e w' => ∃ v, e = .returned v ∧ TurnsR W w' v 5 (trn5 c) := by
  have hpl := heap_lt hp
  have h2 : W.cell? ⟨p, 2, none⟩ = some (.int .i64 c.day) := by rw [cell_at hp]; rfl
  have HP := hide hp; have HS := hide hS
  have g0 : W.cell? ⟨0, 0, none⟩ = some (.int .i64 1) := hS.cell 0 (by decide)
  have g1 : W.cell? ⟨0, 1, none⟩ = some (.int .i64 31) := hS.cell 1 (by decide)
  have g2 : W.cell? ⟨0, 2, none⟩ = some (.int .i64 61) := hS.cell 2 (by decide)
  have g3 : W.cell? ⟨0, 3, none⟩ = some (.int .i64 91) := hS.cell 3 (by decide)
  have h0l := hS.lt
  have h3 : W.cell? ⟨p, 3, none⟩ = some (.int .i64 c.due) := by rw [cell_at hp]; rfl
  have ix0' := ix0; have ix1' := ix1; have ix2' := ix2; have ix3' := ix3
  have hw1 : IntKind.i64.wrap (c.due + 1) = c.due + 1 := by rw [IntKind.wrap_i64]; omega
  have hw2 : IntKind.i64.wrap (c.due + 31) = c.due + 31 := by rw [IntKind.wrap_i64]; omega
  have hw3 : IntKind.i64.wrap (c.due + 61) = c.due + 61 := by rw [IntKind.wrap_i64]; omega
  have hw4 : IntKind.i64.wrap (c.due + 91) = c.due + 91 := by rw [IntKind.wrap_i64]; omega
  unfold ptr
  clear hp hS
  have step : Hid (∀ (wr : World) (v : Value) (n : Nat) (L : List Int) (x : Int), n ≤ 5 → TurnsR W wr v n L → ∃ p' c' w', (Builtin.append_ #[129, 129] 129 #[v, .slice (some ⟨wr.heap.size, 0, none⟩) 1 1]).run Tryz.prog (wr.alloc (.cells #[.int .i64 x] 3)) = .ok (.slice p' (n + 1) c') w' ∧ TurnsR W w' (.slice p' (n + 1) c') (n + 1) (L ++ [x])) := fun wr v n L x hn h => by
    obtain ⟨p', c', w', h1, h2, h3, _⟩ := run_app kI_ok 129 (W := wr.alloc (.cells #[.int .i64 x] 3)) (B := W.heap.size) (h.row.alloc _) (Nat.le_trans h.bel.size (by simp)) (some ⟨wr.heap.size, 0, none⟩) 1 (fun h => by cases h) (one_lies wr x 3 _ rfl) (by simp; omega)
    refine ⟨p', c', w', h1, h2, ?_, by simp [h.len]⟩
    exact (h.bel.alloc h.bel.size _).trans h3
  have hrow0 : Hid (TurnsR W (W.alloc (.cells #[.int .i64 c.day] 3)) (.slice (some ⟨W.heap.size, 0, none⟩) 1 1) 1 [c.day]) := by
    refine ⟨⟨rfl, .inr ⟨W.heap.size, 1, #[.int .i64 c.day], rfl, Nat.le_refl _, heap_new _ _, Nat.le_refl _, by unfold maxLen; omega, rfl, rfl⟩⟩, (Below.refl _ _).alloc (Nat.le_refl _) _, rfl⟩
  go_enter Tryz.func190, Tryz.ntmps190
  go_wp2_with fail
  go_loopw [3, 13] (fun v3 v13 wr => ∃ (j : Nat), v13 = .int .i64 j ∧ j ≤ 4 ∧ (∃ p' c', v3 = .slice p' (j + 1) c') ∧ Hid (TurnsR W wr v3 (j + 1) ((trn5 c).take (j + 1)))) (fun _ v13 _ => 4 - (intOf v13).toNat)
  case atStart => exact ⟨0, rfl, by omega, ⟨_, _, rfl⟩, unhide hrow0⟩
  case round =>
    obtain ⟨j, rfl, hj, ⟨pp, cc, rfl⟩, hrel⟩ := hrel
    have hb := (unhide hrel).bel
    have m3 : wr.cell? ⟨p, 3, none⟩ = some (.int .i64 c.due) := (hb.cell (p := ⟨p, 3, none⟩) hpl).trans h3
    by_cases hlt : j < 4
    · have : j = 0 ∨ j = 1 ∨ j = 2 ∨ j = 3 := by omega
      rcases this with rfl | rfl | rfl | rfl
      · obtain ⟨p', c', w', hrun, hR⟩ := unhide step wr _ 1 _ (c.due + 1) (by omega) (unhide hrel)
        have HR := hide hR
        clear hR hb
        go_wp2_with (refine wpList_append_run rfl _ _ _ rfl _ _ _ _ rfl rfl hrun ?_)
        exact ⟨⟨1, rfl, by omega, ⟨_, _, rfl⟩, unhide HR⟩, by simp [intOf]⟩
      · obtain ⟨p', c', w', hrun, hR⟩ := unhide step wr _ 2 _ (c.due + 31) (by omega) (unhide hrel)
        have HR := hide hR
        clear hR hb
        go_wp2_with (refine wpList_append_run rfl _ _ _ rfl _ _ _ _ rfl rfl hrun ?_)
        exact ⟨⟨2, rfl, by omega, ⟨_, _, rfl⟩, unhide HR⟩, by simp [intOf]⟩
      · obtain ⟨p', c', w', hrun, hR⟩ := unhide step wr _ 3 _ (c.due + 61) (by omega) (unhide hrel)
        have HR := hide hR
        clear hR hb
        go_wp2_with (refine wpList_append_run rfl _ _ _ rfl _ _ _ _ rfl rfl hrun ?_)
        exact ⟨⟨3, rfl, by omega, ⟨_, _, rfl⟩, unhide HR⟩, by simp [intOf]⟩
      · obtain ⟨p', c', w', hrun, hR⟩ := unhide step wr _ 4 _ (c.due + 91) (by omega) (unhide hrel)
        have HR := hide hR
        clear hR hb
        go_wp2_with (refine wpList_append_run rfl _ _ _ rfl _ _ _ _ rfl rfl hrun ?_)
        exact ⟨⟨4, rfl, by omega, ⟨_, _, rfl⟩, unhide HR⟩, by simp [intOf]⟩
    · have hj4 : j = 4 := by omega
      subst hj4
      clear hb
      go_wp2_with fail
      go_ret
      exact ⟨_, rfl, unhide hrel⟩
/-- a list outside the view stays -/
theorem Lies.fr {α : Type} {K : Kd α} {W W' : World} {p : Option Addr} {L : List α} {X : Nat → Prop} (h : Lies K W p L) (hf : Fr W W' X) (hx : ∀ b off, p = some ⟨b, off, none⟩ → ¬ X b) : Lies K W' p L := by
  refine ⟨h.1, fun k hk => ?_⟩
  obtain ⟨b, off, e, hlt, hr⟩ := h.2 k hk
  exact ⟨b, off, e, Nat.lt_of_lt_of_le hlt hf.size, fun j u hu => (World.cell?_of_block (a := ⟨b, off + k * K.s + j, none⟩) (hf.block b hlt (hx b off e))).trans (hr j u hu)⟩
/-- which turns are marked -/
def Marks (G : Gh) (p : Nat) (L : List Int) (H' : List (Int × Nat)) : Prop := (∀ x, x ∈ H' ↔ x ∈ G.tn ∨ (x.2 = p ∧ x.1 ∈ L ∧ 1 + G.gone < x.1 ∧ x.1 ≤ 3652059)) ∧ Hp (dy H') H'.length ∧ H'.length ≤ G.tn.length + L.length
def FollowOut (W w' : World) (d : Nat) (G : Gh) (p : Nat) (L : List Int) : Prop := ∃ vt' H', Marks G p L H' ∧ Next W w' d G (({ G with vt := vt', tn := H' } : Gh).shown p (shr (G.cl p) (G.pt p) (1 + G.gone)))
theorem Marks.skip {G : Gh} {p : Nat} {L : List Int} {H' : List (Int × Nat)} {x : Int} (h : Marks G p L H') (hx : ¬ (1 + G.gone < x ∧ x ≤ 3652059)) : Marks G p (L ++ [x]) H' := by
  refine ⟨fun y => (h.1 y).trans ?_, h.2.1, by have := h.2.2; simp; omega⟩
  refine or_congr Iff.rfl ⟨fun ⟨h1, h2, h3⟩ => ⟨h1, List.mem_append_left _ h2, h3⟩, fun ⟨h1, h2, h3⟩ => ⟨h1, ?_, h3⟩⟩
  rcases List.mem_append.1 h2 with h | h
  · exact h
  · rw [List.mem_singleton] at h
    rw [h] at h3
    exact absurd h3 hx
theorem Marks.push {G : Gh} {p : Nat} {L : List Int} {H' H2 : List (Int × Nat)} {x : Int} (h : Marks G p L H') (hx : 1 + G.gone < x ∧ x ≤ 3652059) (h2 : ∀ y, y ∈ H2 ↔ y ∈ H' ∨ y = (x, p)) (hl : H2.length = H'.length + 1) (hh : Hp (dy H2) H2.length) : Marks G p (L ++ [x]) H2 := by
  refine ⟨fun y => (h2 y).trans ?_, hh, by have := h.2.2; simp; omega⟩
  rw [h.1 y]
  constructor
  · rintro ((h | ⟨h1, h2, h3⟩) | rfl)
    · exact .inl h
    · exact .inr ⟨h1, List.mem_append_left _ h2, h3⟩
    · exact .inr ⟨rfl, by simp, hx⟩
  · rintro (h | ⟨h1, h2, h3⟩)
    · exact .inl (.inl h)
    · rcases List.mem_append.1 h2 with h | h
      · exact .inl (.inr ⟨h1, h, h3⟩)
      · rw [List.mem_singleton] at h
        exact .inr (by rw [← h, ← h1])
theorem ShowOK.turns {G : Gh} {p : Nat} (h : ShowOK G p) (vt : Value) (tn : List (Int × Nat)) : ShowOK { G with vt := vt, tn := tn } p := ⟨h.len, h.pos, h.sum, h.amt, h.due, h.gone, h.age, h.sz, h.less, h.more⟩
set_option maxRecDepth 100000 in
set_option maxHeartbeats 8000000 in
theorem follow_any {W : World} {d p q : Nat} {G : Gh} (h : Raw W d G) (hp : p ∈ G.bs) (hq : G.qa (G.key p) = some q) (hS : Stp W) (hz : ¬ G.own d 0) (hok : ShowOK G p) (hh : Hp (dy G.tn) G.tn.length) {pd : Option Addr} {nd cd : Nat} {L : List Int} (hL : Lies kI W pd L) (hn : L.length = nd) (hout : ∀ b off, pd = some ⟨b, off, none⟩ → ¬ G.own d b) (hb : G.tn.length + nd ≤ 1000000) :
    Calls Tryz.prog 106 #[ptr d, ptr p, .slice pd nd cd] W fun e w' => e = .returned (.tuple #[]) ∧ FollowOut W w' d G p L := by
  have HH := hide h; have HP := hide hp; have HQ := hide hq; have HS := hide hS; have HZ := hide hz; have HOK := hide hok; have HL := hide hL; have HN := hide hn; have HO := hide hout; have HB := hide hb
  have hnd : nd ≤ 1000000 := by omega
  have HHP := hide hh
  unfold ptr
  clear h hp hq hS hz hok hL hn hout hb hh
  go_enter Tryz.func106, Tryz.ntmps106
  go_wp2_with fail
  go_loopw [10] (fun v10 wr => ∃ (j : Nat), v10 = .int .i64 j ∧ j ≤ nd ∧ Hid (∃ vt' H', Marks G p (L.take j) H' ∧ Next W wr d G { G with vt := vt', tn := H' })) (fun v10 _ => nd - (intOf v10).toNat)
  case atStart => exact ⟨0, rfl, by omega, G.vt, G.tn, ⟨fun x => by simp, unhide HHP, by simp⟩, Next.refl (unhide HH)⟩
  case round =>
    obtain ⟨j, rfl, hj, hrel⟩ := hrel
    obtain ⟨vt', H', hM, hN⟩ := unhide hrel
    have hd5 : wr.cell? ⟨d, 5, none⟩ = some (.int .i64 G.gone) := by rw [cell_at hN.raw.ob]; rfl
    have hzr : wr.heap[0]? = W.heap[0]? := hN.fr.block 0 (unhide HS).lt (unhide HZ)
    by_cases hlt : j < nd
    · have hjl : j < L.length := by rw [unhide HN]; exact hlt
      have hLr := (unhide HL).fr hN.fr (unhide HO)
      obtain ⟨b, off, e, _, hr⟩ := hLr.2 j hjl
      obtain ⟨x, hx⟩ : ∃ x, x = L[j] := ⟨_, rfl⟩
      rw [← hx] at hr
      have hc : wr.cell? ⟨b, off + j, none⟩ = some (.int .i64 x) := by
        have := hr 0 _ rfl
        simpa [kI] using this
      have et : L.take (j + 1) = L.take j ++ [x] := by rw [List.take_succ_eq_append_getElem hjl, ← hx]
      have dA := hide (asOf_any hd5 (unhide HOK).gone)
      obtain ⟨T, hT⟩ : ∃ T, T = 1 + G.gone := ⟨_, rfl⟩
      rw [← hT] at dA
      have HT := hide hT; have HE := hide et; have HM := hide hM; have HNX := hide hN
      subst e
      clear hLr hr hx hjl hT et hM hN hrel
      by_cases h1 : x > T
      · by_cases h2 : x ≤ 3652059
        · have hlen : H'.length ≤ 1000000 := by
            have h3 := (unhide HM).2.2
            rw [List.length_take] at h3
            have := unhide HB
            have := unhide HN
            omega
          have dP := hide (push_any (unhide HNX).raw.ob (unhide HNX).raw.rt rfl hlen (unhide HM).2.1 x p)
          unfold ptr at dP
          go_wp2_with fail
          refine (unhide dA).mono ?_
          rintro e w1 ⟨rfl, hw⟩
          rw [hw]
          clear hw w1 dA
          go_wp2_with fail
          refine (unhide dP).mono ?_
          rintro e w1 ⟨rfl, hout⟩
          have HREL : Hid (∃ vt' H', Marks G p (L.take (j + 1)) H' ∧ Next W w1 d G { G with vt := vt', tn := H' }) := by
            obtain ⟨H2, hm2, ht2⟩ := hout
            obtain ⟨vt2, hn2⟩ := (unhide HNX).raw.turns ht2
            refine ⟨vt2, H2, ?_, (unhide HNX).trans hn2⟩
            rw [unhide HE]
            exact (unhide HM).push (by rw [← unhide HT]; exact ⟨h1, h2⟩) hm2 ht2.len (by rw [ht2.len]; exact ht2.hp)
          clear hout dP
          go_wp2_with fail
          exact ⟨⟨j + 1, by simp, by omega, unhide HREL⟩, by simp [intOf]; omega⟩
        · have HREL : Hid (∃ vt' H', Marks G p (L.take (j + 1)) H' ∧ Next W wr d G { G with vt := vt', tn := H' }) := ⟨vt', H', by rw [unhide HE]; exact (unhide HM).skip (fun h => h2 h.2), unhide HNX⟩
          go_wp2_with fail
          refine (unhide dA).mono ?_
          rintro e w1 ⟨rfl, hw⟩
          rw [hw]
          clear hw w1 dA
          go_wp2_with fail
          exact ⟨⟨j + 1, by simp, by omega, unhide HREL⟩, by simp [intOf]; omega⟩
      · have HREL : Hid (∃ vt' H', Marks G p (L.take (j + 1)) H' ∧ Next W wr d G { G with vt := vt', tn := H' }) := ⟨vt', H', by rw [unhide HE]; exact (unhide HM).skip (fun h => h1 (by rw [unhide HT]; exact h.1)), unhide HNX⟩
        go_wp2_with fail
        refine (unhide dA).mono ?_
        rintro e w1 ⟨rfl, hw⟩
        rw [hw]
        clear hw w1 dA
        go_wp2_with fail
        exact ⟨⟨j + 1, by simp, by omega, unhide HREL⟩, by simp [intOf]; omega⟩
    · have hjn : j = nd := by omega
      subst hjn
      have et : L.take j = L := List.take_of_length_le (by rw [unhide HN]; omega)
      rw [et] at hM
      have dS := hide (show_any hN.raw (unhide HP) (unhide HQ) ((unhide HS).keep hzr) (fun hx => (hN.own 0 hx).elim (unhide HZ) (fun h => by have := (unhide HS).lt; omega)) ((unhide HOK).turns vt' H'))
      unfold ptr at dS
      have HM := hide hM; have HNX := hide hN
      clear hM hN et hrel hd5
      go_wp2_with fail
      refine (unhide dS).mono ?_
      rintro e w1 ⟨rfl, hnx⟩
      have HF : Hid (FollowOut W w1 d G p L) := ⟨vt', H', unhide HM, (unhide HNX).trans hnx⟩
      clear hnx dS
      go_wp2_with fail
      go_end0
      exact ⟨rfl, unhide HF⟩
end Go.Proofs.YtfclknlpdcanpaaGreatDoor
