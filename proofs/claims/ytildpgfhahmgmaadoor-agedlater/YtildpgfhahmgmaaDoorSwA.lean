/- aged: show (37). -/
import Derived.Test.YtildpgfhahmgmaaDoorVwB
namespace Go.Proofs.YtildpgfhahmgmaaDoor
open Go Go.Shelf Go.ChangeShapes Go.WideShapes Go.ChangeAt Go.RowKit Go.Maps
set_option linter.unusedVariables false
def ld94 (x : Value) : Sem Value := Instr.loadAt 94 x
theorem ld94_is (x : Value) : Instr.loadAt 94 x = ld94 x := rfl
def st94 (x y : Value) : Sem Unit := Instr.storeAt 94 x y
theorem st94_is (x y : Value) : Instr.storeAt 94 x y = st94 x y := rfl
theorem size94 : (Tryd.prog.info? 94).map (·.size) = some 2 := by kernel_rfl
theorem run_st94 {w : World} {b o : Nat} (h : w.there b o 2) (x y : Int) : (st94 (.pointer (some ⟨b, o, none⟩)) (.agg #[.int .i64 x, .int .i64 y])).run Tryd.prog w = .ok () (w.setCells b o [.int .i64 x, .int .i64 y]) :=
  run_storeAt_mid (P := Tryd.prog) w b o 94 #[.int .i64 x, .int .i64 y] h size94 (by simp [Value.oneCell'])
attribute [local go_sem ↓] ld94_is st94_is
def Gh.key (G : Gh) (p : Nat) : List UInt8 := (G.cl p).acc.data.toList
/-- the view with a claim shown as this -/
def Gh.shown (G : Gh) (p : Nat) (s : Int × Int) : Gh := { G with
  sh := fun x => if x = p then s else G.sh x
  nw := fun k j => if k = G.key p then (G.nw k j - (if (j : Int) = (G.sh p).1 then (G.sh p).2 else 0)) + (if (j : Int) = s.1 then s.2 else 0) else G.nw k j }
theorem und79 : Tryd.prog.underlying 79 = some (.map 9 89) := Tryd.underlying79
theorem und78 : Tryd.prog.underlying 78 = some (.map 9 84) := Tryd.underlying78
theorem zero89 (w : World) : (zeroValue 89).run Tryd.prog w = .ok (.pointer none) w := by kernel_rfl
theorem zero84 (w : World) : (zeroValue 84).run Tryd.prog w = .ok (.pointer none) w := by kernel_rfl
theorem acV_at (G : Gh) (k : List UInt8) (n : Nat) (hn : n ≤ 4) : (G.acV k)[1 + n]? = some (.int .i64 (G.nw k n)) := by
  have : n = 0 ∨ n = 1 ∨ n = 2 ∨ n = 3 ∨ n = 4 := by omega
  rcases this with rfl | rfl | rfl | rfl | rfl <;> rfl
theorem acV_set (G : Gh) (k : List UInt8) (n : Nat) (hn : n ≤ 4) (v : Int) (G' : Gh) (h1 : G'.av k = G.av k) (h2 : ∀ j, j ≤ 4 → G'.nw k j = if j = n then v else G.nw k j) : (G.acV k).setIfInBounds (1 + n) (.int .i64 v) = G'.acV k := by
  unfold Gh.acV
  rw [h1, h2 0 (by omega), h2 1 (by omega), h2 2 (by omega), h2 3 (by omega), h2 4 (by omega)]
  have : n = 0 ∨ n = 1 ∨ n = 2 ∨ n = 3 ∨ n = 4 := by omega
  rcases this with rfl | rfl | rfl | rfl | rfl <;> rfl
structure ShowOK (G : Gh) (p : Nat) : Prop where
  len : (G.pt p).length ≤ 1048576
  pos : ∀ x ∈ G.pt p, 1 ≤ x.2
  sum : sumAll (G.pt p) ≤ (G.cl p).amt
  amt : 0 ≤ (G.cl p).amt ∧ (G.cl p).amt ≤ 9223372036854775807
  due : 0 ≤ (G.cl p).due ∧ (G.cl p).due ≤ 4000000
  gone : 0 ≤ G.gone ∧ G.gone ≤ 3652058
  age : 0 ≤ (G.sh p).1 ∧ (G.sh p).1 ≤ 4
  sz : (G.cl p).acc.size ≤ maxLen
  less : -9223372036854775808 ≤ G.nw (G.key p) (G.sh p).1.toNat - (G.sh p).2 ∧ G.nw (G.key p) (G.sh p).1.toNat - (G.sh p).2 ≤ 9223372036854775807
  more : ∀ j, j ≤ 4 → -9223372036854775808 ≤ (G.shown p (shr (G.cl p) (G.pt p) (1 + G.gone))).nw (G.key p) j ∧ (G.shown p (shr (G.cl p) (G.pt p) (1 + G.gone))).nw (G.key p) j ≤ 9223372036854775807
set_option maxRecDepth 100000 in
set_option maxHeartbeats 8000000 in
theorem show_any {W : World} {d p q : Nat} {G : Gh} (h : Raw W d G) (hp : p ∈ G.bs) (hq : G.qa (G.key p) = some q) (hS : Stp W) (hz : ¬ G.own d 0) (hok : ShowOK G p) :
    Calls Tryd.prog 37 #[ptr d, ptr p] W fun e w' => e = .returned (.tuple #[]) ∧ Next W w' d G (G.shown p (shr (G.cl p) (G.pt p) (1 + G.gone))) := by
  obtain ⟨b, hb⟩ : ∃ b, G.ma = some b := by
    cases hma : G.ma with
    | none => rw [h.an hma] at hq; cases hq
    | some b => exact ⟨b, rfl⟩
  have hob := h.ob
  have hcb := h.cb p hp
  have hac := h.ac _ q hq
  have hpq : p ≠ q := fun e => by have h1 := h.tyB hp; rw [e, h.tyQ hq] at h1; cases h1
  have hpd : p ≠ d := fun e => by have h1 := h.tyB hp; rw [e, h.tyD] at h1; cases h1
  have hqd : q ≠ d := fun e => by have h1 := h.tyQ hq; rw [e, h.tyD] at h1; cases h1
  obtain ⟨n0, hn0⟩ : ∃ n0, n0 = (G.sh p).1.toNat := ⟨_, rfl⟩
  obtain ⟨s, hs⟩ : ∃ s, s = shr (G.cl p) (G.pt p) (1 + G.gone) := ⟨_, rfl⟩
  have hsb := shr_bounds hok.pos hok.sum hok.amt.1 (1 + G.gone)
  rw [← hs] at hsb
  obtain ⟨n1, hn1⟩ : ∃ n1, n1 = s.1.toNat := ⟨_, rfl⟩
  have hage := hok.age
  obtain ⟨k, hk⟩ : ∃ k, k = G.key p := ⟨_, rfl⟩
  have d2 : W.drew.cell? ⟨d, 2, none⟩ = some (.map (some b)) := by
    show W.cell? _ = _
    simp [World.cell?, hob, Gh.agV, hb]
  have p1 : W.drew.cell? ⟨p, 1, none⟩ = some (.string (G.cl p).acc) := by
    show W.cell? _ = _
    simp [World.cell?, hcb, Gh.clV]
  have hlk : (Instr.lookup 79 (.map (some b)) (.string (G.cl p).acc) false).run Tryd.prog W.drew = .ok (ptr q) W.drew := by
    have h1 := ((h.am b hb).keep (w' := W.drew) rfl).look (t := 79) und79 (zero89 _) hok.sz
    have h2 : G.qa (G.cl p).acc.data.toList = some q := hq
    rw [h2] at h1
    exact h1
  unfold ptr at hlk ⊢
  go_enter Tryd.func37, Tryd.ntmps37
  go_wp2_with fail
  refine wp_region_last (n := 13) (S := fun W' => W'.cell? ⟨d, 2, none⟩ = some (.map (some b)) ∧ W'.cell? ⟨p, 1, none⟩ = some (.string (G.cl p).acc) ∧ (Instr.lookup 79 (.map (some b)) (.string (G.cl p).acc) false).run Tryd.prog W' = .ok (.pointer (some ⟨q, 0, none⟩)) W') (by kernel_rfl) (by exact ⟨d2, p1, hlk⟩) (fun hHeld => ?_)
  refine tkW 0 ?_; refine tkW 1 ?_; refine tkW 2 ?_; refine tkN 3 ?_; refine tkW 4 ?_; refine tkW 5 ?_; refine tkW 6 ?_; refine tkW 7 ?_; refine tkN 8 ?_; refine tkN 9 ?_; refine tkW 10 ?_; refine tkW 11 ?_; refine tkW 12 ?_
  refine wpAnyL_done (by kernel_rfl) ?_
  clear hHeld d2 p1 hlk
  obtain ⟨a0, ha0⟩ : ∃ a0, a0 = (G.sh p).1 := ⟨_, rfl⟩
  obtain ⟨o0, ho0⟩ : ∃ o0, o0 = (G.sh p).2 := ⟨_, rfl⟩
  obtain ⟨x0, hx0⟩ : ∃ x0, x0 = G.nw k n0 := ⟨_, rfl⟩
  rw [← ha0] at hage hn0
  have hless := hok.less
  rw [← ha0, ← ho0, ← hk, ← hn0, ← hx0] at hless
  have p7 : W.drew.drew.cell? ⟨p, 7, none⟩ = some (.int .i64 a0) := by
    show W.cell? _ = _
    simp [World.cell?, hcb, Gh.clV, ha0]
  have p8 : W.drew.drew.cell? ⟨p, 8, none⟩ = some (.int .i64 o0) := by
    show W.cell? _ = _
    simp [World.cell?, hcb, Gh.clV, ho0]
  have q1 : W.drew.drew.cell? ⟨q, 1 + n0, none⟩ = some (.int .i64 x0) := by
    show W.cell? _ = _
    rw [cell_at hac, ← hk, hx0]
    exact acV_at G k n0 (by omega)
  have q1f : W.drew.drew.frozen? ⟨q, 1 + n0, none⟩ = false := by
    show W.frozen? _ = _
    exact froz_at hac
  have ha1 : 0 ≤ a0 := hage.1
  have ha2 : a0 < 5 := by omega
  have hat : a0.toNat = n0 := hn0.symm
  have hw1 : IntKind.i64.wrap (x0 - o0) = x0 - o0 := by rw [IntKind.wrap_i64]; omega
  obtain ⟨V, hV⟩ : ∃ V, V = W.drew.drew := ⟨_, rfl⟩
  obtain ⟨V1, hV1⟩ : ∃ V1, V1 = V.setCell ⟨q, 1 + n0, none⟩ (.int .i64 (x0 - o0)) := ⟨_, rfl⟩
  rw [← hV] at p7 p8 q1 q1f
  have HH := hide h; have HOK := hide hok; have HN0 := hide hn0; have HN1 := hide hn1; have HA0 := hide ha0; have HO0 := hide ho0; have HX0 := hide hx0; have HS := hide hs; have HK := hide hk; have HSB := hide hsb; have HAC := hide hac; have HCB := hide hcb; have HOB := hide hob; have HQ := hide hq; have HST := hide hS; have HVV := hide hV
  clear h hok hn0 hn1 ha0 ho0 hx0 hs hk hsb hac hcb hob hq hS hless hb hage hV
  go_wp2_with fail
  refine wp_region_last (n := 17) (S := fun W' => W'.cell? ⟨p, 7, none⟩ = some (.int .i64 a0) ∧ W'.cell? ⟨p, 8, none⟩ = some (.int .i64 o0) ∧ W'.cell? ⟨q, 1 + n0, none⟩ = some (.int .i64 x0) ∧ W'.frozen? ⟨q, 1 + n0, none⟩ = false ∧ W' = W.drew.drew) (by kernel_rfl) (by rw [unhide HVV] at p7 p8 q1 q1f; exact ⟨p7, p8, q1, q1f, rfl⟩) (fun hHeld => ?_)
  refine tkW 0 ?_; refine tkW 1 ?_; refine tkW 2 ?_; refine tkW 3 ?_; refine tkW 4 ?_; refine tkS 5 ?_; refine tkW 6 ?_; refine tkW 7 ?_; refine tkS 8 ?_; refine tkW 9 ?_; refine tkW 10 ?_; refine tkW 11 ?_; refine tkW 12 ?_; refine tkS 13 ?_; refine tkW 14 ?_; refine tkW 15 ?_; refine tkW 16 ?_
  clear hHeld
  rw [← unhide HVV]
  refine wpAnyL_past (i := 17) (by kernel_rfl) rfl (by kernel_rfl) (fun KK hK => ?_)
  go_simp
  refine hK.out _ _ ?_
  clear hK KK
  refine wpAnyL_done (by kernel_rfl) ?_
  rw [← hV1]
  clear p7 p8 q1 q1f hw1
  obtain ⟨G1, hG1⟩ : ∃ G1 : Gh, G1 = { G with nw := fun k' j => if k' = k then (if j = n0 then x0 - o0 else G.nw k' j) else G.nw k' j } := ⟨_, rfl⟩
  have hbV : ∀ b, b ≠ q → V1.heap[b]? = W.heap[b]? := fun b hb => by rw [hV1, Below.heap_setCell _ _ _ _ hb, unhide HVV]; rfl
  have hq1 : V1.heap[q]? = some (.cells (G1.acV k) 91 (0, 0)) := by
    have h1 : V.heap[q]? = some (.cells (G.acV k) 91 (0, 0)) := by rw [unhide HVV, unhide HK]; exact unhide HAC
    rw [hV1, Go.heap_setCell_same _ _ _ _ _ _ h1, acV_set G k n0 (by omega) (x0 - o0) G1 (by rw [hG1]) (fun j _ => by rw [hG1]; simp)]
  have hd1 : V1.heap[d]? = some (.cells G.agV 83 (0, 0)) := (hbV d (fun e => hqd e.symm)).trans (unhide HOB)
  have hp1 : V1.heap[p]? = some (.cells (G.clV p) 99 (0, 0)) := (hbV p hpq).trans (unhide HCB)
  have hok := unhide HOK
  have g5 : V1.cell? ⟨d, 5, none⟩ = some (.int .i64 G.gone) := by simp [World.cell?, hd1, Gh.agV]
  have dA := hide (asOf_any g5 hok.gone)
  obtain ⟨pp, cp, hpv, hpn, hps⟩ := row_slice ((unhide HH).pr p hp)
  have hq0 : q ≠ 0 := fun e => hz (by rw [← e]; exact own_qa (unhide HQ))
  have dS := hide (share_any (W := V1) (p := p) (c := G.cl p) (P := G.pt p) (lf := G.lf p) (a0 := (G.sh p).1) (o0 := (G.sh p).2) (pp := pp) (np := (G.pt p).length) (cp := cp) (by rw [hp1]; unfold Gh.clV; rw [hpv]) rfl hok.len (own_lies kQ_ok rfl (by rw [← hpv]; exact row_keep ((unhide HH).pr p hp) (fun g hg => hbV g (fun e => by
    have h1 := row_ty ((unhide HH).pr p hp) hg
    rw [e, (unhide HH).tyQ (unhide HQ)] at h1
    cases h1)))) ((unhide HST).keep (hbV 0 (fun e => hq0 e.symm))) hok.pos hok.sum hok.amt hok.due (t := 1 + G.gone) (by have := hok.gone; omega))
  rw [← unhide HS] at dS
  unfold ptr at dS
  have HD1 := hide hd1; have HP1 := hide hp1; have HQ1 := hide hq1; have HBV := hide hbV; have HV1 := hide hV1; have HG1 := hide hG1
  clear hd1 hp1 hq1 hbV hV1 g5 hok hpv hpn hps hG1 HAC HCB HOB
  go_wp2_with fail
  refine (unhide dA).mono ?_
  rintro e w1 ⟨rfl, hw⟩
  rw [hw]
  clear hw w1 dA
  go_wp2_with fail
  refine (unhide dS).mono ?_
  rintro e w2 ⟨rfl, hb2⟩
  clear dS
  have hpl : p < V1.heap.size := heap_lt (unhide HP1)
  have hql : q < V1.heap.size := heap_lt (unhide HQ1)
  have hp2 : w2.heap[p]? = some (.cells (G.clV p) 99 (0, 0)) := (hb2.block p hpl).trans (unhide HP1)
  have hq2 : w2.heap[q]? = some (.cells (G1.acV k) 91 (0, 0)) := (hb2.block q hql).trans (unhide HQ1)
  have hth : w2.there p 7 2 := fun j hj => by
    have : j = 0 ∨ j = 1 := by omega
    rcases this with rfl | rfl <;> simp [World.cell?, World.frozen?, hp2, Gh.clV]
  have sS := run_st94 hth s.1 s.2
  obtain ⟨W3, hW3⟩ : ∃ W3, W3 = w2.setCells p 7 [.int .i64 s.1, .int .i64 s.2] := ⟨_, rfl⟩
  rw [← hW3] at sS
  have hG1' := unhide HG1
  have hp3 : W3.heap[p]? = some (.cells ((G.shown p s).clV p) 99 (0, 0)) := by
    rw [hW3]
    show ((w2.setCell ⟨p, 7, none⟩ _).setCell ⟨p, 7 + 1, none⟩ _).heap[p]? = _
    rw [Go.heap_setCell_same _ _ _ _ _ _ (Go.heap_setCell_same _ _ _ _ _ _ hp2)]
    unfold Gh.clV Gh.shown
    simp
  have hq3 : W3.heap[q]? = some (.cells (G1.acV k) 91 (0, 0)) := by
    rw [hW3]
    show ((w2.setCell ⟨p, 7, none⟩ _).setCell ⟨p, 7 + 1, none⟩ _).heap[q]? = _
    rw [Below.heap_setCell _ _ _ _ (fun e => hpq e.symm), Below.heap_setCell _ _ _ _ (fun e => hpq e.symm)]
    exact hq2
  have ho3 : ∀ b, b < V1.heap.size → b ≠ p → W3.heap[b]? = V1.heap[b]? := fun b hb hbp => by
    rw [hW3]
    show ((w2.setCell ⟨p, 7, none⟩ _).setCell ⟨p, 7 + 1, none⟩ _).heap[b]? = _
    rw [Below.heap_setCell _ _ _ _ hbp, Below.heap_setCell _ _ _ _ hbp]
    exact hb2.block b hb
  obtain ⟨x1, hx1⟩ : ∃ x1, x1 = G1.nw k n1 := ⟨_, rfl⟩
  obtain ⟨s1, hs1⟩ : ∃ s1, s1 = s.1 := ⟨_, rfl⟩
  obtain ⟨s2, hs2⟩ : ∃ s2, s2 = s.2 := ⟨_, rfl⟩
  have hsb := unhide HSB
  have hn1 := unhide HN1
  have hs1t : s1.toNat = n1 := by rw [hs1]; exact hn1.symm
  have hs10 : 0 ≤ s1 := by rw [hs1]; exact hsb.2.2.1
  have hs15 : s1 < 5 := by rw [hs1]; omega
  have p7 : W3.drew.cell? ⟨p, 7, none⟩ = some (.int .i64 s1) := by
    show W3.cell? _ = _
    simp [World.cell?, hp3, Gh.clV, Gh.shown, hs1]
  have p8 : W3.drew.cell? ⟨p, 8, none⟩ = some (.int .i64 s2) := by
    show W3.cell? _ = _
    simp [World.cell?, hp3, Gh.clV, Gh.shown, hs2]
  have q1 : W3.drew.cell? ⟨q, 1 + n1, none⟩ = some (.int .i64 x1) := by
    show W3.cell? _ = _
    rw [cell_at hq3, hx1]
    exact acV_at G1 k n1 (by omega)
  have q1f : W3.drew.frozen? ⟨q, 1 + n1, none⟩ = false := by
    show W3.frozen? _ = _
    exact froz_at hq3
  have hnw : ∀ j, j ≤ 4 → (G.shown p s).nw k j = if j = n1 then x1 + s2 else G1.nw k j := fun j hj => by
    unfold Gh.shown
    rw [hx1, hG1']
    simp only [← unhide HK, if_true]
    rw [← unhide HA0, ← unhide HO0, ← hs1, ← hs2, unhide HX0]
    have e0 : ((j : Int) = a0) ↔ j = n0 := by omega
    have e1 : ((j : Int) = s1) ↔ j = n1 := by omega
    by_cases h0 : j = n0
    · by_cases h1 : j = n1
      · have h01 : n1 = n0 := by omega
        rw [if_pos (e0.2 h0), if_pos (e1.2 h1), if_pos h1, if_pos h01, h0]
      · rw [if_pos (e0.2 h0), if_neg (fun e => h1 (e1.1 e)), if_neg h1, if_pos h0, h0]
        omega
    · by_cases h1 : j = n1
      · have h01 : ¬ n1 = n0 := by omega
        rw [if_neg (fun e => h0 (e0.1 e)), if_pos (e1.2 h1), if_pos h1, if_neg h01, h1]
        omega
      · rw [if_neg (fun e => h0 (e0.1 e)), if_neg (fun e => h1 (e1.1 e)), if_neg h1, if_neg h0]
        omega
  have hmore := (unhide HOK).more n1 (by omega)
  rw [← unhide HS, ← unhide HK, hnw n1 (by omega), if_pos rfl] at hmore
  have hw2 : IntKind.i64.wrap (x1 + s2) = x1 + s2 := by rw [IntKind.wrap_i64]; omega
  obtain ⟨W4, hW4⟩ : ∃ W4, W4 = W3.drew.setCell ⟨q, 1 + n1, none⟩ (.int .i64 (x1 + s2)) := ⟨_, rfl⟩
  have HEND : Hid (Next W W4 d G (G.shown p s)) := by
    have hVW : V1.heap.size = W.heap.size := by rw [unhide HV1, unhide HVV]; simp
    have hb4 : ∀ b, b ≠ q → W4.heap[b]? = W3.heap[b]? := fun b hb => by rw [hW4, Below.heap_setCell _ _ _ _ hb]; rfl
    have hfr : Fr W W4 (fun b => b = d ∨ b ∈ G.bs ∨ ∃ k, G.qa k = some b) := by
      have f1 : Fr W V1 (fun b => b = d ∨ b ∈ G.bs ∨ ∃ k, G.qa k = some b) := by
        rw [unhide HV1, unhide HVV]
        exact (Fr.refl W _).drew.drew.setCell (.inl (.inr (.inr ⟨_, unhide HQ⟩))) _
      have f2 : Fr V1 w2 (fun b => b = d ∨ b ∈ G.bs ∨ ∃ k, G.qa k = some b) := Fr.of_below hb2 _
      have f3 := f1.trans f2 (fun _ _ h => h)
      have f4 : Fr W W3 (fun b => b = d ∨ b ∈ G.bs ∨ ∃ k, G.qa k = some b) := by
        rw [hW3]
        exact (f3.setCell (p := ⟨p, 7, none⟩) (.inl (.inr (.inl hp))) _).setCell (p := ⟨p, 7 + 1, none⟩) (.inl (.inr (.inl hp))) _
      rw [hW4]
      exact f4.drew.setCell (.inl (.inr (.inr ⟨_, unhide HQ⟩))) _
    refine (unhide HH).scalar rfl rfl rfl rfl rfl rfl rfl rfl rfl rfl rfl rfl rfl rfl rfl rfl rfl hfr ?_ (fun p' hp' => ?_) (fun k' q' hq' => ?_)
    · rw [hb4 d (fun e => hqd e.symm), ho3 d (heap_lt (unhide HD1)) (fun e => hpd e.symm)]
      exact unhide HD1
    · have hp'q : p' ≠ q := fun e => by have h1 := (unhide HH).tyB hp'; rw [e, (unhide HH).tyQ (unhide HQ)] at h1; cases h1
      by_cases e : p' = p
      · rw [hb4 p' hp'q, e]; exact hp3
      · rw [hb4 p' hp'q, ho3 p' (by rw [hVW]; exact heap_lt ((unhide HH).cb p' hp')) e, unhide HBV p' hp'q, (unhide HH).cb p' hp']
        unfold Gh.clV Gh.shown
        simp [e]
    · by_cases e : k' = k
      · subst e
        have e2 : q' = q := by
          rw [unhide HK, unhide HQ] at hq'
          exact (Option.some.inj hq').symm
        rw [e2, hW4, Go.heap_setCell_same _ _ _ _ _ _ (show W3.drew.heap[q]? = _ from hq3), acV_set G1 k' n1 (by omega) (x1 + s2) (G.shown p s) (by rw [hG1']; rfl) hnw]
      · have hq'q : q' ≠ q := fun e2 => e ((unhide HH).qi k' k q' hq' (by rw [e2, unhide HK]; exact unhide HQ))
        have hq'p : q' ≠ p := fun e2 => by have h1 := (unhide HH).tyQ hq'; rw [e2, (unhide HH).tyB hp] at h1; cases h1
        rw [hb4 q' hq'q, ho3 q' (by rw [hVW]; exact heap_lt ((unhide HH).ac k' q' hq')) hq'p, unhide HBV q' hq'q, (unhide HH).ac k' q' hq']
        unfold Gh.acV Gh.shown
        have e3 : ¬ k' = G.key p := by rw [← unhide HK]; exact e
        simp [e3]
  have HB2 := hide hb2; have HX1 := hide hx1
  rw [← hs1, ← hs2] at sS ⊢
  clear hp2 hq2 hth hp3 hq3 ho3 hx1 hs1 hs2 hsb hn1 hnw hmore hb2 hW3 hG1' HSB
  go_wp2_with fail
  refine wp_region_last (n := 17) (S := fun W' => W'.cell? ⟨p, 7, none⟩ = some (.int .i64 s1) ∧ W'.cell? ⟨p, 8, none⟩ = some (.int .i64 s2) ∧ W'.cell? ⟨q, 1 + n1, none⟩ = some (.int .i64 x1) ∧ W'.frozen? ⟨q, 1 + n1, none⟩ = false ∧ W' = W3.drew) (by kernel_rfl) (by exact ⟨p7, p8, q1, q1f, rfl⟩) (fun hHeld => ?_)
  refine tkW 0 ?_; refine tkW 1 ?_; refine tkW 2 ?_; refine tkW 3 ?_; refine tkW 4 ?_; refine tkS 5 ?_; refine tkW 6 ?_; refine tkW 7 ?_; refine tkS 8 ?_; refine tkW 9 ?_; refine tkW 10 ?_; refine tkW 11 ?_; refine tkW 12 ?_; refine tkS 13 ?_; refine tkW 14 ?_; refine tkW 15 ?_; refine tkW 16 ?_
  clear hHeld
  refine wpAnyL_past (i := 17) (by kernel_rfl) rfl (by kernel_rfl) (fun KK hK => ?_)
  obtain ⟨Z3, hZ3⟩ : ∃ Z3, Z3 = W3.drew := ⟨_, rfl⟩
  rw [← hZ3] at p7 p8 q1 q1f hW4 ⊢
  have HW4 := hide hW4
  clear hZ3 hW4
  go_simp
  refine hK.out _ _ ?_
  clear hK KK
  refine wpAnyL_done (by kernel_rfl) ?_
  rw [← unhide HW4]
  go_wp2_with fail
  go_end0
  exact ⟨rfl, by rw [← unhide HS]; exact unhide HEND⟩
end Go.Proofs.YtildpgfhahmgmaaDoor
