import Derived.Test.YtbenciieenbmeaaGreatDoorW33
import Derived.Test.YtbenciieenbmeaaGreatDoorW34
/- AnswerMeans (7): its walk. -/
namespace Go.Proofs.YtbenciieenbmeaaGreatDoor
open Go Go.Shelf Go.ChangeShapes Go.WideShapes Go.ChangeAt Go.RowKit Go.Maps Go.Sort
set_option linter.unusedVariables false
set_option maxRecDepth 100000
set_option maxHeartbeats 8000000
theorem ScT.at' {q : Qy} {R : List Ro} {T : List Int} {LL : List (List Cl)} (h : ScT q R T LL) : (okQ q = false ∧ scE q R = 140 ∧ T = [] ∧ LL = []) ∨ (okQ q = true ∧ scE q R = 11 ∧ T = [] ∧ LL = []) ∨ (okQ q = true ∧ scE q R = 0 ∧ T = chkL q) := by
  unfold ScT at h
  cases hok : okQ q with
  | false =>
    have e : scE q R = 140 := by unfold scE; rw [hok]; rfl
    rcases h with ⟨h1, _⟩ | ⟨_, h2, h3⟩
    · rw [e] at h1; cases h1
    · exact .inl ⟨rfl, e, h2, h3⟩
  | true =>
    cases hov : overB q (scF q) (scS q) R with
    | true =>
      have e : scE q R = 11 := by unfold scE; rw [hok, hov]; rfl
      rcases h with ⟨h1, _⟩ | ⟨_, h2, h3⟩
      · rw [e] at h1; cases h1
      · exact .inr (.inl ⟨rfl, e, h2, h3⟩)
    | false =>
      have e : scE q R = 0 := by unfold scE; rw [hok, hov]; rfl
      rcases h with ⟨_, h2, _⟩ | ⟨h1, _⟩
      · exact .inr (.inr ⟨rfl, e, h2⟩)
      · exact absurd e h1
section
attribute [local go_sem ↓] ld32_is ld34_is
theorem means_walk {W : World} {q : Qy} {a : Qa} {pR : Option Addr} {cR : Nat} {R : List Ro} (g : Glb W) (h : Arg W q a pR cR R) :
    Calls Tryz.prog 7 #[.agg #[.slice a.pN q.nodes.length a.cN, .int .i64 q.wh, .slice a.pB q.by'.length a.cB, .slice a.pS q.sh.length a.cS, .slice a.pO q.ords.length a.cO, .int .i64 q.lim, .slice pR R.length cR]] W fun e w' => e = .returned (.bool true) ∧ Below W.heap.size W w' := by
  obtain ⟨qa, hqa⟩ : ∃ v, v = qV q a := ⟨_, rfl⟩
  obtain ⟨nR, hnR⟩ : ∃ k, k = R.length := ⟨_, rfl⟩
  obtain ⟨E, hE⟩ : ∃ E, E = scE q R := ⟨_, rfl⟩
  obtain ⟨K, hK⟩ : ∃ E, E = chkE q := ⟨_, rfl⟩
  obtain ⟨A, hA⟩ : ∃ A, A = W.alloc (.cells (qC q a ++ [Value.slice pR nR cR]).toArray 58) := ⟨_, rfl⟩
  have hBA : Below W.heap.size W A := by rw [hA]; exact Below.a1 W _
  have hAs : W.heap.size < A.heap.size := by rw [hA]; simp
  have bA : Bk A W.heap.size 58 (qC q a ++ [Value.slice pR nR cR]) := by show A.heap[_]? = _; rw [hA]; exact heap_new _ _
  have hnRb : nR ≤ 1048575 := by rw [hnR]; exact h.rn
  have D9 := hide (first9 (g.fl.below hBA) (g.mon.below hBA) (g.rc.below hBA) (g.mx.below hBA (by have := g.six; omega)) (by have := g.six; omega))
  have LD : Hid (∀ w1, Below A.heap.size A w1 → (ld32 (.pointer (some ⟨W.heap.size, 0, none⟩))).run Tryz.prog w1 = .ok qa w1 ∧ w1.cell? ⟨W.heap.size, 6, none⟩ = some (.slice pR nR cR)) := fun w1 hb => by
    have b1 := bA.same (hb.block _ hAs)
    refine ⟨?_, b1.cell 6⟩
    rw [hqa]
    refine run_ld32 (fun j u hu => ?_)
    rw [b1.cell, Nat.zero_add]
    have hj : j < 6 := (List.getElem?_eq_some_iff.1 hu).1
    rw [List.getElem?_append_left hj]
    exact hu
  have RC : Hid (∀ w1, Below A.heap.size A w1 → Calls Tryz.prog 18 #[qa] w1 fun e w2 => ∃ p n c, e = .returned (.tuple #[.slice p n c, .int .i64 K]) ∧ Hid (Rw kI w1 w2 (.slice p n c) n (chkL q))) := fun w1 hb => by
    have hb1 : Below W.heap.size W w1 := hBA.trans (hb.mono hBA.size)
    rw [hqa, hK]
    exact rcheck_any (h.qi.below hb1)
  have SC : Hid (∀ w1, Below A.heap.size A w1 → Calls Tryz.prog 10 #[qa, .slice pR nR cR] w1 fun e w2 => ∃ px nx cx py ny cy T LL, e = .returned (.tuple #[.agg #[.slice px nx cx, .slice py ny cy], .int .i64 E]) ∧ Below w1.heap.size w1 w2 ∧ Hid (TblOut w1.heap.size w2 (.agg #[.slice px nx cx, .slice py ny cy]) T LL ∧ ScT q R T LL)) := fun w1 hb => by
    have hb1 : Below W.heap.size W w1 := hBA.trans (hb.mono hBA.size)
    have D := lscan_any (cR := cR) (h.sc g hb1 (h.rl.below hb1) (by have := h.rn; omega) h.ro) h.qc h.rc
    rw [← hqa, ← hnR] at D
    refine D.mono fun e w2 ho => ?_
    obtain ⟨px, nx, cx, py, ny, cy, T, LL, e1, e2, e3⟩ := ho.tab
    exact ⟨px, nx, cx, py, ny, cy, T, LL, by rw [hE]; exact e1, e2, e3⟩
  have HA : Hid (A = W.alloc (.cells #[.slice a.pN q.nodes.length a.cN, .int .i64 q.wh, .slice a.pB q.by'.length a.cB, .slice a.pS q.sh.length a.cS, .slice a.pO q.ords.length a.cO, .int .i64 q.lim, .slice pR nR cR] 58)) := hA
  have HBA := hide hBA
  have HNR := hide hnR
  have HE := hide hE
  have HK := hide hK
  have HB2 : Hid (q.by'.length ≤ 1048575 ∧ q.sh.length ≤ 1048575) := ⟨h.nb, h.ns⟩
  rw [← hnR]
  clear g h hqa hnR hE hK hA hBA hAs bA
  go_enter Tryz.func7, Tryz.ntmps7
  go_upto_region 1 with fail
  rw [← unhide HA]
  clear HA
  go_wp2_with fail
  refine (unhide D9).mono ?_
  rintro e w1 ⟨rfl, hb1⟩
  obtain ⟨l1, l2⟩ := unhide LD w1 hb1
  have D := hide (unhide RC w1 hb1)
  have HB1 := hide hb1
  clear hb1 D9
  go_wp2_with fail
  refine (unhide D).mono ?_
  rintro e w2 ⟨pk, nk, ck, rfl, hk⟩
  have hbA2 : Below A.heap.size A w2 := (unhide HB1).trans ((unhide hk).bel.mono (unhide HB1).size)
  obtain ⟨m1, m2⟩ := unhide LD w2 hbA2
  have DS := hide (unhide SC w2 hbA2)
  have HB2' := hide hbA2
  clear hbA2 D l1 l2
  go_wp2_with fail
  refine (unhide DS).mono ?_
  rintro e w3 ⟨px, nx, cx, py, ny, cy, T, LL, rfl, hb3, ht⟩
  obtain ⟨B, hB⟩ : ∃ B, B = w3.alloc (.cells #[.slice px nx cx, .slice py ny cy] 34) := ⟨_, rfl⟩
  have hBB : Below w3.heap.size w3 B := by rw [hB]; exact Below.a1 w3 _
  have bB : Bk B w3.heap.size 34 [.slice px nx cx, .slice py ny cy] := by show B.heap[_]? = _; rw [hB]; exact heap_new _ _
  have hBs : w3.heap.size < B.heap.size := by rw [hB]; simp
  have hb2B : Below w2.heap.size w2 B := hb3.trans (hBB.mono hb3.size)
  have hRk : Rw kI w1 B (.slice pk nk ck) nk (chkL q) := (unhide hk).below hb2B
  have hbWB : Below W.heap.size W B := by
    have b1 : Below W.heap.size W w2 := (unhide HBA).trans ((unhide HB2').mono (unhide HBA).size)
    exact b1.trans (hb2B.mono b1.size)
  have hT := (unhide ht).1.below hBB
  have hS := (unhide ht).2
  have hty := hS.ty
  have hlen := hS.len
  obtain ⟨hq1, hq2⟩ := unhide HB2
  have hRl := unhide HNR
  have lB : (ld34 (.pointer (some ⟨w3.heap.size, 0, none⟩))).run Tryz.prog B = .ok (.agg #[.slice px nx cx, .slice py ny cy]) B := bB.ld34
  have HBE := hide hB
  have HBW := hide hbWB
  have HCC : Hid (∀ wr, Below B.heap.size B wr → wr.cell? ⟨w3.heap.size, 0, none⟩ = some (.slice px nx cx) ∧ (ld34 (.pointer (some ⟨w3.heap.size, 0, none⟩))).run Tryz.prog wr = .ok (.agg #[.slice px nx cx, .slice py ny cy]) wr) := fun wr hb => by
    have b := bB.same (hb.block _ hBs)
    exact ⟨b.cell 0, b.ld34⟩
  rcases hS.at' with ⟨hok, e140, rfl, rfl⟩ | ⟨hok, e11, rfl, rfl⟩ | ⟨hok, e0, rfl⟩
  · have eE : E = 140 := (unhide HE).trans e140
    have eK : K = 140 := (unhide HK).trans (chk_bad hok).1
    have D11 := hide (same_yes hT (tbl_none 0 B) (by decide) (by decide) (fun L hL => by cases hL))
    subst eE
    subst eK
    clear hB hBB bB hBs hb2B hRk hbWB hT hS hty hlen hk ht hb3 hok e140 DS HCC
    go_upto_region 7 with fail
    rw [← unhide HBE]
    go_wp2_with fail
    refine (unhide D11).mono ?_
    rintro e w4 ⟨rfl, hb4⟩
    have HO : Hid (Below W.heap.size W w4) := (unhide HBW).trans (hb4.mono (unhide HBW).size)
    clear hb4
    go_wp2_with fail
    go_ret
    exact ⟨rfl, unhide HO⟩
  · have eE : E = 11 := (unhide HE).trans e11
    have eK : K = 0 := (unhide HK).trans (chk_ok hok).1
    have D11 := hide (same_yes hT (tbl_none 0 B) (by decide) (by decide) (fun L hL => by cases hL))
    subst eE
    subst eK
    clear hB hBB bB hBs hb2B hRk hbWB hT hS hty hlen hk ht hb3 hok e11 DS HCC
    go_upto_region 9 with fail
    rw [← unhide HBE]
    go_wp2_with fail
    refine (unhide D11).mono ?_
    rintro e w4 ⟨rfl, hb4⟩
    have HO : Hid (Below W.heap.size W w4) := (unhide HBW).trans (hb4.mono (unhide HBW).size)
    clear hb4
    go_wp2_with fail
    go_ret
    exact ⟨rfl, unhide HO⟩
  · have eE : E = 0 := (unhide HE).trans e0
    have eK : K = 0 := (unhide HK).trans (chk_ok hok).1
    obtain ⟨nT, hnT⟩ : ∃ n, n = (chkL q).length := ⟨_, rfl⟩
    have hnk : nk = nT := by rw [hnT]; exact hRk.len.symm
    have hT2 := hT
    obtain ⟨pT, cT, pR', cR', ts, ev, ⟨g2, _⟩, _, _, _⟩ := hT2
    have ev' : px = pT ∧ nx = nT ∧ cx = cT := by rw [hnT]; simp at ev; exact ev.1
    have hLk := hRk.lies kI_ok
    have hnTb : nT ≤ 4194304 := by omega
    have TT : Hid (∀ k, k < nT → ∃ b o b2 o2 t, pk = some ⟨b, o, none⟩ ∧ pT = some ⟨b2, o2, none⟩ ∧ ∀ wr, Below B.heap.size B wr → wr.cell? ⟨b, o + k, none⟩ = some (.int .i64 t) ∧ wr.cell? ⟨b2, o2 + k, none⟩ = some (.int .i64 t)) := fun k hk => by
      obtain ⟨b, o, e1, l1, r1⟩ := hLk.2 k (by omega)
      obtain ⟨b2, o2, e2, l2, r2⟩ := g2.2 k (by omega)
      refine ⟨b, o, b2, o2, (chkL q)[k]'(by omega), e1, e2, fun wr hb => ?_⟩
      have x1 := r1 0 _ rfl
      have x2 := r2 0 _ rfl
      have y1 : (⟨b, o + k * kI.s + 0, none⟩ : Addr) = ⟨b, o + k, none⟩ := by simp [kI]
      have y2 : (⟨b2, o2 + k * kI.s + 0, none⟩ : Addr) = ⟨b2, o2 + k, none⟩ := by simp [kI]
      rw [y1] at x1
      rw [y2] at x2
      exact ⟨(hb.cell (p := ⟨b, o + k, none⟩) l1).trans x1, (hb.cell (p := ⟨b2, o2 + k, none⟩) l2).trans x2⟩
    have D12 : Hid (∀ w7, Below B.heap.size B w7 → Calls Tryz.prog 12 #[.agg #[.slice px nx cx, .slice py ny cy]] w7 fun e w' => e = .returned (.bool true) ∧ Below w7.heap.size w7 w') := fun w7 hb => shaped_yes (hT.below hb) hty (by omega) (by omega)
    have c0 := (unhide HCC B (Below.refl _ _)).1
    subst eE
    subst eK
    subst hnk
    obtain ⟨ev1, ev2, ev3⟩ := ev'
    have ev2 := ev2.symm
    subst ev1
    subst ev2
    subst ev3
    clear hB hBB bB hBs hb2B hRk hbWB hT hS hty hlen hk ht hb3 hok e0 DS hnT g2 hLk ev hq1 hq2 hRl HNR HB2
    go_upto_region 10 with fail
    rw [← unhide HBE]
    clear HBE
    go_wp2_with fail
    go_loopw [8] (fun v8 wr => ∃ (i : Nat), v8 = .int .i64 i ∧ i ≤ nk ∧ Hid (Below B.heap.size B wr)) (fun v8 _ => nk - (intOf v8).toNat)
    case atStart => exact ⟨0, rfl, by omega, Below.refl _ _⟩
    case round =>
      obtain ⟨i, rfl, hi, hb⟩ := hrel
      obtain ⟨c0, c1⟩ := unhide HCC wr (unhide hb)
      by_cases hlt : i < nk
      · obtain ⟨b, o, b2, o2, t, e1, e2, hc⟩ := unhide TT i hlt
        subst e1
        subst e2
        obtain ⟨h1, h2⟩ := hc wr (unhide hb)
        have hin : (i : Int) < (nk : Int) := by omega
        have hi0 : ¬ (i : Int) < 0 := by omega
        clear hc TT c1
        go_upto_region 15 with fail
        go_quiet (fail)
        go_wp2_with fail
        refine ⟨⟨i + 1, by simp, by omega, below_drewN (unhide hb) nq⟩, by simp [intOf]; omega⟩
      · have D := hide (unhide D12 wr (unhide hb))
        have HBr : Hid (Below W.heap.size W wr) := (unhide HBW).trans ((unhide hb).mono (unhide HBW).size)
        clear TT D12
        go_wp2_with fail
        refine (unhide D).mono ?_
        rintro e w8 ⟨rfl, hb8⟩
        have HO : Hid (Below W.heap.size W w8) := (unhide HBr).trans (hb8.mono (unhide HBr).size)
        clear hb8
        go_wp2_with fail
        go_ret
        exact ⟨rfl, unhide HO⟩
end
end Go.Proofs.YtbenciieenbmeaaGreatDoor
