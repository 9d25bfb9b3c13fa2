import Derived.Test.YtbenciieenbmeaaGreatDoorU32
/- AnswerOrder (3): its walk. -/
namespace Go.Proofs.YtbenciieenbmeaaGreatDoor
open Go Go.Shelf Go.ChangeShapes Go.WideShapes Go.ChangeAt Go.RowKit Go.Maps Go.Sort
set_option linter.unusedVariables false
set_option maxRecDepth 100000
set_option maxHeartbeats 8000000
/-- the tables that were laid -/
structure Glb (W : World) : Prop where
  fl : Flds W
  mon : Mon W
  rc : Recs W
  mx : Mx W
  six : 6 ≤ W.heap.size
theorem Glb.below {W W1 : World} (g : Glb W) (hb : Below W.heap.size W W1) : Glb W1 :=
  ⟨g.fl.below hb, g.mon.below hb, g.rc.below hb, g.mx.below hb (by have := g.six; omega), Nat.le_trans g.six hb.size⟩
theorem Arg.sc {W W1 : World} {q : Qy} {a : Qa} {pR : Option Addr} {cR : Nat} {R : List Ro} (h : Arg W q a pR cR R) (g : Glb W) (hb : Below W.heap.size W W1) {p : Option Addr} {M : List Ro} (hM : Lies kR W1 p M) (hl : M.length ≤ 2097152) (ho : ∀ r ∈ M, RoOk r) : ScIq W1 q a p M :=
  ⟨g.fl.below hb, g.mon.below hb, g.rc.below hb, g.mx.below hb (by have := g.six; omega), Nat.le_trans g.six hb.size, h.qi.below hb, by have := h.nn; omega, by have := h.nb; omega, by have := h.ns; omega, by have := h.no; omega, h.nd, h.sI, h.lI, hM, hl, ho⟩
/-- a table that was answered -/
def TabOut (W : World) (q : Qy) (R : List Ro) (e : Ending) (w' : World) : Prop :=
  ∃ px nx cx py ny cy T LL, e = .returned (.tuple #[.agg #[.slice px nx cx, .slice py ny cy], .int .i64 (scE q R)]) ∧ Below W.heap.size W w' ∧ TblOut W.heap.size w' (.agg #[.slice px nx cx, .slice py ny cy]) T LL ∧ ScT q R T LL
theorem ScanOut.tab {W : World} {q : Qy} {R : List Ro} {e : Ending} {w' : World} (h : ScanOut W q R e w') : TabOut W q R e w' := by
  obtain ⟨v, T, LL, e1, e2, e3⟩ := h.tbl
  obtain ⟨pT, cT, pR, cR, ts, ev, hr⟩ := e2
  exact ⟨pT, _, cT, pR, _, cR, T, LL, by rw [e1, ev], h.1, ⟨pT, cT, pR, cR, ts, rfl, hr⟩, e3⟩
theorem TblOut.below {B : Nat} {w w' : World} {v : Value} {T : List Int} {LL : List (List Cl)} (h : TblOut B w v T LL) (hb : Below w.heap.size w w') : TblOut B w' v T LL := by
  obtain ⟨pT, cT, pR, cR, ts, h1, ⟨h2, h3⟩, ⟨h4, h5⟩, h6, h7⟩ := h
  refine ⟨pT, cT, pR, cR, ts, h1, ⟨h2.below hb, h3⟩, ⟨h4.below hb, h5⟩, h6, fun i hi => ?_⟩
  obtain ⟨p, c, e1, e2, e3⟩ := h7 i hi
  exact ⟨p, c, e1, e2.below hb, e3⟩
/-- a slice's length -/
def slLen : Value → Nat
  | .slice _ n _ => n
  | _ => 0
def ld39 (x : Value) : Sem Value := Instr.loadAt 39 x
theorem ld39_is (x : Value) : Instr.loadAt 39 x = ld39 x := rfl
theorem sz39 : (Tryz.prog.info? 39).map (·.size) = some 9 := by kernel_rfl
theorem run_ld39 {w : World} {b o : Nat} {r : Ro} (h : w.rangeAt b o r.vals) : (ld39 (.pointer (some ⟨b, o, none⟩))).run Tryz.prog w = .ok (.agg r.arr) w :=
  run_loadAt_mid (P := Tryz.prog) w b o 39 r.vals _ h Tryz.underlying39 rfl sz39
section
attribute [local go_sem ↓] ld32_is ld34_is ld39_is
theorem order_walk {W : World} {q : Qy} {a : Qa} {pR : Option Addr} {cR : Nat} {R : List Ro} {pP : Option Addr} {cP : Nat} {P : List Int} (n : Int) (g : Glb W) (h : Arg W q a pR cR R) (hP : Lies kI W pP P) (hPl : P.length ≤ 1048575) (hPi : ∀ x ∈ P, inI x) :
    Calls Tryz.prog 3 #[.agg #[.slice a.pN q.nodes.length a.cN, .int .i64 q.wh, .slice a.pB q.by'.length a.cB, .slice a.pS q.sh.length a.cS, .slice a.pO q.ords.length a.cO, .int .i64 q.lim, .slice pR R.length cR, .slice pP P.length cP, .int .i64 n]] W fun e w' => e = .returned (.bool true) ∧ Below W.heap.size W w' := by
  obtain ⟨qa, hqa⟩ : ∃ v, v = qV q a := ⟨_, rfl⟩
  obtain ⟨nR, hnR⟩ : ∃ k, k = R.length := ⟨_, rfl⟩
  obtain ⟨nP, hnP⟩ : ∃ k, k = P.length := ⟨_, rfl⟩
  obtain ⟨E, hE⟩ : ∃ E, E = scE q R := ⟨_, rfl⟩
  obtain ⟨A, hA⟩ : ∃ A, A = W.alloc (.cells (qC q a ++ [Value.slice pR nR cR, .slice pP nP cP, .int .i64 n]).toArray 30) := ⟨_, rfl⟩
  have hBA : Below W.heap.size W A := by rw [hA]; exact Below.a1 W _
  have hAs : W.heap.size < A.heap.size := by rw [hA]; simp
  have bA : Bk A W.heap.size 30 (qC q a ++ [Value.slice pR nR cR, .slice pP nP cP, .int .i64 n]) := by show A.heap[_]? = _; rw [hA]; exact heap_new _ _
  have hnRb : nR ≤ 1048575 := by rw [hnR]; exact h.rn
  have hnPb : nP ≤ 1048575 := by rw [hnP]; exact hPl
  have D9 := hide (first9 (g.fl.below hBA) (g.mon.below hBA) (g.rc.below hBA) (g.mx.below hBA (by have := g.six; omega)) (by have := g.six; omega))
  have LD : Hid (∀ w1, Below A.heap.size A w1 → (ld32 (.pointer (some ⟨W.heap.size, 0, none⟩))).run Tryz.prog w1 = .ok qa w1 ∧ w1.cell? ⟨W.heap.size, 6, none⟩ = some (.slice pR nR cR) ∧ w1.cell? ⟨W.heap.size, 7, none⟩ = some (.slice pP nP cP)) := fun w1 hb => by
    have b1 := bA.same (hb.block _ hAs)
    refine ⟨?_, b1.cell 6, b1.cell 7⟩
    rw [hqa]
    refine run_ld32 (fun j u hu => ?_)
    rw [b1.cell, Nat.zero_add]
    have hj : j < 6 := (List.getElem?_eq_some_iff.1 hu).1
    rw [List.getElem?_append_left hj]
    exact hu
  have SC : Hid (∀ w1, Below A.heap.size A w1 → Calls Tryz.prog 10 #[qa, .slice pR nR cR] w1 fun e w2 => ∃ px nx cx py ny cy T LL, e = .returned (.tuple #[.agg #[.slice px nx cx, .slice py ny cy], .int .i64 E]) ∧ Below w1.heap.size w1 w2 ∧ Hid (TblOut w1.heap.size w2 (.agg #[.slice px nx cx, .slice py ny cy]) T LL ∧ ScT q R T LL)) := fun w1 hb => by
    have hb1 : Below W.heap.size W w1 := hBA.trans (hb.mono hBA.size)
    have D := lscan_any (cR := cR) (h.sc g hb1 (h.rl.below hb1) (by have := h.rn; omega) h.ro) h.qc h.rc
    rw [← hqa, ← hnR] at D
    refine D.mono fun e w2 ho => ?_
    obtain ⟨px, nx, cx, py, ny, cy, T, LL, e1, e2, e3⟩ := ho.tab
    exact ⟨px, nx, cx, py, ny, cy, T, LL, by rw [hE]; exact e1, e2, e3⟩
  have SM : Hid (∀ w1 p c k M, Below A.heap.size A w1 → Lies kR w1 p M → M.Perm R → M.length = k → (p = none → c = 0) → Calls Tryz.prog 10 #[qa, .slice p k c] w1 fun e w2 => ∃ px nx cx py ny cy T LL, e = .returned (.tuple #[.agg #[.slice px nx cx, .slice py ny cy], .int .i64 E]) ∧ Below w1.heap.size w1 w2 ∧ Hid (TblOut w1.heap.size w2 (.agg #[.slice px nx cx, .slice py ny cy]) T LL ∧ ScT q M T LL)) := fun w1 p c k M hb hl hp hk hc => by
    have hb1 : Below W.heap.size W w1 := hBA.trans (hb.mono hBA.size)
    have D := lscan_any (cR := c) (h.sc g hb1 hl (by have := h.rn; have := hp.length_eq; omega) (fun r hr => h.ro r (hp.mem_iff.1 hr))) h.qc hc
    rw [← hqa, hk] at D
    refine D.mono fun e w2 ho => ?_
    obtain ⟨px, nx, cx, py, ny, cy, T, LL, e1, e2, e3⟩ := ho.tab
    exact ⟨px, nx, cx, py, ny, cy, T, LL, by rw [hE, ← scE_perm hp]; exact e1, e2, e3⟩
  have CP : Hid (∀ w1, Below A.heap.size A w1 → ∃ p c w2, (Builtin.append_ #[28, 28] 28 #[.slice none 0 0, .slice pR nR cR]).run Tryz.prog w1 = .ok (.slice p nR c) w2 ∧ Rw kR w1 w2 (.slice p nR c) nR R) := fun w1 hb => by
    have hb1 : Below W.heap.size W w1 := hBA.trans (hb.mono hBA.size)
    rw [hnR]
    exact Rw.copy kR_ok w1 R pR cR h.rc (h.rl.below hb1) 28 (by have := h.rn; omega) (nat_bound (c := 2097152) (by have := h.rn; omega) (by decide))
  have PM : Hid (∀ w1, Below A.heap.size A w1 → ∀ i : Nat, i < nP → ∃ b off z, pP = some ⟨b, off, none⟩ ∧ w1.cell? ⟨b, off + i, none⟩ = some (.int .i64 z) ∧ inI z) := fun w1 hb i hi => by
    have hb1 : Below W.heap.size W w1 := hBA.trans (hb.mono hBA.size)
    have hi' : i < P.length := by omega
    obtain ⟨b, off, e1, hlt, hr⟩ := (hP.below hb1).2 i hi'
    refine ⟨b, off, P[i], e1, ?_, hPi _ (List.getElem_mem hi')⟩
    have := hr 0 _ rfl
    simpa [kI] using this
  have HA : Hid (A = W.alloc (.cells #[.slice a.pN q.nodes.length a.cN, .int .i64 q.wh, .slice a.pB q.by'.length a.cB, .slice a.pS q.sh.length a.cS, .slice a.pO q.ords.length a.cO, .int .i64 q.lim, .slice pR nR cR, .slice pP nP cP, .int .i64 n] 30)) := hA
  have HBA := hide hBA
  have HNR := hide hnR
  have HB2 : Hid (q.by'.length ≤ 1048575 ∧ q.sh.length ≤ 1048575) := ⟨h.nb, h.ns⟩
  rw [← hnR, ← hnP]
  clear g h hP hPl hPi hqa hnR hnP hE hA hBA hAs bA
  go_enter Tryz.func3, Tryz.ntmps3
  go_upto_region 1 with fail
  rw [← unhide HA]
  clear HA
  go_wp2_with fail
  refine (unhide D9).mono ?_
  rintro e w1 ⟨rfl, hb1⟩
  obtain ⟨l1, l2, l3⟩ := unhide LD w1 hb1
  have D := hide (unhide SC w1 hb1)
  have HB1 := hide hb1
  clear hb1 D9
  go_wp2_with fail
  refine (unhide D).mono ?_
  rintro e w2 ⟨px, nx, cx, py, ny, cy, T, LL, rfl, hb2, ht⟩
  have hbA2 : Below A.heap.size A w2 := (unhide HB1).trans (hb2.mono (unhide HB1).size)
  obtain ⟨B, hB⟩ : ∃ B, B = w2.alloc (.cells #[.slice px nx cx, .slice py ny cy] 34) := ⟨_, rfl⟩
  have hBB : Below w2.heap.size w2 B := by rw [hB]; exact Below.a1 w2 _
  have bB : Bk B w2.heap.size 34 [.slice px nx cx, .slice py ny cy] := by show B.heap[_]? = _; rw [hB]; exact heap_new _ _
  have hBs : w2.heap.size < B.heap.size := by rw [hB]; simp
  have hbAB : Below A.heap.size A B := hbA2.trans (hBB.mono hbA2.size)
  have HT : Hid (TblOut w1.heap.size B (.agg #[.slice px nx cx, .slice py ny cy]) T LL ∧ ScT q R T LL) := ⟨(unhide ht).1.below hBB, (unhide ht).2⟩
  have LB : Hid (∀ w3, Below B.heap.size B w3 → (ld34 (.pointer (some ⟨w2.heap.size, 0, none⟩))).run Tryz.prog w3 = .ok (.agg #[.slice px nx cx, .slice py ny cy]) w3) := fun w3 hb => (bB.same (hb.block _ hBs)).ld34
  obtain ⟨m1, m2, m3⟩ := unhide LD B hbAB
  obtain ⟨p5, c5, w5, r5, R5⟩ := unhide CP B hbAB
  have HB := hide hB
  have HR5 := hide r5
  have HBAB := hide hbAB
  have HD0 : Hid (Dr B w5 R (.slice p5 nR c5) (.slice none 0 0) nR 0 R []) := ⟨R5, Rw.none R5.bel, fun g _ h => (by cases h), List.Perm.refl _⟩
  clear hB hBB bB hBs hbAB hbA2 ht r5 R5 D hb2 l1 l2 l3
  go_upto_region 5 with fail
  rw [← unhide HB]
  clear HB
  go_wp2_with (at_builtin; refine wpList_append_run rfl _ _ 28 rfl _ _ _ _ rfl rfl (unhide HR5) ?_)
  clear HR5
  go_loopw [6, 7, 8] (fun v6 v7 v8 wr => ∃ (i n k : Nat) (p p' : Option Addr) (c c' : Nat), v8 = .int .i64 i ∧ v6 = .slice p n c ∧ v7 = .slice p' k c' ∧ i + n ≤ nR ∧ k + n = nR ∧ Hid (∃ (Lf Mx : List Ro), Dr B wr R (.slice p n c) (.slice p' k c') n k Lf Mx)) (fun v6 _ _ _ => slLen v6)
  case atStart => exact ⟨0, nR, 0, _, _, _, _, rfl, rfl, rfl, by omega, by omega, R, [], unhide HD0⟩
  case round =>
    obtain ⟨i, n, k, p, p', c, c', rfl, rfl, rfl, hin, hkn, hrel⟩ := hrel
    obtain ⟨Lf, Mx, hD⟩ := unhide hrel
    clear hrel
    have hbr : Below B.heap.size B wr := hD.lf.bel
    have hbAr : Below A.heap.size A wr := (unhide HBAB).trans (hbr.mono (unhide HBAB).size)
    by_cases hn : n = 0
    · subst hn
      have e0 : Lf = [] := List.length_eq_zero_iff.1 hD.lf.len
      subst e0
      have hpm : Mx.Perm R := by simpa using hD.pm
      have hMl : Mx.length = k := hD.mx.len
      obtain ⟨q1, cq, eq1, hq0, _⟩ := row_slice hD.mx.row
      injection eq1 with eq1 _ eq3
      subst eq1
      subst eq3
      have DM := hide (unhide SM wr p' c' k Mx hbAr (hD.mx.lies kR_ok) hpm hMl (fun e => (hq0 e).2))
      obtain ⟨l1, l2, l3⟩ := unhide LD wr hbAr
      have HBR := hide hbr
      have HBAR := hide hbAr
      have HPM := hide hpm
      clear hD hbr hbAr hpm hMl hq0 HD0
      go_wp2_with fail
      refine (unhide DM).mono ?_
      rintro e w6 ⟨p6, n6, c6, q6, m6, d6, T6, L6, rfl, hb6, ht6⟩
      obtain ⟨F, hF⟩ : ∃ F, F = w6.alloc (.cells #[.slice p6 n6 c6, .slice q6 m6 d6] 34) := ⟨_, rfl⟩
      have hBF : Below w6.heap.size w6 F := by rw [hF]; exact Below.a1 w6 _
      have bF : Bk F w6.heap.size 34 [.slice p6 n6 c6, .slice q6 m6 d6] := by show F.heap[_]? = _; rw [hF]; exact heap_new _ _
      have hbF : Below B.heap.size B F := ((unhide HBR).trans (hb6.mono (unhide HBR).size)).trans (hBF.mono (Nat.le_trans (unhide HBR).size hb6.size))
      obtain ⟨g1, g2⟩ := unhide HT
      obtain ⟨k1, k2⟩ := unhide ht6
      have eo := g2.one (unhide HPM).symm k2
      obtain ⟨eo1, eo2⟩ := eo
      subst eo1
      subst eo2
      have hl := g2.len
      have hRl := unhide HNR
      have hQb := unhide HB2
      have G1 := g1.below hbF
      have hTl : T.length ≤ 4194304 := by omega
      have hLl : LL.length ≤ 4194304 := by omega
      have hLt := g2.ty
      have D11 := hide (same_yes G1 (k1.below hBF) hTl hLl (fun L hL => by have := congrArg List.length (hLt L hL); rw [List.length_map] at this; omega))
      have D12 : Hid (∀ w7, Below F.heap.size F w7 → Calls Tryz.prog 12 #[.agg #[.slice px nx cx, .slice py ny cy]] w7 fun e w' => e = .returned (.bool true) ∧ Below w7.heap.size w7 w') := fun w7 hb => shaped_yes (G1.below hb) hLt hTl hLl
      have f1 := unhide LB F hbF
      have f2 : (ld34 (.pointer (some ⟨w6.heap.size, 0, none⟩))).run Tryz.prog F = .ok (.agg #[.slice p6 n6 c6, .slice q6 m6 d6]) F := bF.ld34
      have LF : Hid (∀ w7, Below F.heap.size F w7 → (ld34 (.pointer (some ⟨w2.heap.size, 0, none⟩))).run Tryz.prog w7 = .ok (.agg #[.slice px nx cx, .slice py ny cy]) w7) := fun w7 hb => unhide LB w7 (hbF.trans (hb.mono hbF.size))
      have HFE := hide hF
      have hbWF : Hid (∀ w7, Below F.heap.size F w7 → Below W.heap.size W w7) := fun w7 hb => by
        have b1 : Below W.heap.size W B := (unhide HBA).trans ((unhide HBAB).mono (unhide HBA).size)
        exact (b1.trans (hbF.mono b1.size)).trans (hb.mono (Nat.le_trans b1.size hbF.size))
      clear hF hBF bF hbF g1 g2 k1 k2 hl hRl hQb G1 hTl hLl hLt hb6 ht6 DM
      go_upto_region 19 with fail
      rw [← unhide HFE]
      clear HFE
      go_wp2_with fail
      refine (unhide D11).mono ?_
      rintro e w7 ⟨rfl, hb7⟩
      have f3 := unhide LF w7 hb7
      have D := hide (unhide D12 w7 hb7)
      have HB7 := hide hb7
      clear hb7 D11 f1 f2
      go_wp2_with fail
      refine (unhide D).mono ?_
      rintro e w8 ⟨rfl, hb8⟩
      have HB8 := hide (unhide hbWF w8 ((unhide HB7).trans (hb8.mono (unhide HB7).size)))
      clear hb8 D
      go_wp2_with fail
      go_ret
      exact ⟨rfl, unhide HB8⟩
    have hn1 : 0 < n := by omega
    obtain ⟨g, hp, hnc⟩ : ∃ g, p = some ⟨g, 0, none⟩ ∧ n ≤ c := by
      obtain ⟨p2, c2, e2, hp0, hp1⟩ := row_slice hD.lf.row
      injection e2 with e2 _ e3
      subst e2
      subst e3
      cases p with
      | none => have := (hp0 rfl).1; omega
      | some ad =>
        obtain ⟨h1, h2, _, h4⟩ := hp1 ad rfl
        obtain ⟨b, o, s⟩ := ad
        simp only at h1 h2
        subst h1
        subst h2
        exact ⟨b, rfl, h4⟩
    subst hp
    obtain ⟨l1, l2, l3⟩ := unhide LD wr hbAr
    have HPM := hide (unhide PM wr hbAr)
    have HD := hide hD
    clear hD hbr hbAr l1 l2
    go_upto_region 11 with fail
    go_cut [46] (fun v46 wx => ∃ bb : Bool, v46 = .bool bb ∧ Hid (wx = wr) ∧ Hid (bb = true → i < nP ∧ ∃ b off z, pP = some ⟨b, off, none⟩ ∧ wr.cell? ⟨b, off + i, none⟩ = some (.int .i64 z) ∧ inI z ∧ z > 0))
    case first =>
      by_cases hi : i < nP
      · obtain ⟨bP, oP, Z, hpP, hcP, hzP⟩ := unhide HPM i hi
        subst hpP
        by_cases hz : Z > 0
        · go_wp2_with fail
          go_meet
          exact ⟨true, by simp, rfl, fun _ => ⟨hi, bP, oP, Z, rfl, hcP, hzP, hz⟩⟩
        · go_wp2_with fail
          go_meet
          exact ⟨false, by simp, rfl, fun h => by cases h⟩
      · go_wp2_with fail
        go_meet
        exact ⟨false, by simp, rfl, fun h => by cases h⟩
    obtain ⟨bb, rfl, hwc, hbb⟩ := hcut
    rw [unhide hwc]
    clear hwc wc
    go_upto_if 46 with fail
    go_cut [9] (fun v9 wx => ∃ at' : Nat, v9 = .int .i64 at' ∧ at' < n ∧ Hid (wx = wr))
    case first =>
      cases bb
      · go_wp2_with fail
        go_meet
        exact ⟨0, rfl, by omega, rfl⟩
      · obtain ⟨hi, bP, oP, Z, hpP, hcP, hzI, hz⟩ := unhide hbb rfl
        subst hpP
        unfold inI at hzI
        obtain ⟨hzI1, hzI2⟩ := hzI
        go_wp2_with fail
        go_meet
        have hz1 := Int.emod_nonneg Z (show (n : Int) ≠ 0 by omega)
        have hz2 := Int.emod_lt_of_pos Z (show (0 : Int) < n by omega)
        exact ⟨(Z % (n : Int)).toNat, by rw [Int.toNat_of_nonneg hz1], by omega, rfl⟩
    clear hbb bb
    obtain ⟨at', rfl, ha, hwc⟩ := hcut
    rw [unhide hwc]
    clear hwc wc
    obtain ⟨r, p1, c1, y1, p2, c2, y2, p3, c3, y3, hra, hr1, hr2, hr3, hfin⟩ := (unhide HD).draw ha (by omega)
    unfold Ro.arr at hr1
    have hld := run_ld39 hra
    unfold Ro.arr at hld
    have HR1 := hide hr1; have HR2 := hide hr2; have HR3 := hide hr3; have HFIN := hide hfin
    clear hr1 hr2 hr3 hfin hra l3
    go_upto_region 14 with (at_builtin; refine wpList_append_run rfl _ _ 28 rfl _ _ _ _ rfl rfl (unhide HR1) ?_)
    clear hld
    go_upto_region 16 with (at_builtin; refine wpList_append_run rfl _ _ 28 rfl _ _ _ _ rfl rfl (unhide HR2) ?_)
    go_wp2_with (at_builtin; refine wpList_append_run rfl _ _ 28 rfl _ _ _ _ rfl rfl (unhide HR3) ?_)
    refine ⟨⟨i + 1, n - 1, k + 1, _, _, _, _, by simp, rfl, rfl, by omega, by omega, unhide HFIN⟩, by simp [slLen]; omega⟩
end
end Go.Proofs.YtbenciieenbmeaaGreatDoor
/- answer: counting rows (no program in it). -/
namespace Go.Proofs.YtbenciieenbmeaaGreatDoor
open Go Go.Shelf Go.ChangeShapes Go.WideShapes Go.ChangeAt Go.RowKit Go.Maps Go.Sort
set_option linter.unusedVariables false
set_option maxRecDepth 100000
set_option maxHeartbeats 4000000
/-- the query that counts the rows which a condition lets in -/
def cq (q : Qy) : Qy := ⟨q.nodes, q.wh, [], [(1, -1)], [], -1⟩
def a1 : Ag := ⟨1, 0, 1⟩
theorem cq_chk {q : Qy} (h : okQ (cq q) = true) : chkL (cq q) = [1] := by rw [(chk_ok h).2]; rfl
theorem cq_F (q : Qy) : scF (cq q) = [] := rfl
theorem cq_S {q : Qy} (h : okQ (cq q) = true) : scS (cq q) = [a1] := by
  unfold scS; rw [cq_chk h]; rfl
theorem cq_P {q : Qy} (h : okQ (cq q) = true) : scP (cq q) = [0] := by
  unfold scP; rw [cq_chk h]; rfl
theorem one_all {κ : Type} [DecidableEq κ] {x : κ} : ∀ {L : List κ}, L.Nodup → (∀ y ∈ L, y = x) → L = [] ∨ L = [x]
  | [], _, _ => .inl rfl
  | [y], _, h => .inr (by rw [h y (by simp)])
  | y :: z :: L, hn, h => by
    have h1 := h y (by simp); have h2 := h z (by simp)
    subst h1
    subst h2
    simp at hn
theorem ksF_none (q : Qy) (S : List Ag) (hS : endsB S = false) (R : List Ro) : ksF q [] S R = [noK] := by
  unfold ksF
  rw [if_pos ⟨rfl, hS⟩]
  have h1 : ksR q [] R = [] ∨ ksR q [] R = [noK] := by
    refine one_all (nodup_onD _) (fun y hy => ?_)
    unfold ksR at hy
    rw [mem_onD, List.mem_map] at hy
    obtain ⟨r, _, rfl⟩ := hy
    rfl
  rcases h1 with h1 | h1
  · rw [h1]; rfl
  · rw [h1]; rfl
theorem inK_none (q : Qy) (r : Ro) : inK q [] noK r = cntB q r := by
  unfold inK
  have e : keyK [] r = noK := rfl
  rw [e]; simp
theorem tal_cnt (q : Qy) (R : List Ro) : (talR q R a1).1 = (R.length : Int) := by
  unfold talR
  suffices h : ∀ (p : Int × Cl), (R.foldl (fun p r => (tkZ a1.kd p.1 (cAt (vlL q.nodes r) a1), tkE a1.kd p.2 (cAt (vlL q.nodes r) a1))) p).1 = p.1 + (R.length : Int) by simpa using h (0, .no)
  induction R with
  | nil => intro p; simp
  | cons r R ih =>
    intro p
    rw [List.foldl_cons, ih]
    have e : tkZ a1.kd p.1 (cAt (vlL q.nodes r) a1) = p.1 + 1 := by unfold tkZ cAt; simp [a1]
    rw [e, List.length_cons]
    omega
noncomputable def cntN (q : Qy) (R : List Ro) : Nat := (R.filter (cntB q)).length
theorem φ_cnt (q : Qy) (R : List Ro) : (φR q [] R noK a1).1 = (cntN q R : Int) := by
  unfold φR cntN
  rw [tal_cnt]
  congr 2
  exact List.filter_congr (fun r _ => inK_none q r)
theorem cntN_le (q : Qy) (R : List Ro) : cntN q R ≤ R.length := List.length_filter_le _ _
theorem tlC_cnt {z : Int} (e : Cl) (h : 0 ≤ z ∧ z < 4294967296) : tlC z e 1 1 = ⟨1, z, ⟨#[]⟩⟩ := by
  have hi : I64 z := ⟨by omega, by omega⟩
  have h2 : whB z = true := (whB_is (by unfold W128; omega)).2 hi
  unfold tlC
  rw [if_neg (by decide), h2, whN_is hi]
  unfold numC
  have h3 : amt z = true := by unfold amt; simp; omega
  rw [h3]; rfl
theorem cq_over {q : Qy} (h : okQ (cq q) = true) {R : List Ro} (hR : R.length < 4294967296) : overB (cq q) (scF (cq q)) (scS (cq q)) R = R.any (fun r => (whC q r).ty == 0) := by
  rw [cq_F, cq_S h]
  unfold overB
  have h1 : linesB (cq q) [] [a1] R = false := by
    unfold linesB
    rw [ksF_none _ _ rfl]
    simp only [List.any_cons, List.any_nil, Bool.or_false, lnB]
    rw [φ_cnt]
    have := cntN_le (cq q) R
    rw [show a1.kd = 1 from rfl, show a1.ty = 1 from rfl, tlC_cnt _ (by omega)]
    rfl
  rw [h1, Bool.or_false]
  unfold rowsB
  refine any_congr' (fun r _ => ?_)
  show (!(stE (cq q) [] [a1] r == 0)) = ((whC q r).ty == 0)
  unfold stE
  have hw : whC (cq q) r = whC q r := rfl
  rw [hw]
  by_cases h2 : (whC q r).ty = 0
  · rw [if_pos h2, h2]; rfl
  · rw [if_neg h2]
    have hb : badK [] r = false := rfl
    have ht : badT (vlL (cq q).nodes r) [a1] = false := rfl
    have h3 : ((whC q r).ty == 0) = false := by simpa using h2
    rw [hb, ht, h3]
    split <;> rfl
theorem cq_E {q : Qy} {R : List Ro} (hR : R.length < 4294967296) : scE (cq q) R = 0 ↔ okQ (cq q) = true ∧ ∀ r ∈ R, (whC q r).ty ≠ 0 := by
  constructor
  · intro h
    obtain ⟨h1, h2⟩ := scE_zero h
    refine ⟨h1, fun r hr e => ?_⟩
    rw [cq_over h1 hR, List.any_eq_false] at h2
    exact h2 r hr (by simpa using e)
  · rintro ⟨h1, h2⟩
    unfold scE
    rw [if_pos h1, cq_over h1 hR]
    have : R.any (fun r => (whC q r).ty == 0) = false := by
      rw [List.any_eq_false]; intro r hr e; exact h2 r hr (by simpa using e)
    rw [this]; rfl
theorem cq_T {q : Qy} {R : List Ro} (hR : R.length < 4294967296) (hE : scE (cq q) R = 0) {T : List Int} {LL : List (List Cl)} (h : ScT (cq q) R T LL) : T = [1] ∧ LL = [[⟨1, (cntN q R : Int), ⟨#[]⟩⟩]] := by
  obtain ⟨h1, _⟩ := scE_zero hE
  rcases h with ⟨_, e1, M, hM, e2⟩ | ⟨h0, _⟩
  · refine ⟨by rw [e1, cq_chk h1], ?_⟩
    have hp := hM.1
    rw [cq_F, cq_S h1] at hp
    have hl : linesL (cq q) [] [a1] R = [[⟨1, (cntN q R : Int), ⟨#[]⟩⟩]] := by
      unfold linesL
      rw [ksF_none _ _ rfl]
      simp only [List.map_cons, List.map_nil, lnC, List.length_nil, List.take_zero, List.nil_append]
      rw [φ_cnt]
      have := cntN_le (cq q) R
      rw [show a1.kd = 1 from rfl, show a1.ty = 1 from rfl, tlC_cnt _ (by omega)]
      rfl
    rw [hl] at hp
    have eM := List.perm_singleton.1 hp
    rw [e2, eM, cq_P h1]
    rfl
  · exact absurd hE h0
/-- one node more, the condition now -/
def uq (q : Qy) (x : Nd) : Qy := ⟨q.nodes ++ [x], (q.nodes.length : Int), q.by', q.sh, q.ords, q.lim⟩
theorem uq_ok {q : Qy} (h : okQ (cq q) = true) {x : Nd} (hx : ntS x (tyL q.nodes) = 4) : okQ (cq (uq q x)) = true := by
  have hp := (ok_iff _).1 h
  refine (ok_iff _).2 ⟨?_, ?_, fun f hf => (by cases hf), (by show 0 < 1; decide), fun y hy => ?_, fun y hy => (by cases hy), (by show (-1 : Int) ≤ -1; decide)⟩
  · intro t ht
    have ht' : t ∈ tyL (q.nodes ++ [x]) := ht
    rw [tyL_snoc, hx] at ht'
    rcases List.mem_append.1 ht' with h1 | h1
    · exact hp.p1 t h1
    · rw [List.mem_singleton.1 h1]; decide
  · refine .inr ?_
    show tat (tyL (q.nodes ++ [x])) (q.nodes.length : Int) = 4
    rw [tyL_snoc, hx, ← tyL_len q.nodes]
    exact tat_last 4
  · have : y = (1, -1) := by simpa [cq] using hy
    subst this
    rfl
theorem uq_wh (q : Qy) (x : Nd) (r : Ro) : whC (uq q x) r = wrC x r (vlL q.nodes r) := by
  unfold whC uq
  simp only
  rw [if_neg (by omega), vlL_snoc]
  unfold vat
  rw [← vlL_len q.nodes r]
  simp
theorem wh_ty {q : Qy} (h : okQ (cq q) = true) (hw : 0 ≤ q.wh) (r : Ro) : tat (tyL q.nodes) q.wh = 4 ∧ (whC q r = vat (vlL q.nodes r) q.wh) ∧ ((whC q r).ty ≠ 0 → (whC q r).ty = 4) := by
  have hp := (ok_iff _).1 h
  have h4 : tat (tyL q.nodes) q.wh = 4 := hp.p2.elim (fun (e : q.wh = -1) => by omega) id
  have e : whC q r = vat (vlL q.nodes r) q.wh := by unfold whC; rw [if_neg (by omega)]
  refine ⟨h4, e, fun h0 => ?_⟩
  have hv := val_ty (L := q.nodes) hp.p1 r
  rcases vat_ty hv q.wh with h5 | h5
  · rw [h4, ← e] at h5
    rcases h5 with h5 | h5
    · exact h5
    · exact absurd h5 h0
  · rw [h4] at h5; cases h5
theorem not_wh {q : Qy} (h : okQ (cq q) = true) (hw : 0 ≤ q.wh) : okQ (cq (uq q ⟨3, q.wh, -1, 0, 0, ⟨#[]⟩⟩)) = true ∧ ∀ r, (whC q r).ty ≠ 0 → whC (uq q ⟨3, q.wh, -1, 0, 0, ⟨#[]⟩⟩) r = tru (!cntB q r) := by
  refine ⟨uq_ok h ?_, fun r h0 => ?_⟩
  · show sgl 3 (tat (tyL q.nodes) q.wh) = 4
    rw [(wh_ty h hw ⟨0, 0, 0, 0, ⟨#[]⟩, ⟨#[]⟩, 0, ⟨#[]⟩, ⟨#[]⟩⟩).1]; rfl
  · obtain ⟨_, e2, e3⟩ := wh_ty h hw r
    rw [uq_wh]
    have e : wrC ⟨3, q.wh, -1, 0, 0, ⟨#[]⟩⟩ r (vlL q.nodes r) = opp (whC q r) := by rw [e2]; rfl
    rw [e]
    unfold opp
    rw [if_neg h0, if_pos (e3 h0)]
    rfl
theorem two_wh {q : Qy} (h : okQ (cq q) = true) (hw : 0 ≤ q.wh) (k : Int) (hk : k = 1 ∨ k = 2) : okQ (cq (uq q ⟨k, q.wh, q.wh, 0, 0, ⟨#[]⟩⟩)) = true ∧ ∀ r, whC (uq q ⟨k, q.wh, q.wh, 0, 0, ⟨#[]⟩⟩) r = whC q r := by
  refine ⟨uq_ok h ?_, fun r => ?_⟩
  · have h4 := (wh_ty h hw ⟨0, 0, 0, 0, ⟨#[]⟩, ⟨#[]⟩, 0, ⟨#[]⟩, ⟨#[]⟩⟩).1
    rcases hk with rfl | rfl
    · show prS 1 (tat (tyL q.nodes) q.wh) (tat (tyL q.nodes) q.wh) = 4
      rw [h4]; rfl
    · show prS 2 (tat (tyL q.nodes) q.wh) (tat (tyL q.nodes) q.wh) = 4
      rw [h4]; rfl
  · obtain ⟨_, e2, _⟩ := wh_ty h hw r
    rw [uq_wh]
    rcases hk with rfl | rfl
    · have e : wrC ⟨1, q.wh, q.wh, 0, 0, ⟨#[]⟩⟩ r (vlL q.nodes r) = cho (whC q r) (whC q r) false := by rw [e2]; rfl
      rw [e]; unfold cho; split <;> rfl
    · have e : wrC ⟨2, q.wh, q.wh, 0, 0, ⟨#[]⟩⟩ r (vlL q.nodes r) = cho (whC q r) (whC q r) true := by rw [e2]; rfl
      rw [e]; unfold cho; split <;> rfl
theorem len_two {α : Type} (p : α → Bool) : ∀ (L : List α), (L.filter p).length + (L.filter (fun x => !p x)).length = L.length
  | [] => rfl
  | x :: L => by
    have := len_two p L
    cases h : p x <;> simp [h] <;> omega
/-- what the law of conditions holds -/
theorem cond_all {q : Qy} {R : List Ro} (hR : R.length < 4294967296) (hw : 0 ≤ q.wh) (h : scE (cq q) R = 0) :
    (scE (cq (uq q ⟨3, q.wh, -1, 0, 0, ⟨#[]⟩⟩)) R = 0 ∧ cntN q R + cntN (uq q ⟨3, q.wh, -1, 0, 0, ⟨#[]⟩⟩) R = R.length) ∧ (∀ k, k = 1 ∨ k = 2 → scE (cq (uq q ⟨k, q.wh, q.wh, 0, 0, ⟨#[]⟩⟩)) R = 0 ∧ cntN (uq q ⟨k, q.wh, q.wh, 0, 0, ⟨#[]⟩⟩) R = cntN q R) := by
  obtain ⟨h1, h2⟩ := (cq_E hR).1 h
  refine ⟨⟨(cq_E hR).2 ⟨(not_wh h1 hw).1, fun r hr => ?_⟩, ?_⟩, fun k hk => ⟨(cq_E hR).2 ⟨(two_wh h1 hw k hk).1, fun r hr => ?_⟩, ?_⟩⟩
  · rw [(not_wh h1 hw).2 r (h2 r hr)]
    show (4 : Int) ≠ 0
    decide
  · unfold cntN
    rw [← len_two (cntB q) R]
    congr 2
    refine List.filter_congr (fun r hr => ?_)
    unfold cntB
    rw [(not_wh h1 hw).2 r (h2 r hr)]
    unfold cntB
    cases ((whC q r).num == 1) <;> rfl
  · rw [(two_wh h1 hw k hk).2 r]; exact h2 r hr
  · unfold cntN
    congr 1
    refine List.filter_congr (fun r hr => ?_)
    unfold cntB
    rw [(two_wh h1 hw k hk).2 r]
end Go.Proofs.YtbenciieenbmeaaGreatDoor
