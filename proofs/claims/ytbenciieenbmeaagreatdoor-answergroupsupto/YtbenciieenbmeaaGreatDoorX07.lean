import Derived.Test.YtbenciieenbmeaaGreatDoorX01
import Derived.Test.YtbenciieenbmeaaGreatDoorX06
/- AnswerGroups (8): its walk. -/
namespace Go.Proofs.YtbenciieenbmeaaGreatDoor
open Go Go.Shelf Go.ChangeShapes Go.WideShapes Go.ChangeAt Go.RowKit Go.Maps Go.Sort
set_option linter.unusedVariables false
set_option maxRecDepth 100000
set_option maxHeartbeats 8000000
theorem sz63 : (Tryz.prog.info? 63).map (·.size) = some 3 := by kernel_rfl
def st63 (x y : Value) : Sem Unit := Instr.storeAt 63 x y
theorem st63_is (x y : Value) : Instr.storeAt 63 x y = st63 x y := rfl
theorem put63 {X : World} {n : Nat} {x0 x1 x2 : Value} (h0 : Bk X n 63 [x0, x1, x2]) (m : Int) (s : ByteArray) (b : Bool) :
    ∃ Y, (st63 (.pointer (some ⟨n, 0, none⟩)) (wV m s b)).run Tryz.prog X = .ok () Y ∧ Bk Y n 63 [.int .i64 m, .string s, .bool b] ∧ (∀ B A, B ≤ n → Below B A X → Below B A Y) := by
  obtain ⟨cs, hcs⟩ : ∃ cs : Array Value, cs = #[x0, x1, x2] := ⟨_, rfl⟩
  have h : X.heap[n]? = some (.cells cs 63 (0, 0)) := by rw [hcs]; exact h0
  have hsz : cs.size = 3 := by rw [hcs]; rfl
  have hs := run_storeAt_mid (P := Tryz.prog) X n 0 63 #[.int .i64 m, .string s, .bool b] (fun j hj => by
    have hj' : j < cs.size := by rw [hsz]; exact hj
    simp [World.cell?, World.frozen?, h, hj']) sz63 (by simp; exact ⟨rfl, rfl, rfl⟩)
  have hy : (X.setCells n 0 [.int .i64 m, .string s, .bool b]).heap[n]? = some (.cells #[.int .i64 m, .string s, .bool b] 63 (0, 0)) := by
    show (((X.setCell ⟨n, 0, none⟩ _).setCell ⟨n, 0 + 1, none⟩ _).setCell ⟨n, 0 + 1 + 1, none⟩ _).heap[n]? = _
    rw [setC (setC (setC h)), hcs]
    rfl
  exact ⟨_, hs, hy, fun B A hB hX => below_setCs hB _ _ _ _ hX⟩
theorem bytes_eq {a b : ByteArray} (h : a.toList = b.toList) : a = b := by
  have e : ∀ x : ByteArray, x.toList = x.data.toList := fun x => ByteArray.toList_eq x
  rw [e, e] at h
  exact ByteArray.ext (Array.toList_inj.1 h)
theorem wrapK (K : Nat) (h : K ≤ 4194304) : IntKind.i64.wrap (K : Int) = (K : Int) := by
  first
  | (go_num; done)
  | (unfold IntKind.wrap; simp; omega)
  | (simp [IntKind.wrap, IntKind.bits, IntKind.signed]; omega)
/-- the query's places without Orders -/
def gqa (a : Qa) : Qa := ⟨a.pN, a.cN, a.pB, a.cB, a.pS, a.cS, none, 0⟩
section
attribute [local go_sem ↓] ld32_is ld34_is ldC_is ld39_is st63_is
theorem groups_walk {W : World} {q : Qy} {a : Qa} {pR : Option Addr} {cR : Nat} {R : List Ro} (g : Glb W) (h : Arg W q a pR cR R) :
    Calls Tryz.prog 8 #[.agg #[.slice a.pN q.nodes.length a.cN, .int .i64 q.wh, .slice a.pB q.by'.length a.cB, .slice a.pS q.sh.length a.cS, .slice a.pO q.ords.length a.cO, .int .i64 q.lim, .slice pR R.length cR]] W fun e w' => e = .returned (.bool true) ∧ Below W.heap.size W w' := by
  obtain ⟨qa, hqa⟩ : ∃ v, v = qV q a := ⟨_, rfl⟩
  obtain ⟨nR, hnR⟩ : ∃ k, k = R.length := ⟨_, rfl⟩
  obtain ⟨nN, hnN⟩ : ∃ k, k = q.nodes.length := ⟨_, rfl⟩
  obtain ⟨nB, hnB⟩ : ∃ k, k = q.by'.length := ⟨_, rfl⟩
  obtain ⟨nS, hnS⟩ : ∃ k, k = q.sh.length := ⟨_, rfl⟩
  obtain ⟨nO, hnO⟩ : ∃ k, k = q.ords.length := ⟨_, rfl⟩
  obtain ⟨E, hE⟩ : ∃ E, E = scE (gq q) R := ⟨_, rfl⟩
  obtain ⟨A, hA⟩ : ∃ A, A = W.alloc (.cells (qC q a ++ [Value.slice pR nR cR]).toArray 58) := ⟨_, rfl⟩
  have hBA : Below W.heap.size W A := by rw [hA]; exact Below.a1 W _
  have hAs : W.heap.size < A.heap.size := by rw [hA]; simp
  have bA : Bk A W.heap.size 58 (qC q a ++ [Value.slice pR nR cR]) := by show A.heap[_]? = _; rw [hA]; exact heap_new _ _
  have hnRb : nR ≤ 1048575 := by rw [hnR]; exact h.rn
  have D9 := hide (first9 (g.fl.below hBA) (g.mon.below hBA) (g.rc.below hBA) (g.mx.below hBA (by have := g.six; omega)) (by have := g.six; omega))
  have LD : Hid (∀ w1, Below A.heap.size A w1 → (ld32 (.pointer (some ⟨W.heap.size, 0, none⟩))).run Tryz.prog w1 = .ok qa w1 ∧ w1.cell? ⟨W.heap.size, 6, none⟩ = some (.slice pR nR cR)) := fun w1 hb => by
    have b1 := bA.same (hb.block _ hAs)
    refine ⟨?_, b1.cell 6⟩
    rw [hqa]
    refine run_ld32 (fun j u hu => ?_)
    rw [b1.cell, Nat.zero_add]
    have hj : j < 6 := (List.getElem?_eq_some_iff.1 hu).1
    rw [List.getElem?_append_left hj]
    exact hu
  have D13 : Hid (∀ w1, Below A.heap.size A w1 → Calls Tryz.prog 13 #[qa] w1 fun e w2 => ∃ a', e = .returned (.agg #[.slice a'.pN nN a'.cN, .int .i64 q.wh, .slice a'.pB nB a'.cB, .slice a'.pS nS a'.cS, .slice a'.pO nO a'.cO, .int .i64 q.lim]) ∧ Hid (Twn w1 w2 q a')) := fun w1 hb => by
    have hbW : Below W.heap.size W w1 := hBA.trans (hb.mono hBA.size)
    rw [hqa, hnN, hnB, hnS, hnO]
    exact copied_any (h.qi.below hbW) h.qc
  have GQ : Hid (∀ w1 w2 a', Below A.heap.size A w1 → Twn w1 w2 q a' → ∀ Y, Below w2.heap.size w2 Y → ∀ p M, Lies kR Y p M → M.length ≤ 2097152 → (∀ r ∈ M, r ∈ R) → ScIq Y (gq q) (gqa a') p M ∧ QCp (gqa a')) := fun w1 w2 a' hb ht Y hY p M hM hl hm => by
    have hbW : Below W.heap.size W w1 := hBA.trans (hb.mono hBA.size)
    have hb12 := ht.n.bel
    have hbW2 : Below W.heap.size W w2 := hbW.trans (hb12.mono hbW.size)
    have hbY : Below W.heap.size W Y := hbW2.trans (hY.mono hbW2.size)
    have hq := (ht.qin ⟨by have := h.nn; omega, by have := h.nb; omega, by have := h.ns; omega, by have := h.no; omega⟩).below hY
    refine ⟨⟨g.fl.below hbY, g.mon.below hbY, g.rc.below hbY, g.mx.below hbY (by have := g.six; omega), Nat.le_trans g.six hbY.size, ⟨hq.n, hq.b, hq.s, ⟨fun _ => rfl, fun k hk => by cases hk⟩, hq.nn, hq.nb, hq.ns, by show 0 ≤ _; omega⟩, by have := h.nn; show q.nodes.length ≤ _; omega, by have := h.nb; show q.by'.length ≤ _; omega, by have := h.ns; show q.sh.length ≤ _; omega, by show 0 ≤ _; omega, h.nd, h.sI, ⟨by show (_ : Int) ≤ -1; decide, by show (-1 : Int) ≤ _; decide⟩, hM, hl, fun r hr => h.ro r (hm r hr)⟩, ⟨ht.qcp.n, ht.qcp.b, ht.qcp.s, fun _ => rfl⟩⟩
  have RL : Hid (∀ Y, Below W.heap.size W Y → Lies kR Y pR R) := fun Y hY => h.rl.below hY
  have RC : Hid (pR = none → cR = 0) := h.rc
  have RO : Hid (∀ r ∈ R, RoOk r) := h.ro
  have HA : Hid (A = W.alloc (.cells #[.slice a.pN nN a.cN, .int .i64 q.wh, .slice a.pB nB a.cB, .slice a.pS nS a.cS, .slice a.pO nO a.cO, .int .i64 q.lim, .slice pR nR cR] 58)) := by rw [hnN, hnB, hnS, hnO]; exact hA
  have HBA := hide hBA; have HNR := hide hnR; have HE := hide hE
  have HNB := hide hnB; have HNS := hide hnS; have HNN := hide hnN
  have hnBb : nB ≤ 1048575 := by rw [hnB]; exact h.nb
  have hnSb : nS ≤ 1048575 := by rw [hnS]; exact h.ns
  rw [← hnR, ← hnN, ← hnB, ← hnS, ← hnO]
  clear g h hqa hnR hA hBA hAs bA hnN hnB hnS hnO hE
  go_enter Tryz.func8, Tryz.ntmps8
  go_upto_region 1 with fail
  rw [← unhide HA]
  clear HA
  go_wp2_with fail
  refine (unhide D9).mono ?_
  rintro e w1 ⟨rfl, hb1⟩
  obtain ⟨l1, l2⟩ := unhide LD w1 hb1
  have D := hide (unhide D13 w1 hb1)
  have HB1 := hide hb1
  clear hb1 D9 l2 D13
  go_wp2_with fail
  refine (unhide D).mono ?_
  rintro e w2 ⟨a', rfl, ht⟩
  obtain ⟨X, hX⟩ : ∃ X, X = w2.alloc (.cells #[.slice a'.pN nN a'.cN, .int .i64 q.wh, .slice a'.pB nB a'.cB, .slice a'.pS nS a'.cS, .slice none 0 0, .int .i64 (-1)] 27) := ⟨_, rfl⟩
  have hb2X : Below w2.heap.size w2 X := by rw [hX]; exact Below.a1 w2 _
  have bX : Bk X w2.heap.size 27 (qC (gq q) (gqa a')) := by
    show X.heap[_]? = _
    unfold qC gq gqa
    simp only [List.length_nil]
    rw [hX, unhide HNN, unhide HNB, unhide HNS]
    exact heap_new _ _
  have hXs : w2.heap.size < X.heap.size := by rw [hX]; simp
  have hbA2 : Below A.heap.size A w2 := (unhide HB1).trans ((unhide ht).n.bel.mono (unhide HB1).size)
  have hbAX : Below A.heap.size A X := hbA2.trans (hb2X.mono hbA2.size)
  have hbWX : Below W.heap.size W X := (unhide HBA).trans (hbAX.mono (unhide HBA).size)
  have hqV : qV (gq q) (gqa a') = .agg #[.slice a'.pN nN a'.cN, .int .i64 q.wh, .slice a'.pB nB a'.cB, .slice a'.pS nS a'.cS, .slice none 0 0, .int .i64 (-1)] := by rw [unhide HNN, unhide HNB, unhide HNS]; rfl
  have GQ2 : Hid (∀ Y, Below X.heap.size X Y → ∀ p M, Lies kR Y p M → M.length ≤ 2097152 → (∀ r ∈ M, r ∈ R) → ScIq Y (gq q) (gqa a') p M ∧ QCp (gqa a')) := fun Y hY => unhide GQ w1 w2 a' (unhide HB1) (unhide ht) Y (hb2X.trans (hY.mono hb2X.size))
  have BL : Hid (∀ Y, Below X.heap.size X Y → Lies kI Y a'.pB q.by') := fun Y hY => ((unhide ht).b.lies kI_ok).below (hb2X.trans (hY.mono hb2X.size))
  have CX : Hid (∀ Y, Below X.heap.size X Y → (ld32 (.pointer (some ⟨w2.heap.size, 0, none⟩))).run Tryz.prog Y = .ok (.agg #[.slice a'.pN nN a'.cN, .int .i64 q.wh, .slice a'.pB nB a'.cB, .slice a'.pS nS a'.cS, .slice none 0 0, .int .i64 (-1)]) Y ∧ Y.cell? ⟨w2.heap.size, 2, none⟩ = some (.slice a'.pB nB a'.cB) ∧ Y.cell? ⟨w2.heap.size, 3, none⟩ = some (.slice a'.pS nS a'.cS) ∧ Y.cell? ⟨W.heap.size, 6, none⟩ = some (.slice pR nR cR)) := fun Y hY => by
    have b := bX.same (hY.block _ hXs)
    refine ⟨by rw [← hqV]; exact run_ld32 (q := gq q) (a := gqa a') (fun j u hu => by rw [b.cell, Nat.zero_add]; exact hu), ?_, ?_, (unhide LD Y (hbAX.trans (hY.mono hbAX.size))).2⟩
    · rw [b.cell 2, unhide HNB]; rfl
    · rw [b.cell 3, unhide HNS]; rfl
  have SC : Hid (Calls Tryz.prog 10 #[.agg #[.slice a'.pN nN a'.cN, .int .i64 q.wh, .slice a'.pB nB a'.cB, .slice a'.pS nS a'.cS, .slice none 0 0, .int .i64 (-1)], .slice pR nR cR] X fun e w' => ∃ px nx cx py ny cy T LL, e = .returned (.tuple #[.agg #[.slice px nx cx, .slice py ny cy], .int .i64 E]) ∧ Below X.heap.size X w' ∧ Hid (TblOut X.heap.size w' (.agg #[.slice px nx cx, .slice py ny cy]) T LL ∧ ScT (gq q) R T LL)) := by
    have hS := unhide GQ2 X (Below.refl _ X) pR R (unhide RL X hbWX) (by have := unhide HNR; omega) (fun r hr => hr)
    have D := lscan_any (cR := cR) hS.1 hS.2 (unhide RC)
    rw [hqV, ← unhide HNR] at D
    refine D.mono fun e w' ho => ?_
    obtain ⟨px, nx, cx, py, ny, cy, T, LL, e1, e2, e3⟩ := ho.tab
    exact ⟨px, nx, cx, py, ny, cy, T, LL, by rw [unhide HE]; exact e1, e2, e3⟩
  have CN : Hid (∀ Y, Below X.heap.size X Y → ∀ p k c M, Lies kR Y p M → M.length = k → k ≤ 2097152 → (∀ r ∈ M, r ∈ R) → (p = none → c = 0) → scE (cq q) M = 0 → ∀ m, m = cntN q M → Calls Tryz.prog 14 #[.agg #[.slice a'.pN nN a'.cN, .int .i64 q.wh, .slice a'.pB nB a'.cB, .slice a'.pS nS a'.cS, .slice none 0 0, .int .i64 (-1)], .slice p k c] Y fun e w' => e = .returned (.tuple #[.int .i64 (m : Nat), .bool true]) ∧ Below Y.heap.size Y w') := fun Y hY p k c M hM hl hk hm hc h0 m hmm => by
    have hS := unhide GQ2 Y hY p M hM (by omega) hm
    have D := counted_any (cR := c) hS.1 hS.2 hc
    rw [hqV, hl] at D
    refine D.mono fun e w' ho => ?_
    obtain ⟨e1, e2⟩ := ho
    refine ⟨?_, e2⟩
    rw [e1]
    unfold cnV cnB
    have h0' : scE (cq (gq q)) M = 0 := h0
    rw [if_pos h0', h0', hmm]
    rfl
  have TT : Hid (∀ Y, Below X.heap.size X Y → ∀ p k c M, Lies kR Y p M → M.length = k → k ≤ 2097152 → (∀ r ∈ M, r ∈ R) → (p = none → c = 0) → scE (tq q) M = 0 → oneQ q M = true → Calls Tryz.prog 16 #[.agg #[.slice a'.pN nN a'.cN, .int .i64 q.wh, .slice a'.pB nB a'.cB, .slice a'.pS nS a'.cS, .slice none 0 0, .int .i64 (-1)], .slice p k c] Y fun e w' => ∃ p2 c2, e = .returned (.tuple #[.slice p2 nS c2, .bool true]) ∧ Below Y.heap.size Y w' ∧ Hid (Lies kC w' p2 (q.sh.map (totC q M)))) := fun Y hY p k c M hM hl hk hm hc h0 h1 => by
    have hS := unhide GQ2 Y hY p M hM (by omega) hm
    have D := totals_any (cR := c) hS.1 hS.2 hc
    rw [hqV, hl] at D
    refine D.mono fun e w' ho => ?_
    obtain ⟨p2, n2, c2, e1, e2, e3⟩ := ho
    have hb : tqB (gq q) M = true := by
      have h0' : scE (tq (gq q)) M = 0 := h0
      have h1' : oneQ (gq q) M = true := h1
      unfold tqB
      rw [h0', h1']; rfl
    obtain ⟨e4, e5⟩ := e3 hb
    refine ⟨p2, c2, ?_, e2, e5⟩
    rw [e1, hb, e4, unhide HNS]
    rfl
  obtain ⟨lX, hz1, hz2, lR⟩ := unhide CX X (Below.refl _ X)
  clear hz1 hz2
  have HX := hide hX; have HAX := hide hbAX; have HWX := hide hbWX; have HXs := hide hXs
  clear hX bX hXs hbAX hb2X hbA2 hbWX D l1 ht hqV GQ GQ2
  go_upto_region 7 with fail
  rw [← unhide HX]
  clear HX
  go_wp2_with fail
  refine (unhide SC).mono ?_
  rintro e w3 ⟨px, nx, cx, py, ny, cy, T, LL, rfl, hb3, ht3⟩
  obtain ⟨B, hB⟩ : ∃ B, B = w3.alloc (.cells #[.slice px nx cx, .slice py ny cy] 34) := ⟨_, rfl⟩
  have hb3B : Below w3.heap.size w3 B := by rw [hB]; exact Below.a1 w3 _
  have bB : Bk B w3.heap.size 34 [.slice px nx cx, .slice py ny cy] := by show B.heap[_]? = _; rw [hB]; exact heap_new _ _
  have hXB : Below X.heap.size X B := hb3.trans (hb3B.mono hb3.size)
  have hBs : w3.heap.size < B.heap.size := by rw [hB]; simp
  have hT3 := (unhide ht3).1.below hb3B
  have hS3 := (unhide ht3).2
  have hl3 := hS3.len
  have hTl : T.length ≤ 4194304 := by have h1 := hl3.1; have h2 : (gq q).by'.length = nB := (unhide HNB).symm; have h3 : (gq q).sh.length = nS := (unhide HNS).symm; omega
  have hLl : LL.length ≤ 2097152 := by have := hl3.2; have := unhide HNR; omega
  have D12 := hide (shaped_yes hT3 hS3.ty hTl (by omega))
  have lB : (ld34 (.pointer (some ⟨w3.heap.size, 0, none⟩))).run Tryz.prog B = .ok (.agg #[.slice px nx cx, .slice py ny cy]) B := bB.ld34
  have CB : Hid (∀ Y, Below B.heap.size B Y → Y.cell? ⟨w3.heap.size, 0, none⟩ = some (.slice px nx cx) ∧ Y.cell? ⟨w3.heap.size, 1, none⟩ = some (.slice py ny cy) ∧ TblOut X.heap.size Y (.agg #[.slice px nx cx, .slice py ny cy]) T LL) := fun Y hY => by
    have b := bB.same (hY.block _ hBs)
    exact ⟨b.cell 0, b.cell 1, hT3.below hY⟩
  have HB := hide hB; have HXB := hide hXB; have HS3 := hide hS3; have HLL := hide hLl
  clear hB hb3B bB hXB hBs hT3 hS3 hl3 hTl hLl hb3 ht3 SC lX lR
  go_upto_region 8 with fail
  rw [← unhide HB]
  clear HB
  go_wp2_with fail
  refine (unhide D12).mono ?_
  rintro e w4 ⟨rfl, hb4⟩
  have hX4 : Below X.heap.size X w4 := (unhide HXB).trans (hb4.mono (unhide HXB).size)
  have HW4 : Hid (Below W.heap.size W w4) := (unhide HWX).trans (hX4.mono (unhide HWX).size)
  obtain ⟨l4, q2, q3, r6⟩ := unhide CX w4 hX4
  obtain ⟨t0, t1, tb⟩ := unhide CB w4 hb4
  have TB := hide tb; have HX4 := hide hX4; have HB4 := hide hb4
  clear D12 lB hX4 hb4 tb
  have hEc := scE_cases (gq q) R
  rw [← unhide HE] at hEc
  rcases hEc.symm with e1 | e0
  · have HOUT := hide (unhide HW4)
    clear HS3 TB CN TT CB CX BL HX4 HB4
    rcases e1 with rfl | rfl
    all_goals
      go_wp2_with fail
      go_ret
      exact ⟨rfl, unhide HOUT⟩
  subst e0
  by_cases hB0 : nB = 0
  · subst hB0
    have HOUT := hide (unhide HW4)
    clear HS3 TB CN TT CB CX BL HX4 HB4
    go_wp2_with fail
    go_ret
    exact ⟨rfl, unhide HOUT⟩

  have hby : q.by' ≠ [] := fun e => hB0 (by rw [unhide HNB, e]; rfl)
  obtain ⟨ks, hG⟩ := grp_of (by have := unhide HNR; omega) (unhide HE).symm hby (unhide HS3)
  obtain ⟨tx, ty, tT, trows⟩ := tbl_rows (unhide TB)
  have hnx : nx = nB + nS := by rw [tx, hG.t, unhide HNB, unhide HNS]
  have hks : ny = ks.length := by rw [ty, hG.l, List.length_map]
  obtain ⟨Z, hZ⟩ : ∃ Z, Z = cntN q R := ⟨_, rfl⟩
  have hZb : Z ≤ nR := by rw [hZ, unhide HNR]; exact List.length_filter_le _ _
  have D14 := hide (unhide CN w4 (unhide HX4) pR nR cR R (unhide RL w4 (unhide HW4)) (unhide HNR).symm (by omega) (fun r hr => hr) (unhide RC) hG.c Z hZ)
  have hnyb : ny ≤ 2097152 := by rw [ty]; exact unhide HLL
  subst hnx
  have HG := hide hG; have HKS := hide hks; have HZ := hide hZ
  clear hby hG hks hZ tx ty tT trows HS3
  go_wp2_with fail
  refine (unhide D14).mono ?_
  rintro e V ⟨rfl, hb5⟩
  have hXV : Below X.heap.size X V := (unhide HX4).trans (hb5.mono (unhide HX4).size)
  have hBV : Below B.heap.size B V := (unhide HB4).trans (hb5.mono (unhide HB4).size)
  have HWV : Hid (Below W.heap.size W V) := (unhide HWX).trans (hXV.mono (unhide HWX).size)
  have CV : Hid (∀ Y, Below V.heap.size V Y → (Y.cell? ⟨w2.heap.size, 2, none⟩ = some (.slice a'.pB nB a'.cB) ∧ Y.cell? ⟨w2.heap.size, 3, none⟩ = some (.slice a'.pS nS a'.cS) ∧ Y.cell? ⟨W.heap.size, 6, none⟩ = some (.slice pR nR cR) ∧ Y.cell? ⟨w3.heap.size, 1, none⟩ = some (.slice py ny cy) ∧ (ld32 (.pointer (some ⟨w2.heap.size, 0, none⟩))).run Tryz.prog Y = .ok (.agg #[.slice a'.pN nN a'.cN, .int .i64 q.wh, .slice a'.pB nB a'.cB, .slice a'.pS nS a'.cS, .slice none 0 0, .int .i64 (-1)]) Y)) := fun Y hY => by
    obtain ⟨c1, c2, c3, c4⟩ := unhide CX Y (hXV.trans (hY.mono hXV.size))
    obtain ⟨_, c5, _⟩ := unhide CB Y (hBV.trans (hY.mono hBV.size))
    exact ⟨c2, c3, c4, c5, c1⟩
  have TV : Hid (TblOut X.heap.size V (.agg #[.slice px (nB + nS) cx, .slice py ny cy]) T LL) := (unhide CB V hBV).2.2
  have HXV := hide hXV
  clear hXV hBV hb5 D14 l4 q2 q3 r6 t0 t1 CB CX HX4 HB4 TB HW4
  obtain ⟨nT, hnT⟩ : ∃ n, n = nB + nS := ⟨_, rfl⟩
  have HNT := hide hnT
  clear hnT
  have ROW : Hid (∀ i (hi : i < ks.length), ∃ b off p c L, py = some ⟨b, off, none⟩ ∧ L = byC q ks[i] ++ q.sh.map (totC q (rowsK q R ks[i])) ∧ L.length = nT ∧ ∀ Y, Below V.heap.size V Y → Y.cell? ⟨b, off + i, none⟩ = some (.slice p nT c) ∧ Lies kC Y p L) := fun i hi => by
    obtain ⟨_, _, _, tr⟩ := tbl_rows (unhide TV)
    have hG := unhide HG
    have hil : i < LL.length := by rw [hG.l, List.length_map]; exact hi
    obtain ⟨b, off, p, c, r1, r2, r3, r4⟩ := tr i hil
    have eL : LL[i] = byC q ks[i] ++ q.sh.map (totC q (rowsK q R ks[i])) := by
      have h1 := List.getElem?_eq_getElem hil
      have h2 : LL[i]? = some (byC q ks[i] ++ q.sh.map (totC q (rowsK q R ks[i]))) := by rw [hG.l, List.getElem?_map, List.getElem?_eq_getElem hi]; rfl
      exact Option.some.inj (h1.symm.trans h2)
    have el : LL[i].length = nT := by
      rw [unhide HNT, eL, List.length_append, List.length_map, unhide HNB, unhide HNS]
      unfold byC
      rw [List.length_map]
    refine ⟨b, off, p, c, LL[i], r1, eL, el, fun Y hY => ⟨?_, r4.below hY⟩⟩
    rw [hY.cell (p := ⟨b, off + i, none⟩) r2, r3, el]
  go_wp2_with fail
  go_loopw [10, 11] (fun v10 v11 wr => ∃ i gN : Nat, v11 = .int .i64 i ∧ v10 = .int .i64 gN ∧ i ≤ ny ∧ i ≤ 20 ∧ gN ≤ Z ∧ Hid (gN = ((ks.take i).map (fun k => cntN q (rowsK q R k))).sum ∧ Below V.heap.size V wr)) (fun _ v11 _ => 20 - (intOf v11).toNat)
  case atStart => exact ⟨0, 0, rfl, rfl, by omega, by omega, by omega, rfl, Below.refl _ V⟩
  case round =>
    obtain ⟨i, gN, rfl, rfl, hi1, hi2, hgZ, hrel⟩ := hrel
    by_cases hlt : i < ny ∧ i < 20
    · obtain ⟨hl1, hl2⟩ := hlt
      have hI1 : (i : Int) < (ny : Int) := by omega
      have hI2 : (i : Int) < 20 := by omega
      have hI3 : ¬ (i : Int) < 0 := by omega
      have hik : i < ks.length := by have := unhide HKS; omega
      obtain ⟨bT, oT, pL, cL, L, epy, eL, hLl, hLY⟩ := unhide ROW i hik
      obtain ⟨kk, hkk⟩ : ∃ kk, kk = ks[i] := ⟨_, rfl⟩
      rw [← hkk] at eL
      have hkm : kk ∈ ks := by rw [hkk]; exact List.getElem_mem hik
      obtain ⟨r0, hr0, hk0⟩ := (unhide HG).p kk hkm
      obtain ⟨o1, o2, o3, o4⟩ := (unhide HG).o kk hkm
      have hok := (scE_zero (unhide HE).symm).1
      have PK : Hid (∀ r, pickN q.by' L r q.by'.length = decide (keyK (onD q.by') r = kk)) := fun r => by rw [eL, ← hk0]; exact pick_is hok hr0 r _
      have HSUM : Hid (((ks.take (i + 1)).map (fun k => cntN q (rowsK q R k))).sum = gN + cntN q (rowsK q R kk)) := by
        show _ = _
        rw [sum_take _ hik, ← hkk, ← (unhide hrel).1]
      have HSUMZ : Hid (gN + cntN q (rowsK q R kk) ≤ Z) := by
        show _ ≤ _
        rw [← unhide HSUM, unhide HZ, ← (unhide HG).s]
        exact sum_part _ _ _
      obtain ⟨wo, rfl⟩ : ∃ x, x = wr := ⟨wr, rfl⟩
      have hVo := (unhide hrel).2
      obtain ⟨cB1, cS1, c61, ct1, cld1⟩ := unhide CV wo hVo
      subst epy
      have HEL := hide eL; have HLY := hide hLY; have HLL' := hide hLl; have HO := hide (show _ ∧ _ ∧ _ ∧ _ from ⟨o1, o2, o3, o4⟩); have HVO := hide hVo
      have HF14 : Hid (∀ f ∈ q.by', 1 ≤ f ∧ f ≤ 14) := fun f hf => isF_in (((ok_iff _).1 hok).p3 f hf)
      clear eL hLY hLl o1 o2 o3 o4 hVo hr0 hk0 hkm hok hkk hrel cld1 cS1 cB1
      go_wp2_with fail
      go_loopw [12, 13] (fun v12 v13 wr => ∃ (j m : Nat) (p' : Option Addr) (c' : Nat), v13 = .int .i64 j ∧ v12 = .slice p' m c' ∧ j ≤ nR ∧ m ≤ j ∧ Hid (Rw kR wo wr (.slice p' m c') m ((R.take j).filter (fun r => decide (keyK (onD q.by') r = kk))))) (fun _ v13 _ => nR - (intOf v13).toNat)
      case atStart => exact ⟨0, 0, none, 0, rfl, rfl, by omega, by omega, Rw.nil wo⟩
      case round =>
        obtain ⟨j, m, p', c', rfl, rfl, hj1, hm1, hRw⟩ := hrel
        obtain ⟨wy, rfl⟩ : ∃ x, x = wr := ⟨wr, rfl⟩
        have hbo : Below wo.heap.size wo wy := (unhide hRw).bel
        have hVy : Below V.heap.size V wy := (unhide HVO).trans (hbo.mono (unhide HVO).size)
        obtain ⟨cB2, cS2, c62, ct2, cld2⟩ := unhide CV wy hVy
        by_cases hjl : j < nR
        · have hJ1 : (j : Int) < (nR : Int) := by omega
          have hJ3 : ¬ (j : Int) < 0 := by omega
          have hjR : j < R.length := by have := unhide HNR; omega
          obtain ⟨r, hr⟩ : ∃ r, r = R[j] := ⟨_, rfl⟩
          have hWy : Below W.heap.size W wy := (unhide HWV).trans (hVy.mono (unhide HWV).size)
          obtain ⟨bR, oR, epR, hbR, hrr0⟩ := (unhide RL wy hWy).2 j hjR
          have hrr : wy.rangeAt bR (oR + j * 9) r.vals := by rw [hr]; exact hrr0
          have LR : Hid (∀ Y, Below wy.heap.size wy Y → (ld39 (.pointer (some ⟨bR, oR + j * 9, none⟩))).run Tryz.prog Y = .ok (.agg r.arr) Y) := fun Y hY => run_ld39 (fun t u hu => (hY.cell (p := ⟨bR, oR + j * 9 + t, none⟩) hbR).trans (hrr t u hu))
          have HRO : Hid (RoOk r) := by have := unhide RO R[j] (List.getElem_mem hjR); rw [← hr] at this; exact this
          have HRJ := hide hr
          have HVY := hide hVy
          subst epR
          clear hr hrr0 hrr hbR hWy hbo hVy cB2 cS2 ct2 cld2
          go_wp2_with fail
          go_loopw [14, 15] (fun v14 v15 wr => ∃ (b' : Nat) (bb : Bool), v15 = .int .i64 b' ∧ v14 = .bool bb ∧ b' ≤ nB ∧ Hid (bb = pickN q.by' L r b' ∧ Below wy.heap.size wy wr)) (fun _ v15 _ => nB - (intOf v15).toNat)
          case atStart => exact ⟨0, true, rfl, rfl, by omega, rfl, Below.refl _ wy⟩
          case round =>
            obtain ⟨b', bb, rfl, rfl, hb1', hrel⟩ := hrel
            by_cases hbl : b' < nB
            · have hB1 : (b' : Int) < (nB : Int) := by omega
              have hB3 : ¬ (b' : Int) < 0 := by omega
              have hbq : b' < q.by'.length := by have := unhide HNB; omega
              obtain ⟨wz, rfl⟩ : ∃ x, x = wr := ⟨wr, rfl⟩
              have hyz := (unhide hrel).2
              have hVz : Below V.heap.size V wz := (unhide HVY).trans (hyz.mono (unhide HVY).size)
              have hXz : Below X.heap.size X wz := (unhide HXV).trans (hVz.mono (unhide HXV).size)
              obtain ⟨f, hf⟩ : ∃ f, f = q.by'[b'] := ⟨_, rfl⟩
              obtain ⟨bI, oI, epB, hbI, hrI0⟩ := (unhide BL wz hXz).2 b' hbq
              have hrI : wz.cell? ⟨bI, oI + b', none⟩ = some (.int .i64 f) := by
                have := hrI0 0 (.int .i64 f) (by rw [hf]; rfl)
                simpa [kI] using this
              have ORD : Hid (∀ Y, Below wz.heap.size wz Y → (Y.cell? ⟨w2.heap.size, 2, none⟩ = some (.slice (some ⟨bI, oI, none⟩) nB a'.cB) ∧ Y.cell? ⟨bI, oI + b', none⟩ = some (.int .i64 f) ∧ Y.cell? ⟨W.heap.size, 6, none⟩ = some (.slice (some ⟨bR, oR, none⟩) nR cR) ∧ (ld39 (.pointer (some ⟨bR, oR + j * 9, none⟩))).run Tryz.prog Y = .ok (.agg r.arr) Y)) := fun Y hY => by
                obtain ⟨d1, _, d3, _, _⟩ := unhide CV Y (hVz.trans (hY.mono hVz.size))
                refine ⟨by rw [d1, epB], (hY.cell (p := ⟨bI, oI + b', none⟩) hbI).trans hrI, d3, unhide LR Y (hyz.trans (hY.mono hyz.size))⟩
              obtain ⟨xn, hxn⟩ : ∃ x, x = (fwC f r).num := ⟨_, rfl⟩
              obtain ⟨xs, hxs⟩ : ∃ x, x = (fwC f r).tx := ⟨_, rfl⟩
              obtain ⟨xo, hxo⟩ : ∃ x, x = ((fwC f r).ty == 0) := ⟨_, rfl⟩
              have hf14 := unhide HF14 f (by rw [hf]; exact List.getElem_mem hbq)
              have D19 : Hid (∀ Y, Calls Tryz.prog 19 #[.int .i64 f, .agg r.arr] Y fun e w' => e = .returned (wV xn xs xo) ∧ Below Y.heap.size Y w') := fun Y => by
                rw [hxn, hxs, hxo]
                exact rfld_any f hf14.1 hf14.2 r Y (by have := (unhide HRO).acc; omega)
              have hbL : b' < L.length := by have := unhide HLL'; have := unhide HNT; omega
              obtain ⟨ln, hln⟩ : ∃ x, x = L[b'].num := ⟨_, rfl⟩
              obtain ⟨ls, hls⟩ : ∃ x, x = L[b'].tx := ⟨_, rfl⟩
              have HAL : Hid (pickN q.by' L r (b' + 1) = (bb && (!xo && (xn == ln && decide (xs = ls))))) := by
                show (pickN q.by' L r b' && alikeB (fwC (q.by'.getD b' 0) r) (L.getD b' .no)) = _
                rw [← (unhide hrel).1]
                have e1 : q.by'.getD b' 0 = f := by rw [hf, List.getD_eq_getElem?_getD, List.getElem?_eq_getElem hbq]; rfl
                have e2 : L.getD b' .no = L[b'] := by rw [List.getD_eq_getElem?_getD, List.getElem?_eq_getElem hbL]; rfl
                rw [e1, e2]
                unfold alikeB
                rw [hxn, hxs, hxo, hln, hls]
              obtain ⟨bL, oL, epL, hbL2, hx1, hx2, hx3⟩ := cell_row ((unhide HLY) V (Below.refl _ V)).2 hbL
              have LC : Hid (∀ Y, Below wz.heap.size wz Y → (Y.cell? ⟨w3.heap.size, 1, none⟩ = some (.slice (some ⟨bT, oT, none⟩) ny cy) ∧ Y.cell? ⟨bT, oT + i, none⟩ = some (.slice (some ⟨bL, oL, none⟩) nT cL) ∧ Y.cell? ⟨bL, oL + b' * 3 + 1, none⟩ = some (.int .i64 ln) ∧ Y.cell? ⟨bL, oL + b' * 3 + 2, none⟩ = some (.string ls))) := fun Y hY => by
                have hVY := hVz.trans (hY.mono hVz.size)
                obtain ⟨_, _, _, d4, _⟩ := unhide CV Y hVY
                obtain ⟨d5, d6⟩ := unhide HLY Y hVY
                obtain ⟨b2, o2, e2, _, _, d7, d8⟩ := cell_row d6 hbL
                rw [epL] at e2 d5
                cases e2
                exact ⟨d4, d5, by rw [d7, hln], by rw [d8, hls]⟩
              have hB2 : (b' : Int) < (nT : Int) := by have := unhide HNT; omega
              have c24 := (unhide ORD wz (Below.refl _ wz)).1
              have HYZ := hide hyz
              clear hx1 hx2 hx3 hf hrI0 hrI hbI hxn hxs hxo hf14 hln hls epB epL hbL2 hVz hXz hyz hrel hbq hbL c61 ct1 c62
              go_upto_region 26 with fail
              go_cut [16] (fun v16 wx => ∃ s9, v16 = .pointer (some ⟨s9, 0, none⟩) ∧ Hid (Bk wx s9 63 [.int .i64 xn, .string xs, .bool xo]) ∧ Hid (Below wz.heap.size wz wx))
              case first =>
                have hD : Below wz.heap.size wz wz.drew := below_drewN (Below.refl _ wz) 1
                have S0 := unhide ORD _ hD
                refine wp_region_last (n := 13) (S := fun W' => (W'.cell? ⟨w2.heap.size, 2, none⟩ = some (.slice (some ⟨bI, oI, none⟩) nB a'.cB) ∧ W'.cell? ⟨bI, oI + b', none⟩ = some (.int .i64 f) ∧ W'.cell? ⟨W.heap.size, 6, none⟩ = some (.slice (some ⟨bR, oR, none⟩) nR cR) ∧ (ld39 (.pointer (some ⟨bR, oR + j * 9, none⟩))).run Tryz.prog W' = .ok (.agg r.arr) W')) (by kernel_rfl) S0 (fun hHeld => ?_)
                refine tkW 0 ?_; refine tkN 1 ?_; refine tkW 2 ?_; refine tkW 3 ?_; refine tkN 4 ?_; refine tkW 5 ?_; refine tkN 6 ?_; refine tkW 7 ?_; refine tkW 8 ?_; refine tkN 9 ?_
                refine wpAnyL_two (i := 10) (j := 11) (by kernel_rfl) rfl rfl (fun KK hK => ?_) (fun KK hK => ?_)
                · go_simp
                  go_wp2_with fail
                  refine (unhide D19 _).mono ?_
                  rintro e w5 ⟨rfl, hb⟩
                  have hb5 : Below wz.heap.size wz w5 := hD.trans (hb.mono hD.size)
                  have hb6 : Below wz.heap.size wz (w5.alloc (.cells #[.int .i64 0, .string ⟨#[]⟩, .bool false] 63)) := hb5.alloc hb5.size _
                  have S1 := unhide ORD _ hb5
                  have S2 := unhide ORD _ hb6
                  obtain ⟨Y, y1, y2, y3⟩ := put63 (X := w5.alloc (.cells #[.int .i64 0, .string ⟨#[]⟩, .bool false] 63)) (n := w5.heap.size) (heap_new _ _) xn xs xo
                  have y3 := y3 wz.heap.size wz hb5.size hb6
                  have HS3 := hide (unhide ORD _ y3)
                  have HY1 := hide y1
                  have HY2 := hide y2
                  have HY3 := hide y3
                  clear hb hb5 hb6 y1 y2 y3
                  go_wp2_with fail
                  refine hK.out _ _ S1 (fun hHeld => ?_)
                  clear hK KK
                  refine wpAnyL_one (i := 11) (by kernel_rfl) rfl (fun KK hK => ?_)
                  go_simp
                  refine hK.out _ _ S2 (fun hHeld => ?_)
                  clear hK KK
                  refine wpAnyL_one (i := 12) (by kernel_rfl) rfl (fun KK hK => ?_)
                  have y1 := unhide HY1
                  go_simp
                  refine hK.out _ _ (unhide HS3) (fun hHeld => ?_)
                  clear hK KK
                  refine wpAnyL_done (by kernel_rfl) ?_
                  go_wp2_with fail
                  go_meet
                  exact ⟨_, rfl, unhide HY2, unhide HY3⟩
                · go_simp
                  have hb6 : Below wz.heap.size wz (wz.drew.alloc (.cells #[.int .i64 0, .string ⟨#[]⟩, .bool false] 63)) := hD.alloc hD.size _
                  have S2 := unhide ORD _ hb6
                  refine hK.out _ _ S2 (fun hHeld => ?_)
                  clear hK KK
                  refine wpAnyL_one (i := 10) (by kernel_rfl) rfl (fun KK hK => ?_)
                  go_simp
                  go_wp2_with fail
                  refine (unhide D19 _).mono ?_
                  rintro e w5 ⟨rfl, hb⟩
                  have hb5 : Below wz.heap.size wz w5 := hb6.trans (hb.mono (by simp))
                  have S1 := unhide ORD _ hb5
                  obtain ⟨Y, y1, y2, y3⟩ := put63 (X := w5) (n := wz.heap.size) ((hb.block wz.heap.size (by simp)).trans (heap_new wz.drew _)) xn xs xo
                  have y3 := y3 wz.heap.size wz (Nat.le_refl _) hb5
                  have HS3 := hide (unhide ORD _ y3)
                  have HY1 := hide y1
                  have HY2 := hide y2
                  have HY3 := hide y3
                  clear hb hb5 hb6 y1 y2 y3 S2
                  go_wp2_with fail
                  refine hK.out _ _ S1 (fun hHeld => ?_)
                  clear hK KK
                  refine wpAnyL_one (i := 12) (by kernel_rfl) rfl (fun KK hK => ?_)
                  have y1 := unhide HY1
                  go_simp
                  refine hK.out _ _ (unhide HS3) (fun hHeld => ?_)
                  clear hK KK
                  refine wpAnyL_done (by kernel_rfl) ?_
                  go_wp2_with fail
                  go_meet
                  exact ⟨_, rfl, unhide HY2, unhide HY3⟩
              case rest =>
                obtain ⟨s9, rfl, hb9, hBe⟩ := hcut
                have n0 : wc.cell? ⟨s9, 0, none⟩ = some (.int .i64 xn) := (unhide hb9).cell 0
                have n1 : wc.cell? ⟨s9, 1, none⟩ = some (.string xs) := (unhide hb9).cell 1
                have n2 : wc.cell? ⟨s9, 2, none⟩ = some (.bool xo) := (unhide hb9).cell 2
                obtain ⟨m1, m2, m3, m4⟩ := unhide LC wc (unhide hBe)
                have HYC : Hid (∀ n, Below wy.heap.size wy (wc.drewN n)) := fun n => below_drewN ((unhide HYZ).trans ((unhide hBe).mono (unhide HYZ).size)) n
                clear hb9 hBe LC ORD D19 c24
                cases bb
                · have HP : Hid (pickN q.by' L r (b' + 1) = false) := by rw [unhide HAL]; rfl
                  go_upto_region 27 with fail
                  go_quiet (fail)
                  go_wp2_with fail
                  refine ⟨⟨b' + 1, false, by simp, rfl, by omega, (unhide HP).symm, unhide HYC nq⟩, by simp [intOf]; omega⟩
                · cases xo
                  · by_cases hn : xn = ln
                    · by_cases hs : xs = ls
                      · subst hn
                        subst hs
                        have HP : Hid (pickN q.by' L r (b' + 1) = true) := by
                          show _ = _
                          rw [unhide HAL]; simp
                        go_upto_region 27 with fail
                        go_quiet (fail)
                        go_wp2_with fail
                        refine ⟨⟨b' + 1, true, by simp, rfl, by omega, (unhide HP).symm, unhide HYC nq⟩, by simp [intOf]; omega⟩
                      · subst hn
                        have HP : Hid (pickN q.by' L r (b' + 1) = false) := by
                          show _ = _
                          rw [unhide HAL]; simp [hs]
                        have hsb : (xs.toList == ls.toList) = false := by rw [beq_eq_false_iff_ne]; exact fun e => hs (bytes_eq e)
                        go_upto_region 27 with fail
                        go_quiet (fail)
                        go_wp2_with fail
                        refine ⟨⟨b' + 1, false, by simp, rfl, by omega, (unhide HP).symm, unhide HYC nq⟩, by simp [intOf]; omega⟩
                    · have hnb : (xn == ln) = false := by simpa using hn
                      have HP : Hid (pickN q.by' L r (b' + 1) = false) := by rw [unhide HAL]; rw [hnb]; rfl
                      go_upto_region 27 with fail
                      go_quiet (fail)
                      go_wp2_with fail
                      refine ⟨⟨b' + 1, false, by simp, rfl, by omega, (unhide HP).symm, unhide HYC nq⟩, by simp [intOf]; omega⟩
                  · have HP : Hid (pickN q.by' L r (b' + 1) = false) := by rw [unhide HAL]; rfl
                    go_upto_region 27 with fail
                    go_quiet (fail)
                    go_wp2_with fail
                    refine ⟨⟨b' + 1, false, by simp, rfl, by omega, (unhide HP).symm, unhide HYC nq⟩, by simp [intOf]; omega⟩
            · have hB4 : ¬ (b' : Int) < (nB : Int) := by omega
              have hbe : b' = q.by'.length := by have := unhide HNB; omega
              obtain ⟨wz, rfl⟩ : ∃ x, x = wr := ⟨wr, rfl⟩
              have hyz := (unhide hrel).2
              have hVz : Below V.heap.size V wz := (unhide HVY).trans (hyz.mono (unhide HVY).size)
              have hpk : bb = decide (keyK (onD q.by') r = kk) := by rw [(unhide hrel).1, hbe]; exact unhide PK r
              obtain ⟨d1, d2, d3, d4, d5⟩ := unhide CV wz hVz
              have l39 := unhide LR wz hyz
              have HTK : Hid (R.take (j + 1) = R.take j ++ [r]) := by
                show _ = _
                rw [List.take_add_one, List.getElem?_eq_getElem hjR, unhide HRJ]; rfl
              have HR2 := hide ((unhide hRw).below hyz)
              have HPK := hide hpk
              clear d2 d4 d5 hyz hVz hpk hrel hRw c61 ct1 c62 hbe
              cases bb
              · have HF : Hid ((R.take (j + 1)).filter (fun r => decide (keyK (onD q.by') r = kk)) = (R.take j).filter (fun r => decide (keyK (onD q.by') r = kk))) := by
                  show _ = _
                  rw [unhide HTK, List.filter_append, List.filter_cons, ← unhide HPK]
                  simp
                go_wp2_with fail
                refine ⟨⟨j + 1, m, p', c', by simp, rfl, by omega, by omega, ?_⟩, by simp [intOf]; omega⟩
                show Rw _ _ _ _ _ _
                rw [unhide HF]
                exact unhide HR2
              · obtain ⟨p8, c8, w8, r8, o8⟩ := (unhide HR2).put kR_ok r r.arr rfl 28 (by omega) (nat_bound (c := 2097152) (by omega) (by decide))
                have HF : Hid ((R.take (j + 1)).filter (fun r => decide (keyK (onD q.by') r = kk)) = (R.take j).filter (fun r => decide (keyK (onD q.by') r = kk)) ++ [r]) := by
                  show _ = _
                  rw [unhide HTK, List.filter_append, List.filter_cons, ← unhide HPK]
                  simp
                have HO8 := hide o8
                have HR8 := hide (show (Builtin.append_ #[28, 28] 28 #[.slice p' m c', .slice (some ⟨wz.heap.size, 0, none⟩) 1 1]).run Tryz.prog (wz.alloc (.cells r.arr 39)) = .ok (.slice p8 (m + 1) c8) w8 from r8)
                clear r8 o8 HPK HTK HRJ HRO LR HR2
                obtain ⟨i0, i1, i2, i3, s4, acc, am, s7, s8⟩ := r
                have HR8 : Hid ((Builtin.append_ #[28, 28] 28 #[.slice p' m c', .slice (some ⟨wz.heap.size, 0, none⟩) 1 1]).run Tryz.prog (wz.alloc (.cells #[.int .i64 i0, .int .i64 i1, .int .i64 i2, .int .i64 i3, .string s4, .string acc, .int .i64 am, .string s7, .string s8] 39)) = .ok (.slice p8 (m + 1) c8) w8) := HR8
                have l39a := l39
                clear l39
                have l39 : (ld39 (.pointer (some ⟨bR, oR + j * 9, none⟩))).run Tryz.prog wz = .ok (.agg #[.int .i64 i0, .int .i64 i1, .int .i64 i2, .int .i64 i3, .string s4, .string acc, .int .i64 am, .string s7, .string s8]) wz := l39a
                clear l39a
                go_wp2_with (first | (at_builtin; refine wpList_append_run rfl _ _ 28 rfl _ _ _ _ rfl rfl (unhide HR8) ?_))
                refine ⟨⟨j + 1, m + 1, p8, c8, by simp, rfl, by omega, by omega, ?_⟩, by simp [intOf]; omega⟩
                show Rw _ _ _ _ _ _
                rw [unhide HF]
                exact unhide HO8
        · have hJ4 : ¬ (j : Int) < (nR : Int) := by omega
          have hje : R.take j = R := List.take_of_length_le (by have := unhide HNR; omega)
          have eM : (R.take j).filter (fun r => decide (keyK (onD q.by') r = kk)) = rowsK q R kk := by rw [hje]; rfl
          rw [eM] at hRw
          obtain ⟨q1, cq1, eq1, hq0, hq9⟩ := row_slice (unhide hRw).row
          injection eq1 with eq1 eq2 eq3
          subst eq1
          subst eq3
          have hXy : Below X.heap.size X wy := (unhide HXV).trans (hVy.mono (unhide HXV).size)
          obtain ⟨o1, o2, o3, o4⟩ := unhide HO
          have hsub : ∀ r ∈ rowsK q R kk, r ∈ R := fun r hr => (List.mem_filter.1 hr).1
          have hlen := (unhide hRw).len
          have DT := hide (unhide TT wy hXy p' m c' (rowsK q R kk) ((unhide hRw).lies kR_ok) hlen (by omega) hsub (fun e => (hq0 e).2) o1 o2)
          obtain ⟨mm, hmm⟩ : ∃ x, x = cntN q (rowsK q R kk) := ⟨_, rfl⟩
          have DN := hide (fun w5 (hb : Below wy.heap.size wy w5) => unhide CN w5 (hXy.trans (hb.mono hXy.size)) p' m c' _ (((unhide hRw).below hb).lies kR_ok) hlen (by omega) hsub (fun e => (hq0 e).2) o3 mm hmm)
          have hmm0 : 0 < mm := by rw [hmm]; exact o4
          have hmmZ : gN + mm ≤ Z := by rw [hmm]; exact unhide HSUMZ
          have HSUM2 : Hid (((ks.take (i + 1)).map (fun k => cntN q (rowsK q R k))).sum = gN + mm) := by rw [hmm]; exact unhide HSUM
          have HVY := hide hVy
          clear hje eM hq0 hq9 eq2 hXy o1 o2 o3 o4 hsub hlen hmm hRw hbo hVy HSUM HSUMZ c61 ct1 cB2 cS2 ct2 TT CN PK
          go_wp2_with fail
          refine (unhide DT).mono ?_
          rintro e w5 ⟨p2, c2, rfl, hb5, hl5⟩
          have hV5 : Below V.heap.size V w5 := (unhide HVY).trans (hb5.mono (unhide HVY).size)
          obtain ⟨e1, e2, e3, e4, cld5⟩ := unhide CV w5 hV5
          have DN5 := hide (unhide DN w5 hb5)
          have HV5 := hide hV5
          clear e1 e2 e3 e4 hV5 hb5 DN DT c62 cld2
          go_wp2_with fail
          refine (unhide DN5).mono ?_
          rintro e w6 ⟨rfl, hb6⟩
          have HV6 : Hid (Below V.heap.size V w6) := (unhide HV5).trans (hb6.mono (unhide HV5).size)
          have hm0 : ((mm : Int) == 0) = false := by rw [beq_eq_false_iff_ne]; omega
          have HL6 := hide ((unhide hl5).below hb6)
          clear hb6 hl5 HV5 cld5 DN5
          go_wp2_with fail
          go_loopw [21] (fun v21 wr => ∃ s : Nat, v21 = .int .i64 s ∧ s ≤ nS ∧ Hid (Below w6.heap.size w6 wr)) (fun v21 _ => nS - (intOf v21).toNat)
          case atStart => exact ⟨0, rfl, by omega, Below.refl _ w6⟩
          case round =>
            obtain ⟨s, rfl, hs1, hrel⟩ := hrel
            obtain ⟨wz, rfl⟩ : ∃ x, x = wr := ⟨wr, rfl⟩
            have hVz : Below V.heap.size V wz := (unhide HV6).trans ((unhide hrel).mono (unhide HV6).size)
            by_cases hsl : s < nS
            · have hS1 : (s : Int) < (nS : Int) := by omega
              have hS3 : ¬ (s : Int) < 0 := by omega
              obtain ⟨K, hK⟩ : ∃ K, K = nB + s := ⟨_, rfl⟩
              have hKI : (nB : Int) + (s : Int) = (K : Int) := by omega
              have hK1 : (K : Int) < (nT : Int) := by have := unhide HNT; omega
              have hK3 : ¬ (K : Int) < 0 := by omega
              have hwK := wrapK K (by omega)
              have hsq : s < q.sh.length := by have := unhide HNS; omega
              have hsL : nB + s < L.length := by have := unhide HLL'; have := unhide HNT; omega
              have eC : L[nB + s] = totC q (rowsK q R kk) q.sh[s] := by
                have h1 : L[nB + s]? = some (totC q (rowsK q R kk) q.sh[s]) := by
                  have hl : (byC q kk).length = nB := by unfold byC; rw [List.length_map, unhide HNB]
                  rw [unhide HEL, List.getElem?_append_right (by omega), hl, Nat.add_sub_cancel_left, List.getElem?_map, List.getElem?_eq_getElem hsq]
                  rfl
                exact Option.some.inj ((List.getElem?_eq_getElem hsL).symm.trans h1)
              obtain ⟨cc, hcc⟩ : ∃ c, c = totC q (rowsK q R kk) q.sh[s] := ⟨_, rfl⟩
              have hLz := (unhide HL6).below (unhide hrel)
              obtain ⟨bQ, oQ, epQ, hbQ, hrQ⟩ := hLz.2 s (by rw [List.length_map]; exact hsq)
              have hrQ' : wz.rangeAt bQ (oQ + s * 3) cc.vals := by
                rw [List.getElem_map] at hrQ
                rw [hcc]; exact hrQ
              obtain ⟨d1, d2, d3, d4, d5⟩ := unhide CV wz hVz
              obtain ⟨g5, g6⟩ := unhide HLY wz hVz
              obtain ⟨bL, oL, epL, hbL, hrL⟩ := g6.2 (nB + s) hsL
              have hrL' : wz.rangeAt bL (oL + K * 3) cc.vals := by
                rw [eC] at hrL
                rw [hcc, hK]; exact hrL
              obtain ⟨ya, xa, sa⟩ := cc
              have hD : Below wz.heap.size wz wz.drew := below_drewN (Below.refl _ wz) 1
              have HS0 : Hid ((wz.drew.cell? ⟨w2.heap.size, 3, none⟩ = some (.slice a'.pS nS a'.cS)) ∧ ((ldC (.pointer (some ⟨bQ, oQ + s * 3, none⟩))).run Tryz.prog wz.drew = .ok (.agg #[.int .i64 ya, .int .i64 xa, .string sa]) wz.drew) ∧ (wz.drew.cell? ⟨w3.heap.size, 1, none⟩ = some (.slice (some ⟨bT, oT, none⟩) ny cy)) ∧ (wz.drew.cell? ⟨bT, oT + i, none⟩ = some (.slice (some ⟨bL, oL, none⟩) nT cL)) ∧ (wz.drew.cell? ⟨w2.heap.size, 2, none⟩ = some (.slice a'.pB nB a'.cB)) ∧ ((ldC (.pointer (some ⟨bL, oL + K * 3, none⟩))).run Tryz.prog wz.drew = .ok (.agg #[.int .i64 ya, .int .i64 xa, .string sa]) wz.drew)) := by
                refine ⟨d2, run_ldC (c := ⟨ya, xa, sa⟩) (fun t u hu => hrQ' t u hu), d4, by rw [← epL]; exact g5, d1, run_ldC (c := ⟨ya, xa, sa⟩) (fun t u hu => hrL' t u hu)⟩
              have HB' : Hid (∀ n, Below w6.heap.size w6 (wz.drewN n)) := fun n => below_drewN (unhide hrel) n
              have q1 := eg45
              have q2 := eq45 ya xa sa
              subst epQ
              clear hK hrQ hrQ' hrL hrL' hbQ hbL g5 g6 epL d1 d2 d3 d4 d5 hLz eC hcc hsq hsL hD hVz hrel
              go_upto_region 37 with fail
              refine wp_region_last (n := 25) (S := fun W' => ((W'.cell? ⟨w2.heap.size, 3, none⟩ = some (.slice a'.pS nS a'.cS)) ∧ ((ldC (.pointer (some ⟨bQ, oQ + s * 3, none⟩))).run Tryz.prog W' = .ok (.agg #[.int .i64 ya, .int .i64 xa, .string sa]) W') ∧ (W'.cell? ⟨w3.heap.size, 1, none⟩ = some (.slice (some ⟨bT, oT, none⟩) ny cy)) ∧ (W'.cell? ⟨bT, oT + i, none⟩ = some (.slice (some ⟨bL, oL, none⟩) nT cL)) ∧ (W'.cell? ⟨w2.heap.size, 2, none⟩ = some (.slice a'.pB nB a'.cB)) ∧ ((ldC (.pointer (some ⟨bL, oL + K * 3, none⟩))).run Tryz.prog W' = .ok (.agg #[.int .i64 ya, .int .i64 xa, .string sa]) W'))) (by kernel_rfl) (unhide HS0) (fun hHeld => ?_)
              refine tkW 0 ?_; refine tkW 1 ?_; refine tkW 2 ?_; refine tkN 3 ?_; refine tkW 4 ?_; refine tkW 5 ?_; refine tkW 6 ?_
              refine tkW 7 ?_; refine tkW 8 ?_; refine tkW 9 ?_; refine tkN 10 ?_; refine tkW 11 ?_; refine tkN 12 ?_; refine tkW 13 ?_; refine tkW 14 ?_; refine tkN 15 ?_
              refine tkW 16 ?_; refine tkN 17 ?_; refine tkW 18 ?_; refine tkW 19 ?_; refine tkW 20 ?_; refine tkW 21 ?_; refine tkN 22 ?_
              refine tkW 23 ?_; refine tkW 24 ?_
              refine wpAnyL_done (by kernel_rfl) ?_
              go_wp2_with fail
              refine ⟨⟨s + 1, by simp, by omega, unhide HB' 1⟩, by simp [intOf]; omega⟩
            · have hS6 : ¬ (s : Int) < (nS : Int) := by omega
              have HVz := hide hVz
              clear hVz hrel
              go_wp2_with fail
              refine ⟨⟨i + 1, gN + mm, by simp, by simp, by omega, by omega, by omega, (unhide HSUM2).symm, unhide HVz⟩, by simp [intOf]; omega⟩
    · have hVr := (unhide hrel).2
      have hgs := (unhide hrel).1
      obtain ⟨d1, d2, d3, d4, d5⟩ := unhide CV wr hVr
      have HOUT : Hid (Below W.heap.size W wr) := (unhide HWV).trans (hVr.mono (unhide HWV).size)
      by_cases h20 : 20 < ny
      · have hi20 : i = 20 := by omega
        have h20' : (20 : Int) < (ny : Int) := by omega
        subst hi20
        clear hVr hgs d1 d2 d3 d5 hrel
        go_wp2_with fail
        go_ret
        exact ⟨rfl, unhide HOUT⟩
      · have hin : i = ny := by omega
        have h20' : ¬ (20 : Int) < (ny : Int) := by omega
        have hgz : gN = Z := by
          rw [hgs, hin, unhide HKS, List.take_length, (unhide HG).s, unhide HZ]
        subst hin
        subst hgz
        clear hVr hgs d1 d2 d3 d5 hrel
        go_wp2_with fail
        go_ret
        exact ⟨rfl, unhide HOUT⟩
end
end Go.Proofs.YtbenciieenbmeaaGreatDoor
