import Derived.Test.YtbenciieenbmeaaGreatDoorY33
/- the law's counted (14). -/
namespace Go.Proofs.YtbenciieenbmeaaGreatDoor
open Go Go.Shelf Go.ChangeShapes Go.WideShapes Go.ChangeAt Go.RowKit Go.Maps Go.Sort
set_option linter.unusedVariables false
set_option maxRecDepth 100000
set_option maxHeartbeats 8000000
theorem scE_cases (q : Qy) (R : List Ro) : scE q R = 0 ∨ scE q R = 11 ∨ scE q R = 140 := by
  unfold scE
  split
  · split
    · exact .inr (.inl rfl)
    · exact .inl rfl
  · exact .inr (.inr rfl)
theorem tbl_rows {B : Nat} {w : World} {px py : Option Addr} {nx cx ny cy : Nat} {T : List Int} {LL : List (List Cl)} (h : TblOut B w (.agg #[.slice px nx cx, .slice py ny cy]) T LL) :
    nx = T.length ∧ ny = LL.length ∧ Lies kI w px T ∧ ∀ i (hi : i < LL.length), ∃ b off p c, py = some ⟨b, off, none⟩ ∧ b < w.heap.size ∧ w.cell? ⟨b, off + i, none⟩ = some (.slice p LL[i].length c) ∧ Lies kC w p LL[i] := by
  obtain ⟨pT, cT, pR, cR, ts, ev, ⟨h2, _⟩, ⟨h4, _⟩, h6, h7⟩ := h
  simp only [Value.agg.injEq, Array.mk.injEq, List.cons.injEq, Value.slice.injEq, and_true] at ev
  obtain ⟨⟨rfl, rfl, rfl⟩, rfl, rfl, rfl⟩ := ev
  refine ⟨rfl, rfl, h2, fun i hi => ?_⟩
  obtain ⟨p, c, e1, e2, _⟩ := h7 i hi
  have hit : i < ts.length := by omega
  obtain ⟨b, off, e, hlt, hr⟩ := h4.2 i hit
  have hts : ts[i] = (p, LL[i].length, c) := by
    have := List.getElem?_eq_getElem hit
    rw [this] at e1
    exact Option.some.inj e1
  have := hr 0 (.slice p LL[i].length c) (by rw [hts]; rfl)
  have e3 : (⟨b, off + i * kS.s + 0, none⟩ : Addr) = ⟨b, off + i, none⟩ := by simp [kS]
  rw [e3] at this
  exact ⟨b, off, p, c, e, hlt, this, e2⟩
theorem cell_row {w : World} {p : Option Addr} {L : List Cl} (h : Lies kC w p L) {k : Nat} (hk : k < L.length) : ∃ b off, p = some ⟨b, off, none⟩ ∧ b < w.heap.size ∧ w.cell? ⟨b, off + k * 3, none⟩ = some (.int .i64 L[k].ty) ∧ w.cell? ⟨b, off + k * 3 + 1, none⟩ = some (.int .i64 L[k].num) ∧ w.cell? ⟨b, off + k * 3 + 2, none⟩ = some (.string L[k].tx) := by
  obtain ⟨b, off, e, hlt, hr⟩ := h.2 k hk
  exact ⟨b, off, e, hlt, hr 0 _ rfl, hr 1 _ rfl, hr 2 _ rfl⟩
noncomputable def cnB (q : Qy) (R : List Ro) : Bool := decide (scE (cq q) R = 0)
noncomputable def cnV (q : Qy) (R : List Ro) : Int := if scE (cq q) R = 0 then (cntN q R : Int) else 0
section
attribute [local go_sem ↓] ld32_is
theorem counted_any {W : World} {q : Qy} {a : Qa} {pR : Option Addr} {cR : Nat} {R : List Ro} (h : ScIq W q a pR R) (hc : QCp a) (hcR : pR = none → cR = 0) :
    Calls Tryz.prog 14 #[qV q a, .slice pR R.length cR] W fun e w' => e = .returned (.tuple #[.int .i64 (cnV q R), .bool (cnB q R)]) ∧ Below W.heap.size W w' := by
  obtain ⟨A, hA⟩ : ∃ A, A = W.alloc (.cells (qC q a).toArray 27) := ⟨_, rfl⟩
  have hBA : Below W.heap.size W A := by rw [hA]; exact Below.a1 W _
  have b27 : Bk A W.heap.size 27 (qC q a) := by show A.heap[_]? = _; rw [hA]; exact heap_new _ _
  have l27 : (ld32 (.pointer (some ⟨W.heap.size, 0, none⟩))).run Tryz.prog A = .ok (.agg #[.slice a.pN q.nodes.length a.cN, .int .i64 q.wh, .slice a.pB q.by'.length a.cB, .slice a.pS q.sh.length a.cS, .slice a.pO q.ords.length a.cO, .int .i64 q.lim]) A := run_ld32 (fun j u hu => by rw [b27.cell, Nat.zero_add]; exact hu)
  obtain ⟨nR, hnR⟩ : ∃ n, n = R.length := ⟨_, rfl⟩
  obtain ⟨nN, hnN⟩ : ∃ n, n = q.nodes.length := ⟨_, rfl⟩
  obtain ⟨E, hE⟩ : ∃ E, E = scE (cq q) R := ⟨_, rfl⟩
  have D13 : Hid (Calls Tryz.prog 13 #[.agg #[.slice a.pN nN a.cN, .int .i64 q.wh, .slice a.pB q.by'.length a.cB, .slice a.pS q.sh.length a.cS, .slice a.pO q.ords.length a.cO, .int .i64 q.lim]] A fun e w' => ∃ a', e = .returned (.agg #[.slice a'.pN nN a'.cN, .int .i64 q.wh, .slice a'.pB q.by'.length a'.cB, .slice a'.pS q.sh.length a'.cS, .slice a'.pO q.ords.length a'.cO, .int .i64 q.lim]) ∧ Hid (Twn A w' q a')) := by rw [hnN]; exact copied_any (h.qi.below hBA) hc
  have hRl : R.length < 4294967296 := by have := h.rn; omega
  have NX : Hid (∀ w1 a', Twn A w1 q a' → ∀ X, X = (w1.alloc (.cells #[.slice a'.pN nN a'.cN, .int .i64 q.wh, .slice none 0 0, .slice (some ⟨w1.heap.size + 1, 0, none⟩) 1 1, .slice none 0 0, .int .i64 (-1)] 27)).alloc (.cells #[.int .i64 1, .int .i64 (-1)] 56) → (ld32 (.pointer (some ⟨w1.heap.size, 0, none⟩))).run Tryz.prog X = .ok (.agg #[.slice a'.pN nN a'.cN, .int .i64 q.wh, .slice none 0 0, .slice (some ⟨w1.heap.size + 1, 0, none⟩) 1 1, .slice none 0 0, .int .i64 (-1)]) X ∧ (Calls Tryz.prog 10 #[.agg #[.slice a'.pN nN a'.cN, .int .i64 q.wh, .slice none 0 0, .slice (some ⟨w1.heap.size + 1, 0, none⟩) 1 1, .slice none 0 0, .int .i64 (-1)], .slice pR nR cR] X fun e w2 => ∃ px nx cx py ny cy T LL, e = .returned (.tuple #[.agg #[.slice px nx cx, .slice py ny cy], .int .i64 E]) ∧ Below W.heap.size W w2 ∧ Hid (TblOut X.heap.size w2 (.agg #[.slice px nx cx, .slice py ny cy]) T LL ∧ ScT (cq q) R T LL))) := fun w1 a' ht X hX => by
    rw [hnN] at hX ⊢
    have hb1 : Below W.heap.size W w1 := hBA.trans (ht.n.bel.mono hBA.size)
    have hbX : Below w1.heap.size w1 X := by rw [hX]; exact Below.a2 w1 _ _
    have hbWX : Below W.heap.size W X := hb1.trans (hbX.mono hb1.size)
    have bq : Bk X w1.heap.size 27 (qC (cq q) ⟨a'.pN, a'.cN, none, 0, some ⟨w1.heap.size + 1, 0, none⟩, 1, none, 0⟩) := by
      show X.heap[_]? = _
      rw [hX, Below.heap_alloc _ _ _ (by simp)]
      exact heap_new _ _
    have bs : Bk X (w1.heap.size + 1) 56 (kG.flat [((1 : Int), (-1 : Int))]) := by
      show X.heap[_]? = _
      rw [hX]
      exact blk_at (by simp)
    have hS : ScIq X (cq q) ⟨a'.pN, a'.cN, none, 0, some ⟨w1.heap.size + 1, 0, none⟩, 1, none, 0⟩ pR R := {
      fl := h.fl.below hbWX, mon := h.mon.below hbWX, rc := h.rc.below hbWX, mx := h.mx.below hbWX (by have := h.six; omega), six := by have := h.six; have := hbWX.size; omega
      qi := ⟨(ht.n.lies kN_ok).below hbX, ⟨fun _ => rfl, fun k hk => by cases hk⟩, lies_bk kG_ok bs, ⟨fun _ => rfl, fun k hk => by cases hk⟩, h.qi.nn, by show 0 ≤ _; omega, by show 1 ≤ _; omega, by show 0 ≤ _; omega⟩
      nn := h.nn, nb := by show 0 ≤ _; omega, ns := by show 1 ≤ _; omega, no := by show 0 ≤ _; omega
      nd := h.nd
      sI := fun x hx => by
        have h2 : x = (1, -1) := by simpa [cq] using hx
        subst h2
        exact ⟨⟨by decide, by decide⟩, ⟨by decide, by decide⟩⟩
      lI := ⟨by show (_ : Int) ≤ -1; decide, by show (-1 : Int) ≤ _; decide⟩
      rl := h.rl.below hbWX, rn := h.rn, ro := h.ro }
    have hQ : QCp ⟨a'.pN, a'.cN, none, 0, some ⟨w1.heap.size + 1, 0, none⟩, 1, none, 0⟩ := by
      refine ⟨fun e => ?_, fun _ => rfl, fun e => (by cases e), fun _ => rfl⟩
      obtain ⟨p2, c2, e2, hp0, _⟩ := row_slice ht.n.row
      injection e2 with e2 _ e3
      have e2' : a'.pN = p2 := e2
      have e3' : a'.cN = c2 := e3
      show a'.cN = 0
      rw [e3']
      exact (hp0 (e2'.symm.trans e)).2
    refine ⟨run_ld32 (q := cq q) (a := ⟨a'.pN, a'.cN, none, 0, some ⟨w1.heap.size + 1, 0, none⟩, 1, none, 0⟩) (fun j u hu => by rw [bq.cell, Nat.zero_add]; exact hu), ?_⟩
    have D := lscan_any (cR := cR) hS hQ hcR
    rw [← hnR] at D
    refine Calls.mono (show Calls Tryz.prog 10 _ X _ from D) fun e w2 ho => ?_
    obtain ⟨px, nx, cx, py, ny, cy, T, LL, e1, e2, e3⟩ := ho.tab
    exact ⟨px, nx, cx, py, ny, cy, T, LL, by rw [hE]; exact e1, hbWX.trans (e2.mono hbWX.size), e3⟩
  have HA : Hid (A = (W.alloc (.cells #[.slice a.pN nN a.cN, .int .i64 q.wh, .slice a.pB q.by'.length a.cB, .slice a.pS q.sh.length a.cS, .slice a.pO q.ords.length a.cO, .int .i64 q.lim] 27))) := by rw [hnN]; exact hA
  rw [← hnR]
  show Calls Tryz.prog 14 #[.agg #[.slice a.pN q.nodes.length a.cN, .int .i64 q.wh, .slice a.pB q.by'.length a.cB, .slice a.pS q.sh.length a.cS, .slice a.pO q.ords.length a.cO, .int .i64 q.lim], .slice pR nR cR] W _
  rw [← hnN]
  rw [← hnN] at l27
  have HE := hide hE
  have HRL := hide hRl
  have HNN := hide hnN
  clear h hc hcR hA hBA b27 hnR hE hRl hnN
  go_enter Tryz.func14, Tryz.ntmps14
  go_upto_region 1 with fail
  rw [← unhide HA]
  go_wp2_with fail
  refine (unhide D13).mono ?_
  rintro e w1 ⟨a', rfl, ht⟩
  obtain ⟨X, hX⟩ : ∃ X, X = (w1.alloc (.cells #[.slice a'.pN nN a'.cN, .int .i64 q.wh, .slice none 0 0, .slice (some ⟨w1.heap.size + 1, 0, none⟩) 1 1, .slice none 0 0, .int .i64 (-1)] 27)).alloc (.cells #[.int .i64 1, .int .i64 (-1)] 56) := ⟨_, rfl⟩
  obtain ⟨lX, DX⟩ := unhide NX w1 a' (unhide ht) X hX
  have HDX := hide DX
  have HX := hide hX
  clear D13 NX ht DX hX l27
  go_upto_region 6 with fail
  rw [← unhide HX]
  clear HX
  go_wp2_with fail
  refine (unhide HDX).mono ?_
  rintro e w2 ⟨px, nx, cx, py, ny, cy, T, LL, rfl, hb2, ht⟩
  obtain ⟨Z, hZ⟩ : ∃ Z, Z = w2.alloc (.cells #[.slice px nx cx, .slice py ny cy] 34) := ⟨_, rfl⟩
  have hBZ : Below w2.heap.size w2 Z := by rw [hZ]; exact Below.a1 w2 _
  have bz : Bk Z w2.heap.size 34 [.slice px nx cx, .slice py ny cy] := by show Z.heap[_]? = _; rw [hZ]; exact heap_new _ _
  have HBZ : Hid (Below W.heap.size W Z) := hb2.trans (hBZ.mono hb2.size)
  have z1 : Z.cell? ⟨w2.heap.size, 1, none⟩ = some (.slice py ny cy) := bz.cell 1
  have HZ := hide hZ
  have hEc := scE_cases (cq q) R
  rw [← unhide HE] at hEc
  rcases hEc with e0 | e1
  · have hE0 : scE (cq q) R = 0 := (unhide HE).symm.trans e0
    obtain ⟨eT, eL⟩ := cq_T (unhide HRL) hE0 (unhide ht).2
    obtain ⟨t1, t2, _, t4⟩ := tbl_rows ((unhide ht).1.below hBZ)
    subst eT
    subst eL
    obtain ⟨b, off, p, c, r1, r2, r3, r4⟩ := t4 0 (by simp)
    obtain ⟨b2, off2, s1, _, _, s3, _⟩ := cell_row r4 (k := 0) (by simp)
    have hcv : cnV q R = (cntN q R : Int) := by unfold cnV; rw [if_pos hE0]
    have hcb : cnB q R = true := by unfold cnB; rw [hE0]; rfl
    have u3 : Z.cell? ⟨b2, off2 + 1, none⟩ = some (.int .i64 (cnV q R)) := by rw [hcv]; simpa using s3
    have r3' : Z.cell? ⟨b, off, none⟩ = some (.slice p 1 c) := by simpa using r3
    have t2' : ny = 1 := by simpa using t2
    subst e0
    subst s1
    subst r1
    subst t2'
    obtain ⟨V, hV⟩ : ∃ V, V = cnV q R := ⟨_, rfl⟩
    rw [← hV] at u3
    have HO := hide (show Ending.returned (.tuple #[.int .i64 V, .bool true]) = .returned (.tuple #[.int .i64 (cnV q R), .bool (cnB q R)]) from by rw [hcb, hV])
    clear hZ hBZ bz ht t1 t2 t4 r2 r3 r4 s3 hcv hcb hV hb2 hE0 HDX lX HE
    go_upto_region 7 with fail
    rw [← unhide HZ]
    go_wp2_with fail
    refine bodyPost_ret (results_tt Tryz.results14 rfl rfl) rfl ?_
    exact ⟨unhide HO, unhide HBZ⟩
  · have hE0 : ¬ scE (cq q) R = 0 := by rw [← unhide HE]; rcases e1 with e | e <;> (rw [e]; decide)
    have hcv : cnV q R = 0 := by unfold cnV; rw [if_neg hE0]
    have hcb : cnB q R = false := by unfold cnB; simpa using hE0
    have HO := hide (show Ending.returned (.tuple #[.int .i64 0, .bool false]) = .returned (.tuple #[.int .i64 (cnV q R), .bool (cnB q R)]) from by rw [hcb, hcv])
    clear hZ hBZ bz ht hb2 hE0 HDX lX HE hcv hcb
    rcases e1 with rfl | rfl
    all_goals
      go_upto_region 7 with fail
      rw [← unhide HZ]
      go_wp2_with fail
      refine bodyPost_ret (results_tt Tryz.results14 rfl rfl) rfl ?_
      exact ⟨unhide HO, unhide HBZ⟩
end
end Go.Proofs.YtbenciieenbmeaaGreatDoor
/- AnswerLimit: limits, and groups that rise (no program in it). -/
namespace Go.Proofs.YtbenciieenbmeaaGreatDoor
open Go Go.Shelf Go.ChangeShapes Go.WideShapes Go.ChangeAt Go.RowKit Go.Maps Go.Sort
set_option linter.unusedVariables false
set_option maxRecDepth 100000
set_option maxHeartbeats 4000000
end Go.Proofs.YtbenciieenbmeaaGreatDoor
/- AnswerLimit (4): its walk. -/
namespace Go.Proofs.YtbenciieenbmeaaGreatDoor
open Go Go.Shelf Go.ChangeShapes Go.WideShapes Go.ChangeAt Go.RowKit Go.Maps Go.Sort
set_option linter.unusedVariables false
set_option maxRecDepth 100000
set_option maxHeartbeats 8000000
theorem row_cap0 {w : World} {B e s n : Nat} {p : Option Addr} {c : Nat} {xs : List Value} (h : w.ownsRow B e s (.slice p n c) n xs) (e0 : p = none) : c = 0 := by
  obtain ⟨p2, c2, e2, hp0, _⟩ := row_slice h
  injection e2 with e2 _ e3
  subst e2
  subst e3
  exact (hp0 e0).2
theorem Twn.qcp {w w' : World} {q : Qy} {a : Qa} (h : Twn w w' q a) : QCp a := ⟨row_cap0 h.n.row, row_cap0 h.b.row, row_cap0 h.s.row, row_cap0 h.o.row⟩
theorem Twn.qin {w w' : World} {q : Qy} {a : Qa} (h : Twn w w' q a) (hn : q.nodes.length ≤ 2600000000000 ∧ q.by'.length ≤ 17600000000000 ∧ q.sh.length ≤ 8800000000000 ∧ q.ords.length ≤ 8800000000000) : QIn w' q a := ⟨h.n.lies kN_ok, h.b.lies kI_ok, h.s.lies kG_ok, h.o.lies kO_ok, hn.1, hn.2.1, hn.2.2.1, hn.2.2.2⟩
theorem Lies.take' {α : Type} {K : Kd α} {W : World} {p : Option Addr} {L : List α} (h : Lies K W p L) (k : Nat) : Lies K W p (L.take k) := by
  refine ⟨fun e => by rw [h.1 e]; simp, fun i hi => ?_⟩
  have hi' : i < L.length := by rw [List.length_take] at hi; omega
  obtain ⟨b, off, e, hlt, hr⟩ := h.2 i hi'
  refine ⟨b, off, e, hlt, ?_⟩
  rw [List.getElem_take]
  exact hr
theorem TblOut.take {B : Nat} {w : World} {px py : Option Addr} {nx cx ny cy : Nat} {T : List Int} {LL : List (List Cl)} (h : TblOut B w (.agg #[.slice px nx cx, .slice py ny cy]) T LL) {k : Nat} (hk : k ≤ LL.length) : TblOut B w (.agg #[.slice px nx cx, .slice py k cy]) T (LL.take k) := by
  obtain ⟨pT, cT, pR, cR, ts, ev, h2, ⟨h4, h5⟩, h6, h7⟩ := h
  simp only [Value.agg.injEq, Array.mk.injEq, List.cons.injEq, Value.slice.injEq, and_true] at ev
  obtain ⟨⟨rfl, rfl, rfl⟩, rfl, rfl, rfl⟩ := ev
  have el : (LL.take k).length = k := by rw [List.length_take]; omega
  refine ⟨px, cx, py, cy, ts.take k, by rw [el], h2, ⟨h4.take' k, h5.1, by have := h5.2; rw [el]; omega⟩, by rw [List.length_take, List.length_take, h6], fun i hi => ?_⟩
  have hik : i < k := by omega
  obtain ⟨p, c, e1, e2, e3⟩ := h7 i (by omega)
  have e4 : (LL.take k)[i] = LL[i] := List.getElem_take
  rw [e4]
  exact ⟨p, c, by rw [List.getElem?_take, if_pos hik]; exact e1, e2, e3⟩
section
attribute [local go_sem ↓] ld32_is ld34_is ldC_is
end
end Go.Proofs.YtbenciieenbmeaaGreatDoor
