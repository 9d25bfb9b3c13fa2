import Derived.Test.YtbenciieenbmeaaGreatDoorW33
/- the law's counted (14). -/
namespace Go.Proofs.YtbenciieenbmeaaGreatDoor
open Go Go.Shelf Go.ChangeShapes Go.WideShapes Go.ChangeAt Go.RowKit Go.Maps Go.Sort
set_option linter.unusedVariables false
set_option maxRecDepth 100000
set_option maxHeartbeats 8000000
theorem scE_cases (q : Qy) (R : List Ro) : scE q R = 0 ∨ scE q R = 11 ∨ scE q R = 140 := by
  unfold scE
  split
  · split
    · exact .inr (.inl rfl)
    · exact .inl rfl
  · exact .inr (.inr rfl)
theorem tbl_rows {B : Nat} {w : World} {px py : Option Addr} {nx cx ny cy : Nat} {T : List Int} {LL : List (List Cl)} (h : TblOut B w (.agg #[.slice px nx cx, .slice py ny cy]) T LL) :
    nx = T.length ∧ ny = LL.length ∧ Lies kI w px T ∧ ∀ i (hi : i < LL.length), ∃ b off p c, py = some ⟨b, off, none⟩ ∧ b < w.heap.size ∧ w.cell? ⟨b, off + i, none⟩ = some (.slice p LL[i].length c) ∧ Lies kC w p LL[i] := by
  obtain ⟨pT, cT, pR, cR, ts, ev, ⟨h2, _⟩, ⟨h4, _⟩, h6, h7⟩ := h
  simp only [Value.agg.injEq, Array.mk.injEq, List.cons.injEq, Value.slice.injEq, and_true] at ev
  obtain ⟨⟨rfl, rfl, rfl⟩, rfl, rfl, rfl⟩ := ev
  refine ⟨rfl, rfl, h2, fun i hi => ?_⟩
  obtain ⟨p, c, e1, e2, _⟩ := h7 i hi
  have hit : i < ts.length := by omega
  obtain ⟨b, off, e, hlt, hr⟩ := h4.2 i hit
  have hts : ts[i] = (p, LL[i].length, c) := by
    have := List.getElem?_eq_getElem hit
    rw [this] at e1
    exact Option.some.inj e1
  have := hr 0 (.slice p LL[i].length c) (by rw [hts]; rfl)
  have e3 : (⟨b, off + i * kS.s + 0, none⟩ : Addr) = ⟨b, off + i, none⟩ := by simp [kS]
  rw [e3] at this
  exact ⟨b, off, p, c, e, hlt, this, e2⟩
theorem cell_row {w : World} {p : Option Addr} {L : List Cl} (h : Lies kC w p L) {k : Nat} (hk : k < L.length) : ∃ b off, p = some ⟨b, off, none⟩ ∧ b < w.heap.size ∧ w.cell? ⟨b, off + k * 3, none⟩ = some (.int .i64 L[k].ty) ∧ w.cell? ⟨b, off + k * 3 + 1, none⟩ = some (.int .i64 L[k].num) ∧ w.cell? ⟨b, off + k * 3 + 2, none⟩ = some (.string L[k].tx) := by
  obtain ⟨b, off, e, hlt, hr⟩ := h.2 k hk
  exact ⟨b, off, e, hlt, hr 0 _ rfl, hr 1 _ rfl, hr 2 _ rfl⟩
noncomputable def cnB (q : Qy) (R : List Ro) : Bool := decide (scE (cq q) R = 0)
noncomputable def cnV (q : Qy) (R : List Ro) : Int := if scE (cq q) R = 0 then (cntN q R : Int) else 0
section
attribute [local go_sem ↓] ld32_is
theorem counted_any {W : World} {q : Qy} {a : Qa} {pR : Option Addr} {cR : Nat} {R : List Ro} (h : ScIq W q a pR R) (hc : QCp a) (hcR : pR = none → cR = 0) :
    Calls Tryz.prog 14 #[qV q a, .slice pR R.length cR] W fun e w' => e = .returned (.tuple #[.int .i64 (cnV q R), .bool (cnB q R)]) ∧ Below W.heap.size W w' := by
  obtain ⟨A, hA⟩ : ∃ A, A = W.alloc (.cells (qC q a).toArray 27) := ⟨_, rfl⟩
  have hBA : Below W.heap.size W A := by rw [hA]; exact Below.a1 W _
  have b27 : Bk A W.heap.size 27 (qC q a) := by show A.heap[_]? = _; rw [hA]; exact heap_new _ _
  have l27 : (ld32 (.pointer (some ⟨W.heap.size, 0, none⟩))).run Tryz.prog A = .ok (.agg #[.slice a.pN q.nodes.length a.cN, .int .i64 q.wh, .slice a.pB q.by'.length a.cB, .slice a.pS q.sh.length a.cS, .slice a.pO q.ords.length a.cO, .int .i64 q.lim]) A := run_ld32 (fun j u hu => by rw [b27.cell, Nat.zero_add]; exact hu)
  obtain ⟨nR, hnR⟩ : ∃ n, n = R.length := ⟨_, rfl⟩
  obtain ⟨nN, hnN⟩ : ∃ n, n = q.nodes.length := ⟨_, rfl⟩
  obtain ⟨E, hE⟩ : ∃ E, E = scE (cq q) R := ⟨_, rfl⟩
  have D13 : Hid (Calls Tryz.prog 13 #[.agg #[.slice a.pN nN a.cN, .int .i64 q.wh, .slice a.pB q.by'.length a.cB, .slice a.pS q.sh.length a.cS, .slice a.pO q.ords.length a.cO, .int .i64 q.lim]] A fun e w' => ∃ a', e = .returned (.agg #[.slice a'.pN nN a'.cN, .int .i64 q.wh, .slice a'.pB q.by'.length a'.cB, .slice a'.pS q.sh.length a'.cS, .slice a'.pO q.ords.length a'.cO, .int .i64 q.lim]) ∧ Hid (Twn A w' q a')) := by rw [hnN]; exact copied_any (h.qi.below hBA) hc
  have hRl : R.length < 4294967296 := by have := h.rn; omega
  have NX : Hid (∀ w1 a', Twn A w1 q a' → ∀ X, X = (w1.alloc (.cells #[.slice a'.pN nN a'.cN, .int .i64 q.wh, .slice none 0 0, .slice (some ⟨w1.heap.size + 1, 0, none⟩) 1 1, .slice none 0 0, .int .i64 (-1)] 27)).alloc (.cells #[.int .i64 1, .int .i64 (-1)] 56) → (ld32 (.pointer (some ⟨w1.heap.size, 0, none⟩))).run Tryz.prog X = .ok (.agg #[.slice a'.pN nN a'.cN, .int .i64 q.wh, .slice none 0 0, .slice (some ⟨w1.heap.size + 1, 0, none⟩) 1 1, .slice none 0 0, .int .i64 (-1)]) X ∧ (Calls Tryz.prog 10 #[.agg #[.slice a'.pN nN a'.cN, .int .i64 q.wh, .slice none 0 0, .slice (some ⟨w1.heap.size + 1, 0, none⟩) 1 1, .slice none 0 0, .int .i64 (-1)], .slice pR nR cR] X fun e w2 => ∃ px nx cx py ny cy T LL, e = .returned (.tuple #[.agg #[.slice px nx cx, .slice py ny cy], .int .i64 E]) ∧ Below W.heap.size W w2 ∧ Hid (TblOut X.heap.size w2 (.agg #[.slice px nx cx, .slice py ny cy]) T LL ∧ ScT (cq q) R T LL))) := fun w1 a' ht X hX => by
    rw [hnN] at hX ⊢
    have hb1 : Below W.heap.size W w1 := hBA.trans (ht.n.bel.mono hBA.size)
    have hbX : Below w1.heap.size w1 X := by rw [hX]; exact Below.a2 w1 _ _
    have hbWX : Below W.heap.size W X := hb1.trans (hbX.mono hb1.size)
    have bq : Bk X w1.heap.size 27 (qC (cq q) ⟨a'.pN, a'.cN, none, 0, some ⟨w1.heap.size + 1, 0, none⟩, 1, none, 0⟩) := by
      show X.heap[_]? = _
      rw [hX, Below.heap_alloc _ _ _ (by simp)]
      exact heap_new _ _
    have bs : Bk X (w1.heap.size + 1) 56 (kG.flat [((1 : Int), (-1 : Int))]) := by
      show X.heap[_]? = _
      rw [hX]
      exact blk_at (by simp)
    have hS : ScIq X (cq q) ⟨a'.pN, a'.cN, none, 0, some ⟨w1.heap.size + 1, 0, none⟩, 1, none, 0⟩ pR R := {
      fl := h.fl.below hbWX, mon := h.mon.below hbWX, rc := h.rc.below hbWX, mx := h.mx.below hbWX (by have := h.six; omega), six := by have := h.six; have := hbWX.size; omega
      qi := ⟨(ht.n.lies kN_ok).below hbX, ⟨fun _ => rfl, fun k hk => by cases hk⟩, lies_bk kG_ok bs, ⟨fun _ => rfl, fun k hk => by cases hk⟩, h.qi.nn, by show 0 ≤ _; omega, by show 1 ≤ _; omega, by show 0 ≤ _; omega⟩
      nn := h.nn, nb := by show 0 ≤ _; omega, ns := by show 1 ≤ _; omega, no := by show 0 ≤ _; omega
      nd := h.nd
      sI := fun x hx => by
        have h2 : x = (1, -1) := by simpa [cq] using hx
        subst h2
        exact ⟨⟨by decide, by decide⟩, ⟨by decide, by decide⟩⟩
      lI := ⟨by show (_ : Int) ≤ -1; decide, by show (-1 : Int) ≤ _; decide⟩
      rl := h.rl.below hbWX, rn := h.rn, ro := h.ro }
    have hQ : QCp ⟨a'.pN, a'.cN, none, 0, some ⟨w1.heap.size + 1, 0, none⟩, 1, none, 0⟩ := by
      refine ⟨fun e => ?_, fun _ => rfl, fun e => (by cases e), fun _ => rfl⟩
      obtain ⟨p2, c2, e2, hp0, _⟩ := row_slice ht.n.row
      injection e2 with e2 _ e3
      have e2' : a'.pN = p2 := e2
      have e3' : a'.cN = c2 := e3
      show a'.cN = 0
      rw [e3']
      exact (hp0 (e2'.symm.trans e)).2
    refine ⟨run_ld32 (q := cq q) (a := ⟨a'.pN, a'.cN, none, 0, some ⟨w1.heap.size + 1, 0, none⟩, 1, none, 0⟩) (fun j u hu => by rw [bq.cell, Nat.zero_add]; exact hu), ?_⟩
    have D := lscan_any (cR := cR) hS hQ hcR
    rw [← hnR] at D
    refine Calls.mono (show Calls Tryz.prog 10 _ X _ from D) fun e w2 ho => ?_
    obtain ⟨px, nx, cx, py, ny, cy, T, LL, e1, e2, e3⟩ := ho.tab
    exact ⟨px, nx, cx, py, ny, cy, T, LL, by rw [hE]; exact e1, hbWX.trans (e2.mono hbWX.size), e3⟩
  have HA : Hid (A = (W.alloc (.cells #[.slice a.pN nN a.cN, .int .i64 q.wh, .slice a.pB q.by'.length a.cB, .slice a.pS q.sh.length a.cS, .slice a.pO q.ords.length a.cO, .int .i64 q.lim] 27))) := by rw [hnN]; exact hA
  rw [← hnR]
  show Calls Tryz.prog 14 #[.agg #[.slice a.pN q.nodes.length a.cN, .int .i64 q.wh, .slice a.pB q.by'.length a.cB, .slice a.pS q.sh.length a.cS, .slice a.pO q.ords.length a.cO, .int .i64 q.lim], .slice pR nR cR] W _
  rw [← hnN]
  rw [← hnN] at l27
  have HE := hide hE
  have HRL := hide hRl
  have HNN := hide hnN
  clear h hc hcR hA hBA b27 hnR hE hRl hnN
  go_enter Tryz.func14, Tryz.ntmps14
  go_upto_region 1 with fail
  rw [← unhide HA]
  go_wp2_with fail
  refine (unhide D13).mono ?_
  rintro e w1 ⟨a', rfl, ht⟩
  obtain ⟨X, hX⟩ : ∃ X, X = (w1.alloc (.cells #[.slice a'.pN nN a'.cN, .int .i64 q.wh, .slice none 0 0, .slice (some ⟨w1.heap.size + 1, 0, none⟩) 1 1, .slice none 0 0, .int .i64 (-1)] 27)).alloc (.cells #[.int .i64 1, .int .i64 (-1)] 56) := ⟨_, rfl⟩
  obtain ⟨lX, DX⟩ := unhide NX w1 a' (unhide ht) X hX
  have HDX := hide DX
  have HX := hide hX
  clear D13 NX ht DX hX l27
  go_upto_region 6 with fail
  rw [← unhide HX]
  clear HX
  go_wp2_with fail
  refine (unhide HDX).mono ?_
  rintro e w2 ⟨px, nx, cx, py, ny, cy, T, LL, rfl, hb2, ht⟩
  obtain ⟨Z, hZ⟩ : ∃ Z, Z = w2.alloc (.cells #[.slice px nx cx, .slice py ny cy] 34) := ⟨_, rfl⟩
  have hBZ : Below w2.heap.size w2 Z := by rw [hZ]; exact Below.a1 w2 _
  have bz : Bk Z w2.heap.size 34 [.slice px nx cx, .slice py ny cy] := by show Z.heap[_]? = _; rw [hZ]; exact heap_new _ _
  have HBZ : Hid (Below W.heap.size W Z) := hb2.trans (hBZ.mono hb2.size)
  have z1 : Z.cell? ⟨w2.heap.size, 1, none⟩ = some (.slice py ny cy) := bz.cell 1
  have HZ := hide hZ
  have hEc := scE_cases (cq q) R
  rw [← unhide HE] at hEc
  rcases hEc with e0 | e1
  · have hE0 : scE (cq q) R = 0 := (unhide HE).symm.trans e0
    obtain ⟨eT, eL⟩ := cq_T (unhide HRL) hE0 (unhide ht).2
    obtain ⟨t1, t2, _, t4⟩ := tbl_rows ((unhide ht).1.below hBZ)
    subst eT
    subst eL
    obtain ⟨b, off, p, c, r1, r2, r3, r4⟩ := t4 0 (by simp)
    obtain ⟨b2, off2, s1, _, _, s3, _⟩ := cell_row r4 (k := 0) (by simp)
    have hcv : cnV q R = (cntN q R : Int) := by unfold cnV; rw [if_pos hE0]
    have hcb : cnB q R = true := by unfold cnB; rw [hE0]; rfl
    have u3 : Z.cell? ⟨b2, off2 + 1, none⟩ = some (.int .i64 (cnV q R)) := by rw [hcv]; simpa using s3
    have r3' : Z.cell? ⟨b, off, none⟩ = some (.slice p 1 c) := by simpa using r3
    have t2' : ny = 1 := by simpa using t2
    subst e0
    subst s1
    subst r1
    subst t2'
    obtain ⟨V, hV⟩ : ∃ V, V = cnV q R := ⟨_, rfl⟩
    rw [← hV] at u3
    have HO := hide (show Ending.returned (.tuple #[.int .i64 V, .bool true]) = .returned (.tuple #[.int .i64 (cnV q R), .bool (cnB q R)]) from by rw [hcb, hV])
    clear hZ hBZ bz ht t1 t2 t4 r2 r3 r4 s3 hcv hcb hV hb2 hE0 HDX lX HE
    go_upto_region 7 with fail
    rw [← unhide HZ]
    go_wp2_with fail
    refine bodyPost_ret (results_tt Tryz.results14 rfl rfl) rfl ?_
    exact ⟨unhide HO, unhide HBZ⟩
  · have hE0 : ¬ scE (cq q) R = 0 := by rw [← unhide HE]; rcases e1 with e | e <;> (rw [e]; decide)
    have hcv : cnV q R = 0 := by unfold cnV; rw [if_neg hE0]
    have hcb : cnB q R = false := by unfold cnB; simpa using hE0
    have HO := hide (show Ending.returned (.tuple #[.int .i64 0, .bool false]) = .returned (.tuple #[.int .i64 (cnV q R), .bool (cnB q R)]) from by rw [hcb, hcv])
    clear hZ hBZ bz ht hb2 hE0 HDX lX HE hcv hcb
    rcases e1 with rfl | rfl
    all_goals
      go_upto_region 7 with fail
      rw [← unhide HZ]
      go_wp2_with fail
      refine bodyPost_ret (results_tt Tryz.results14 rfl rfl) rfl ?_
      exact ⟨unhide HO, unhide HBZ⟩
end
end Go.Proofs.YtbenciieenbmeaaGreatDoor
/- the law's under (15). -/
namespace Go.Proofs.YtbenciieenbmeaaGreatDoor
open Go Go.Shelf Go.ChangeShapes Go.WideShapes Go.ChangeAt Go.RowKit Go.Maps Go.Sort
set_option linter.unusedVariables false
set_option maxRecDepth 100000
set_option maxHeartbeats 8000000
def ld51 (x : Value) : Sem Value := Instr.loadAt 51 x
theorem ld51_is (x : Value) : Instr.loadAt 51 x = ld51 x := rfl
theorem sz51 : (Tryz.prog.info? 51).map (·.size) = some 6 := by kernel_rfl
theorem Bk.ld51 {X : World} {g : Nat} {x : Nd} (h : Bk X g 51 x.vals) : (ld51 (.pointer (some ⟨g, 0, none⟩))).run Tryz.prog X = .ok x.val X :=
  run_loadAt_mid (P := Tryz.prog) X g 0 51 x.vals _ (fun j u hu => by rw [h.cell, Nat.zero_add]; exact hu) Tryz.underlying51 rfl sz51
theorem Bk.ld27 {X : World} {g : Nat} {q : Qy} {a : Qa} (h : Bk X g 27 (qC q a)) : (ld32 (.pointer (some ⟨g, 0, none⟩))).run Tryz.prog X = .ok (qV q a) X := run_ld32 (fun j u hu => by rw [h.cell, Nat.zero_add]; exact hu)
theorem lv27 {X : World} {g : Nat} {q : Qy} {a : Qa} (h : Bk X g 27 (qC q a)) : (loadVar 27 ⟨g, 0, none⟩).run Tryz.prog X = .ok (qV q a) X := by
  have h := h.ld27
  unfold ld32 at h
  simpa only [Instr.loadAt, Instr.sureAddr, Sem.run_bind, Sem.run_pure, Result.andThen_ok] using h
/-- the query with one node more, as a value -/
def uqV (q : Qy) (x : Nd) (a : Qa) (p : Option Addr) (n c : Nat) : List Value := [.slice p (n + 1) c, .int .i64 (n : Int), .slice a.pB q.by'.length a.cB, .slice a.pS q.sh.length a.cS, .slice a.pO q.ords.length a.cO, .int .i64 q.lim]
section
attribute [local go_sem ↓] ld32_is st32_is ld51_is
theorem under_any {W : World} {q : Qy} {a : Qa} (hq : QIn W q a) (hc : QCp a) (hn : q.nodes.length ≤ 2097152) (x : Nd) :
    Calls Tryz.prog 15 #[qV q a, x.val] W fun e w' => ∃ a', e = .returned (qV (uq q x) a') ∧ Below W.heap.size W w' ∧ QIn w' (uq q x) a' ∧ QCp a' := by
  obtain ⟨nN, hnN⟩ : ∃ n, n = q.nodes.length := ⟨_, rfl⟩
  obtain ⟨nB, hnB⟩ : ∃ n, n = q.by'.length := ⟨_, rfl⟩
  obtain ⟨nS, hnS⟩ : ∃ n, n = q.sh.length := ⟨_, rfl⟩
  obtain ⟨nO, hnO⟩ : ∃ n, n = q.ords.length := ⟨_, rfl⟩
  obtain ⟨op, l, r, f, m, s⟩ := x
  obtain ⟨A, hA⟩ : ∃ X, X = ((W.alloc (.cells #[.slice a.pN nN a.cN, .int .i64 q.wh, .slice a.pB nB a.cB, .slice a.pS nS a.cS, .slice a.pO nO a.cO, .int .i64 q.lim] 27)).alloc (.cells #[.int .i64 op, .int .i64 l, .int .i64 r, .int .i64 f, .int .i64 m, .string s] 51)).alloc (.cells #[.slice none 0 0, .int .i64 0, .slice none 0 0, .slice none 0 0, .slice none 0 0, .int .i64 0] 27) := ⟨_, rfl⟩
  have hAs : A.heap.size = W.heap.size + 3 := by rw [hA]; simp
  have hBA : Below W.heap.size W A := by rw [hA]; exact Below.a3 W _ _ _
  have b0 : Bk A W.heap.size 27 (qC q a) := by
    show A.heap[_]? = _
    unfold qC
    rw [hA, Below.heap_alloc _ _ _ (by simp; omega), Below.heap_alloc _ _ _ (by simp), hnN, hnB, hnS, hnO]
    exact heap_new _ _
  have b1 : Bk A (W.heap.size + 1) 51 (Nd.vals ⟨op, l, r, f, m, s⟩) := by
    show A.heap[_]? = _
    rw [hA, Below.heap_alloc _ _ _ (by simp)]
    exact blk_at (by simp)
  have b2 : Bk A (W.heap.size + 2) 27 [.slice none 0 0, .int .i64 0, .slice none 0 0, .slice none 0 0, .slice none 0 0, .int .i64 0] := by
    show A.heap[_]? = _
    rw [hA]
    exact blk_at (by simp)
  have l27 : (ld32 (.pointer (some ⟨W.heap.size, 0, none⟩))).run Tryz.prog A = .ok (.agg #[.slice a.pN nN a.cN, .int .i64 q.wh, .slice a.pB nB a.cB, .slice a.pS nS a.cS, .slice a.pO nO a.cO, .int .i64 q.lim]) A := by rw [hnN, hnB, hnS, hnO]; exact b0.ld27
  have D13 : Hid (Calls Tryz.prog 13 #[.agg #[.slice a.pN nN a.cN, .int .i64 q.wh, .slice a.pB nB a.cB, .slice a.pS nS a.cS, .slice a.pO nO a.cO, .int .i64 q.lim]] A fun e w' => ∃ a', e = .returned (.agg #[.slice a'.pN nN a'.cN, .int .i64 q.wh, .slice a'.pB nB a'.cB, .slice a'.pS nS a'.cS, .slice a'.pO nO a'.cO, .int .i64 q.lim]) ∧ Hid (Twn A w' q a')) := by rw [hnN, hnB, hnS, hnO]; exact copied_any (hq.below hBA) hc
  have s1 : Hid (∀ (w1 : World) (v0 v2 v3 v4 : Value), v0.oneCell' = true → v2.oneCell' = true → v3.oneCell' = true → v4.oneCell' = true → (st32 (.pointer (some ⟨w1.heap.size, 0, none⟩)) (.agg #[v0, .int .i64 q.wh, v2, v3, v4, .int .i64 q.lim])).run Tryz.prog (w1.alloc (.cells #[.slice none 0 0, .int .i64 0, .slice none 0 0, .slice none 0 0, .slice none 0 0, .int .i64 0] 27)) = .ok () (w1.alloc (.cells #[v0, .int .i64 q.wh, v2, v3, v4, .int .i64 q.lim] 27))) := fun w1 v0 v2 v3 v4 h0 h2 h3 h4 => run_st32_new (fun u hu => by simp at hu; rcases hu with rfl | rfl | rfl | rfl | rfl | rfl <;> first | assumption | rfl)
  have hgo : qV q a = .agg #[.slice a.pN nN a.cN, .int .i64 q.wh, .slice a.pB nB a.cB, .slice a.pS nS a.cS, .slice a.pO nO a.cO, .int .i64 q.lim] := by rw [hnN, hnB, hnS, hnO]; rfl
  rw [hgo]
  have hnNb : nN ≤ 2097152 := by omega
  have HA := hide hA; have HAs := hide hAs; have HBA := hide hBA; have HB1 := hide b1; have HB2 := hide b2
  have HN := hide hnN; have HNB := hide hnB; have HNS := hide hnS; have HNO := hide hnO; have HQ := hide hq
  show Calls Tryz.prog 15 #[.agg #[.slice a.pN nN a.cN, .int .i64 q.wh, .slice a.pB nB a.cB, .slice a.pS nS a.cS, .slice a.pO nO a.cO, .int .i64 q.lim], .agg #[.int .i64 op, .int .i64 l, .int .i64 r, .int .i64 f, .int .i64 m, .string s]] W _
  clear hq hc hnN hnB hnS hnO b0 b1 b2 hBA hgo hAs hA hn
  go_enter Tryz.func15, Tryz.ntmps15
  go_upto_region 1 with fail
  rw [← unhide HA]
  clear HA
  go_wp2_with fail
  refine (unhide D13).mono ?_
  rintro e w1 ⟨a', rfl, ht⟩
  have s1' := unhide s1 w1 (.slice a'.pN nN a'.cN) (.slice a'.pB nB a'.cB) (.slice a'.pS nS a'.cS) (.slice a'.pO nO a'.cO) rfl rfl rfl rfl
  obtain ⟨X1, hX1⟩ : ∃ X, X = w1.alloc (.cells #[.slice a'.pN nN a'.cN, .int .i64 q.wh, .slice a'.pB nB a'.cB, .slice a'.pS nS a'.cS, .slice a'.pO nO a'.cO, .int .i64 q.lim] 27) := ⟨_, rfl⟩
  have hAw : Below A.heap.size A w1 := (unhide ht).n.bel
  have h1X : Below w1.heap.size w1 X1 := by rw [hX1]; exact Below.a1 w1 _
  have hX1s : X1.heap.size = w1.heap.size + 1 := by rw [hX1]; simp
  have g1 : Bk X1 w1.heap.size 27 (qC q a') := by show X1.heap[_]? = _; unfold qC; rw [hX1, unhide HN, unhide HNB, unhide HNS, unhide HNO]; exact heap_new _ _
  have hAX : Below A.heap.size A X1 := hAw.trans (h1X.mono hAw.size)
  have lN : (ld51 (.pointer (some ⟨W.heap.size + 1, 0, none⟩))).run Tryz.prog X1 = .ok (.agg #[.int .i64 op, .int .i64 l, .int .i64 r, .int .i64 f, .int .i64 m, .string s]) X1 := ((unhide HB1).same (hAX.block _ (by have := unhide HAs; omega))).ld51
  have y0 : X1.cell? ⟨w1.heap.size, 0, none⟩ = some (.slice a'.pN nN a'.cN) := by rw [g1.cell, unhide HN]; rfl
  have hrow : X1.ownsRow A.heap.size 51 6 (.slice a'.pN nN a'.cN) nN (kN.flat q.nodes) := by
    have h := (unhide ht).n.row
    rw [← unhide HN] at h
    exact row_keep h (fun g hg => h1X.block g (row_block h hg).2.1)
  obtain ⟨p, c, w2, r2, o2, bl2, k2, n2, z2⟩ := app1 kN_ok (wr := X1) (B := A.heap.size) (v := .slice a'.pN nN a'.cN) (n := nN) (L := q.nodes) hrow hAX.size ⟨op, l, r, f, m, s⟩ #[.int .i64 op, .int .i64 l, .int .i64 r, .int .i64 f, .int .i64 m, .string s] rfl 22 (by omega)
  have hown : (Value.slice a'.pN nN a'.cN).ownBlock ≠ some w1.heap.size := fun e => by
    have h := (unhide ht).n.row
    rw [← unhide HN] at h
    have := (row_block h e).2.1
    omega
  have g2 : Bk w2 w1.heap.size 27 (qC q a') := g1.same (k2 _ (by omega) hown)
  have z0 : w2.cell? ⟨w1.heap.size, 0, none⟩ = some (.slice a'.pN nN a'.cN) := by rw [g2.cell, unhide HN]; rfl
  have f0 : w2.frozen? ⟨w1.heap.size, 0, none⟩ = false := froz_at g2
  obtain ⟨X2, hX2⟩ : ∃ X, X = w2.setCell ⟨w1.heap.size, 0, none⟩ (.slice p (nN + 1) c) := ⟨_, rfl⟩
  have rr2 : (Builtin.append_ #[22, 22] 22 #[.slice a'.pN nN a'.cN, .slice (some ⟨X1.heap.size, 0, none⟩) 1 1]).run Tryz.prog (X1.alloc (.cells #[.int .i64 op, .int .i64 l, .int .i64 r, .int .i64 f, .int .i64 m, .string s] 51)) = .ok (.slice p (nN + 1) c) w2 := r2
  have HR2 := hide rr2
  clear r2 rr2
  have HX1 := hide hX1
  have HX2 := hide hX2
  have HFIN : Hid (Bk w2 w1.heap.size 27 (qC q a') ∧ w2.ownsRow A.heap.size 51 6 (.slice p (nN + 1) c) (nN + 1) (kN.flat (q.nodes ++ [⟨op, l, r, f, m, s⟩])) ∧ Below A.heap.size X1 w2 ∧ Below A.heap.size A X1 ∧ w1.heap.size < w2.heap.size ∧ (∀ k, k < X1.heap.size → (Value.slice a'.pN nN a'.cN).ownBlock ≠ some k → w2.heap[k]? = X1.heap[k]?) ∧ ((Value.slice p (nN + 1) c).ownBlock = (Value.slice a'.pN nN a'.cN).ownBlock ∨ (Value.slice p (nN + 1) c).ownBlock = some (X1.heap.size + 1)) ∧ (Value.slice a'.pN nN a'.cN).ownBlock ≠ some w1.heap.size ∧ X1.heap.size = w1.heap.size + 1 ∧ Below w1.heap.size w1 X1) := ⟨g2, o2, bl2, hAX, by omega, k2, n2, hown, hX1s, h1X⟩
  clear D13 s1 g1 g2 o2 bl2 hAX k2 n2 hown hX1s h1X z2 hrow hAw hX1 hX2
  go_upto_region 2 with fail
  rw [← unhide HX1]
  clear s1' HX1
  go_upto_region 3 with (at_builtin; refine wpList_append_run rfl _ _ 22 rfl _ _ _ _ rfl rfl (unhide HR2) ?_)
  rw [← unhide HX2]
  obtain ⟨g2, o2, bl2, hAX, hw12, k2, n2, hown, hX1s, h1X⟩ := unhide HFIN
  have hX2 := unhide HX2
  have j2 : X2.heap[w1.heap.size]? = some (.cells #[.slice p (nN + 1) c, .int .i64 q.wh, .slice a'.pB nB a'.cB, .slice a'.pS nS a'.cS, .slice a'.pO nO a'.cO, .int .i64 q.lim] 27 (0, 0)) := by
    rw [hX2, heap_set g2, unhide HNB, unhide HNS, unhide HNO]; rfl
  have e2 : X2.cell? ⟨w1.heap.size, 0, none⟩ = some (.slice p (nN + 1) c) := by rw [cell_at j2]; rfl
  have e3 : X2.cell? ⟨w1.heap.size, 1, none⟩ = some (.int .i64 q.wh) := by rw [cell_at j2]; rfl
  have e4 : X2.frozen? ⟨w1.heap.size, 1, none⟩ = false := froz_at j2
  obtain ⟨X3, hX3⟩ : ∃ X, X = X2.setCell ⟨w1.heap.size, 1, none⟩ (.int .i64 (nN : Int)) := ⟨_, rfl⟩
  have j3 : X3.heap[w1.heap.size]? = some (.cells #[.slice p (nN + 1) c, .int .i64 (nN : Int), .slice a'.pB nB a'.cB, .slice a'.pS nS a'.cS, .slice a'.pO nO a'.cO, .int .i64 q.lim] 27 (0, 0)) := by
    rw [hX3, heap_set j2]; rfl
  have hk3 : ∀ k, k ≠ w1.heap.size → X3.heap[k]? = w2.heap[k]? := fun k hk => by
    rw [hX3, hX2, Below.heap_setCell _ _ _ _ (fun e => hk e), Below.heap_setCell _ _ _ _ (fun e => hk e)]
  have hAs := unhide HAs
  have hAw1 : A.heap.size ≤ w1.heap.size := (unhide ht).n.bel.size
  have j0 : X3.heap[W.heap.size + 2]? = some (.cells #[.slice none 0 0, .int .i64 0, .slice none 0 0, .slice none 0 0, .slice none 0 0, .int .i64 0] 27 (0, 0)) := by
    rw [hk3 _ (by omega), bl2.block _ (by omega), hAX.block _ (by omega)]
    exact unhide HB2
  have l3 : (ld32 (.pointer (some ⟨w1.heap.size, 0, none⟩))).run Tryz.prog X3 = .ok (.agg #[.slice p (nN + 1) c, .int .i64 (nN : Int), .slice a'.pB nB a'.cB, .slice a'.pS nS a'.cS, .slice a'.pO nO a'.cO, .int .i64 q.lim]) X3 := by
    exact run_loadAt_mid (P := Tryz.prog) X3 w1.heap.size 0 27 [.slice p (nN + 1) c, .int .i64 (nN : Int), .slice a'.pB nB a'.cB, .slice a'.pS nS a'.cS, .slice a'.pO nO a'.cO, .int .i64 q.lim] _ (fun j u hu => by rw [Nat.zero_add, cell_at j3]; simpa using hu) Tryz.underlying27 rfl size32
  have s3 := run_st32 j0 rfl (v0 := .slice p (nN + 1) c) (v1 := .int .i64 (nN : Int)) (v2 := .slice a'.pB nB a'.cB) (v3 := .slice a'.pS nS a'.cS) (v4 := .slice a'.pO nO a'.cO) (v5 := .int .i64 q.lim) (fun u hu => by simp at hu; rcases hu with rfl | rfl | rfl | rfl | rfl | rfl <;> rfl)
  obtain ⟨Y, hY⟩ : ∃ Y, Y = X3.setCells (W.heap.size + 2) 0 [.slice p (nN + 1) c, .int .i64 (nN : Int), .slice a'.pB nB a'.cB, .slice a'.pS nS a'.cS, .slice a'.pO nO a'.cO, .int .i64 q.lim] := ⟨_, rfl⟩
  have s3' : (st32 (.pointer (some ⟨W.heap.size + 2, 0, none⟩)) (.agg #[.slice p (nN + 1) c, .int .i64 (nN : Int), .slice a'.pB nB a'.cB, .slice a'.pS nS a'.cS, .slice a'.pO nO a'.cO, .int .i64 q.lim])).run Tryz.prog X3 = .ok () Y := by rw [hY]; exact s3
  have jY : Y.heap[W.heap.size + 2]? = some (.cells #[.slice p (nN + 1) c, .int .i64 (nN : Int), .slice a'.pB nB a'.cB, .slice a'.pS nS a'.cS, .slice a'.pO nO a'.cO, .int .i64 q.lim] 27 (0, 0)) := by rw [hY]; exact heap_setCells6 j0
  have fY : Fr X3 Y (fun i => i = W.heap.size + 2) := by rw [hY]; exact fr_setCells _ _ _ _ (Fr.refl _ _)
  have hkY : ∀ k, k < w2.heap.size → k ≠ w1.heap.size → k ≠ W.heap.size + 2 → Y.heap[k]? = w2.heap[k]? := fun k hk h1 h2 => (fY.block k (by rw [hX3, hX2]; simpa using hk) h2).trans (hk3 k h1)
  have hn := unhide HN
  have keep : ∀ {α : Type} {K : Kd α} (hK : KdOK K) (hne : K.e ≠ 51) {v : Value} {n : Nat} {L : List α}, Rw K A w1 v n L → Y.ownsRow A.heap.size K.e K.s v n (K.flat L) := fun {α K} hK hne {v n L} hR => by
    refine row_keep hR.row (fun g hg => ?_)
    have hg1 := row_block hR.row hg
    have hgn : (Value.slice a'.pN nN a'.cN).ownBlock ≠ some g := fun e => by
      obtain ⟨cur, hc⟩ := row_type hR hg
      obtain ⟨cur', hc'⟩ := row_type (unhide ht).n (show (Value.slice a'.pN q.nodes.length a'.cN).ownBlock = some g by rw [← hn]; exact e)
      rw [hc] at hc'
      simp only [Option.some.injEq, Obj.cells.injEq] at hc'
      exact hne hc'.2.1
    have hs2 := bl2.size
    rw [hkY g (by omega) (by omega) (by omega), k2 g (by omega) hgn, h1X.block g (by omega)]
  have oN : Y.ownsRow A.heap.size 51 6 (.slice p (nN + 1) c) (nN + 1) (kN.flat (q.nodes ++ [⟨op, l, r, f, m, s⟩])) := by
    refine row_keep o2 (fun g hg => ?_)
    have hg2 := row_block o2 hg
    refine hkY g hg2.2.1 (fun e => ?_) (by omega)
    subst e
    rcases n2 with e1 | e1
    · exact hown (e1.symm.trans hg)
    · have := Option.some.inj (hg.symm.trans e1); omega
  have oB := keep kI_ok (by decide) (unhide ht).b
  have oS := keep kG_ok (by decide) (unhide ht).s
  have oO := keep kO_ok (by decide) (unhide ht).o
  have hq := unhide HQ
  have hlN : (q.nodes ++ [(⟨op, l, r, f, m, s⟩ : Nd)]).length = nN + 1 := by rw [List.length_append, ← hn]; rfl
  have hLN : Lies kN Y p (q.nodes ++ [(⟨op, l, r, f, m, s⟩ : Nd)]) := own_lies kN_ok hlN oN
  have hQI : QIn Y (uq q ⟨op, l, r, f, m, s⟩) ⟨p, c, a'.pB, a'.cB, a'.pS, a'.cS, a'.pO, a'.cO⟩ := by
    refine ⟨hLN, own_lies kI_ok rfl oB, own_lies kG_ok rfl oS, own_lies kO_ok rfl oO, ?_, hq.nb, hq.ns, hq.no⟩
    show (q.nodes ++ [_]).length ≤ _
    rw [List.length_append, List.length_singleton]
    omega
  have cz : ∀ {B e s n : Nat} {p : Option Addr} {c : Nat} {xs : List Value}, Y.ownsRow B e s (.slice p n c) n xs → p = none → c = 0 := fun h0 e => by
    obtain ⟨p2, c2, e2, hp0, _⟩ := row_slice h0
    injection e2 with e2 _ e3
    subst e2
    subst e3
    exact (hp0 e).2
  have hQC : QCp ⟨p, c, a'.pB, a'.cB, a'.pS, a'.cS, a'.pO, a'.cO⟩ := ⟨fun e => cz oN e, fun e => cz oB e, fun e => cz oS e, fun e => cz oO e⟩
  have hBY : Below W.heap.size W Y := by
    have hb1 : Below W.heap.size W X1 := (unhide HBA).trans (hAX.mono (unhide HBA).size)
    have hb2 : Below W.heap.size W w2 := hb1.trans (bl2.mono (unhide HBA).size)
    have hb3 : Below W.heap.size W X3 := by
      rw [hX3, hX2]
      exact (hb2.setCell (p := ⟨w1.heap.size, 0, none⟩) (by show W.heap.size ≤ w1.heap.size; omega) _).setCell (p := ⟨w1.heap.size, 1, none⟩) (by show W.heap.size ≤ w1.heap.size; omega) _
    exact hb3.trans (fY.below hb3.size (fun k hk e => by omega))
  have eV : qV (uq q ⟨op, l, r, f, m, s⟩) ⟨p, c, a'.pB, a'.cB, a'.pS, a'.cS, a'.pO, a'.cO⟩ = .agg #[.slice p (nN + 1) c, .int .i64 (nN : Int), .slice a'.pB nB a'.cB, .slice a'.pS nS a'.cS, .slice a'.pO nO a'.cO, .int .i64 q.lim] := by
    unfold qV uq
    simp only [List.length_append, List.length_singleton]
    rw [hn, unhide HNB, unhide HNS, unhide HNO]
  have lY : (loadVar 27 ⟨W.heap.size + 2, 0, none⟩).run Tryz.prog Y = .ok (.agg #[.slice p (nN + 1) c, .int .i64 (nN : Int), .slice a'.pB nB a'.cB, .slice a'.pS nS a'.cS, .slice a'.pO nO a'.cO, .int .i64 q.lim]) Y := by
    have h0 := run_loadAt_mid (P := Tryz.prog) Y (W.heap.size + 2) 0 27 [.slice p (nN + 1) c, .int .i64 (nN : Int), .slice a'.pB nB a'.cB, .slice a'.pS nS a'.cS, .slice a'.pO nO a'.cO, .int .i64 q.lim] _ (fun j u hu => by rw [Nat.zero_add, cell_at jY]; simpa using hu) Tryz.underlying27 rfl size32
    simpa only [Instr.loadAt, Instr.sureAddr, Sem.run_bind, Sem.run_pure, Result.andThen_ok] using h0
  have HO := hide (show ∃ a'', Ending.returned (.agg #[.slice p (nN + 1) c, .int .i64 (nN : Int), .slice a'.pB nB a'.cB, .slice a'.pS nS a'.cS, .slice a'.pO nO a'.cO, .int .i64 q.lim]) = .returned (qV (uq q ⟨op, l, r, f, m, s⟩) a'') ∧ Below W.heap.size W Y ∧ QIn Y (uq q ⟨op, l, r, f, m, s⟩) a'' ∧ QCp a'' from ⟨_, by rw [eV], hBY, hQI, hQC⟩)
  have HX3 := hide hX3
  clear z0 f0 y0 lN g2 o2 bl2 hAX hw12 k2 n2 hown hX1s h1X hX2 j2 hX3 j3 hk3 hAs hAw1 j0 s3 hY jY fY hkY hn keep oN oB oS oO hq hlN hLN hQI cz hQC hBY eV HFIN ht HX2
  go_upto_region 4 with fail
  rw [← unhide HX3]
  clear e2 e3 e4 HX3
  go_wp2_with fail
  refine bodyPost_ret (results_c Tryz.results15 rfl lY) rfl ?_
  exact unhide HO
end
end Go.Proofs.YtbenciieenbmeaaGreatDoor
/- AnswerConditions (5): its walk. -/
namespace Go.Proofs.YtbenciieenbmeaaGreatDoor
open Go Go.Shelf Go.ChangeShapes Go.WideShapes Go.ChangeAt Go.RowKit Go.Maps Go.Sort
set_option linter.unusedVariables false
set_option maxRecDepth 100000
set_option maxHeartbeats 8000000
section
attribute [local go_sem ↓] ld32_is
theorem cond_walk {W : World} {q : Qy} {a : Qa} {pR : Option Addr} {cR : Nat} {R : List Ro} {pP : Option Addr} {cP : Nat} {P : List Int} (n : Int) (g : Glb W) (h : Arg W q a pR cR R) (hP : Lies kI W pP P) (hPl : P.length ≤ 1048575) (hPi : ∀ x ∈ P, inI x) :
    Calls Tryz.prog 5 #[.agg #[.slice a.pN q.nodes.length a.cN, .int .i64 q.wh, .slice a.pB q.by'.length a.cB, .slice a.pS q.sh.length a.cS, .slice a.pO q.ords.length a.cO, .int .i64 q.lim, .slice pR R.length cR, .slice pP P.length cP, .int .i64 n]] W fun e w' => e = .returned (.bool true) ∧ Below W.heap.size W w' := by
  obtain ⟨qa, hqa⟩ : ∃ v, v = qV q a := ⟨_, rfl⟩
  obtain ⟨nR, hnR⟩ : ∃ k, k = R.length := ⟨_, rfl⟩
  obtain ⟨nP, hnP⟩ : ∃ k, k = P.length := ⟨_, rfl⟩
  obtain ⟨wh, hwh⟩ : ∃ k, k = q.wh := ⟨_, rfl⟩
  obtain ⟨V, hV⟩ : ∃ V, V = cnV q R := ⟨_, rfl⟩
  obtain ⟨b, hb⟩ : ∃ b, b = cnB q R := ⟨_, rfl⟩
  obtain ⟨A, hA⟩ : ∃ A, A = W.alloc (.cells (qC q a ++ [Value.slice pR nR cR, .slice pP nP cP, .int .i64 n]).toArray 30) := ⟨_, rfl⟩
  have hBA : Below W.heap.size W A := by rw [hA]; exact Below.a1 W _
  have hAs : W.heap.size < A.heap.size := by rw [hA]; simp
  have bA : Bk A W.heap.size 30 (qC q a ++ [Value.slice pR nR cR, .slice pP nP cP, .int .i64 n]) := by show A.heap[_]? = _; rw [hA]; exact heap_new _ _
  have hnRb : nR ≤ 1048575 := by rw [hnR]; exact h.rn
  have D9 := hide (first9 (g.fl.below hBA) (g.mon.below hBA) (g.rc.below hBA) (g.mx.below hBA (by have := g.six; omega)) (by have := g.six; omega))
  have LD : Hid (∀ w1, Below A.heap.size A w1 → (ld32 (.pointer (some ⟨W.heap.size, 0, none⟩))).run Tryz.prog w1 = .ok qa w1 ∧ w1.cell? ⟨W.heap.size, 6, none⟩ = some (.slice pR nR cR) ∧ w1.cell? ⟨W.heap.size, 1, none⟩ = some (.int .i64 wh)) := fun w1 hb => by
    have b1 := bA.same (hb.block _ hAs)
    refine ⟨?_, b1.cell 6, by rw [b1.cell 1, hwh]; rfl⟩
    rw [hqa]
    refine run_ld32 (fun j u hu => ?_)
    rw [b1.cell, Nat.zero_add]
    have hj : j < 6 := (List.getElem?_eq_some_iff.1 hu).1
    rw [List.getElem?_append_left hj]
    exact hu
  have hRl : R.length < 4294967296 := by have := h.rn; omega
  have DC : Hid (∀ w1, Below A.heap.size A w1 → Calls Tryz.prog 14 #[qa, .slice pR nR cR] w1 fun e w2 => e = .returned (.tuple #[.int .i64 V, .bool b]) ∧ Below w1.heap.size w1 w2) := fun w1 hb1 => by
    have hbW : Below W.heap.size W w1 := hBA.trans (hb1.mono hBA.size)
    rw [hqa, hnR, hV, hb]
    exact counted_any (h.sc g hbW (h.rl.below hbW) (by have := h.rn; omega) h.ro) h.qc h.rc
  have DU : Hid (∀ w1 op l r, Below A.heap.size A w1 → Calls Tryz.prog 15 #[qa, .agg #[.int .i64 op, .int .i64 l, .int .i64 r, .int .i64 0, .int .i64 0, .string ⟨#[]⟩]] w1 fun e w2 => ∃ u, e = .returned u ∧ Below w1.heap.size w1 w2 ∧ Hid (Calls Tryz.prog 14 #[u, .slice pR nR cR] w2 fun e w3 => e = .returned (.tuple #[.int .i64 (cnV (uq q ⟨op, l, r, 0, 0, ⟨#[]⟩⟩) R), .bool (cnB (uq q ⟨op, l, r, 0, 0, ⟨#[]⟩⟩) R)]) ∧ Below w2.heap.size w2 w3)) := fun w1 op l r hb1 => by
    have hbW : Below W.heap.size W w1 := hBA.trans (hb1.mono hBA.size)
    rw [hqa, hnR]
    refine (under_any (h.qi.below hbW) h.qc (by have := h.nn; omega) ⟨op, l, r, 0, 0, ⟨#[]⟩⟩).mono ?_
    rintro e w2 ⟨a', rfl, hb2, hQ, hC⟩
    have hbW2 : Below W.heap.size W w2 := hbW.trans (hb2.mono hbW.size)
    refine ⟨_, rfl, hb2, counted_any ⟨g.fl.below hbW2, g.mon.below hbW2, g.rc.below hbW2, g.mx.below hbW2 (by have := g.six; omega), Nat.le_trans g.six hbW2.size, hQ, ?_, by have := h.nb; show q.by'.length ≤ _; omega, by have := h.ns; show q.sh.length ≤ _; omega, by have := h.no; show q.ords.length ≤ _; omega, fun x hx => ?_, h.sI, h.lI, h.rl.below hbW2, by have := h.rn; omega, h.ro⟩ hC h.rc⟩
    · show (q.nodes ++ [_]).length ≤ _
      rw [List.length_append, List.length_singleton]
      have := h.nn
      omega
    · have hx' : x ∈ q.nodes ++ [(⟨op, l, r, 0, 0, ⟨#[]⟩⟩ : Nd)] := hx
      rcases List.mem_append.1 hx' with h1 | h1
      · exact h.nd x h1
      · rw [List.mem_singleton.1 h1]
        exact ⟨⟨by show (_ : Int) ≤ 0; decide, by show (0 : Int) ≤ _; decide⟩, by show (ByteArray.mk #[]).size < _; decide⟩
  have HA : Hid (A = W.alloc (.cells #[.slice a.pN q.nodes.length a.cN, .int .i64 wh, .slice a.pB q.by'.length a.cB, .slice a.pS q.sh.length a.cS, .slice a.pO q.ords.length a.cO, .int .i64 q.lim, .slice pR nR cR, .slice pP nP cP, .int .i64 n] 30)) := by rw [hwh]; exact hA
  have HBA := hide hBA
  have HNR := hide hnR; have HRL := hide hRl; have HWH := hide hwh; have HV := hide hV; have HBB := hide hb
  rw [← hnR, ← hnP, ← hwh]
  clear g h hP hPl hPi hqa hnR hnP hA hBA hAs bA hRl hwh hV hb
  go_enter Tryz.func5, Tryz.ntmps5
  go_upto_region 1 with fail
  rw [← unhide HA]
  clear HA
  go_wp2_with fail
  refine (unhide D9).mono ?_
  rintro e w1 ⟨rfl, hb1⟩
  obtain ⟨l1, l2, l3⟩ := unhide LD w1 hb1
  have D := hide (unhide DC w1 hb1)
  have HB1 := hide hb1
  clear hb1 D9 l3
  go_wp2_with fail
  refine (unhide D).mono ?_
  rintro e w2 ⟨rfl, hb2⟩
  have hbA2 : Below A.heap.size A w2 := (unhide HB1).trans (hb2.mono (unhide HB1).size)
  have HB2 := hide hbA2
  have HO2 : Hid (∀ w', Below A.heap.size A w' → Below W.heap.size W w') := fun w' hb => (unhide HBA).trans (hb.mono (unhide HBA).size)
  obtain ⟨l1, l2, l3⟩ := unhide LD w2 hbA2
  clear hb2 hbA2 D DC
  cases b with
  | false =>
    go_wp2_with fail
    go_ret
    exact ⟨rfl, unhide HO2 _ (unhide HB2)⟩
  | true =>
    by_cases hw0 : wh < 0
    · go_wp2_with fail
      go_ret
      exact ⟨rfl, unhide HO2 _ (unhide HB2)⟩
    · have hE0 : scE (cq q) R = 0 := by
        have := unhide HBB
        unfold cnB at this
        exact of_decide_eq_true this.symm
      obtain ⟨⟨z1, z2⟩, z3⟩ := cond_all (unhide HRL) (by rw [← unhide HWH]; omega) hE0
      obtain ⟨y1, y2⟩ := z3 2 (.inr rfl)
      obtain ⟨x1, x2⟩ := z3 1 (.inl rfl)
      rw [← unhide HWH] at z1 z2 y1 y2 x1 x2
      obtain ⟨n1, hn1⟩ : ∃ k, k = cntN q R := ⟨_, rfl⟩
      obtain ⟨m1, hm1⟩ : ∃ k, k = cntN (uq q ⟨3, wh, -1, 0, 0, ⟨#[]⟩⟩) R := ⟨_, rfl⟩
      have hsum : n1 + m1 = nR := by rw [hn1, hm1, unhide HNR]; exact z2
      have hVn : V = (n1 : Int) := by rw [unhide HV, hn1]; unfold cnV; rw [if_pos hE0]
      have E1 : Hid (cnV (uq q ⟨3, wh, -1, 0, 0, ⟨#[]⟩⟩) R = (m1 : Int) ∧ cnB (uq q ⟨3, wh, -1, 0, 0, ⟨#[]⟩⟩) R = true) := by
        refine ⟨?_, ?_⟩
        · unfold cnV; rw [if_pos z1, hm1]
        · unfold cnB; rw [z1]; rfl
      have E2 : Hid (cnV (uq q ⟨2, wh, wh, 0, 0, ⟨#[]⟩⟩) R = (n1 : Int) ∧ cnB (uq q ⟨2, wh, wh, 0, 0, ⟨#[]⟩⟩) R = true) := by
        refine ⟨?_, ?_⟩
        · unfold cnV; rw [if_pos y1, hn1, y2]
        · unfold cnB; rw [y1]; rfl
      have E3 : Hid (cnV (uq q ⟨1, wh, wh, 0, 0, ⟨#[]⟩⟩) R = (n1 : Int) ∧ cnB (uq q ⟨1, wh, wh, 0, 0, ⟨#[]⟩⟩) R = true) := by
        refine ⟨?_, ?_⟩
        · unfold cnV; rw [if_pos x1, hn1, x2]
        · unfold cnB; rw [x1]; rfl
      have hVV := hVn
      subst hVV
      clear hE0 z1 z2 z3 y1 y2 x1 x2 hn1 hm1 HV HBB hVn HRL HNR HWH
      go_upto_region 8 with fail
      refine wp_region_last (n := 13) (S := fun W' => (ld32 (.pointer (some ⟨W.heap.size, 0, none⟩))).run Tryz.prog W' = .ok qa W' ∧ W'.cell? ⟨W.heap.size, 6, none⟩ = some (.slice pR nR cR)) (by kernel_rfl) ⟨(unhide LD _ (below_drewN (unhide HB2) 1)).1, (unhide LD _ (below_drewN (unhide HB2) 1)).2.1⟩ (fun hHeld => ?_)
      refine tkW 0 ?_; refine tkN 1 ?_; refine tkW 2 ?_; refine tkW 3 ?_; refine tkW 5 ?_; refine tkN 6 ?_
      have D := hide (unhide DU _ 3 wh (-1) (below_drewN (unhide HB2) 1))
      refine wpAnyL_one (i := 4) (by kernel_rfl) rfl (fun KK hK => ?_)
      go_simp
      refine (unhide D).mono ?_
      rintro e v3 ⟨u3, rfl, hv3, du3⟩
      have hbv : Below A.heap.size A v3 := (below_drewN (unhide HB2) 1).trans (hv3.mono (below_drewN (unhide HB2) 1).size)
      have DX := hide (unhide du3)
      have HV3 := hide hbv
      have HL := hide (unhide LD _ hbv)
      clear hv3 du3 hbv D
      go_simp
      refine hK.out _ _ ⟨(unhide HL).1, (unhide HL).2.1⟩ (fun hHeld => ?_)
      clear hK KK HL
      refine wpAnyL_one (i := 7) (by kernel_rfl) rfl (fun KK hK => ?_)
      go_simp
      refine (unhide DX).mono ?_
      rintro e w3 ⟨rfl, hv⟩
      have hbv : Below A.heap.size A w3 := (unhide HV3).trans (hv.mono (unhide HV3).size)
      have HB3 := hide hbv
      have HL := hide (unhide LD _ hbv)
      have ee1 := (unhide E1).1
      have ee2 := (unhide E1).2
      rw [ee1, ee2]
      clear hv hbv DX ee1 ee2 E1
      go_simp
      refine hK.out _ _ ⟨(unhide HL).1, (unhide HL).2.1⟩ (fun hHeld => ?_)
      clear hK KK HL
      refine tkW 8 ?_; refine tkW 9 ?_; refine tkW 10 ?_; refine tkW 11 ?_; refine tkW 12 ?_
      refine wpAnyL_done (by kernel_rfl) ?_
      go_upto_region 9 with fail
      refine wp_region_last (n := 14) (S := fun W' => (ld32 (.pointer (some ⟨W.heap.size, 0, none⟩))).run Tryz.prog W' = .ok qa W' ∧ W'.cell? ⟨W.heap.size, 6, none⟩ = some (.slice pR nR cR)) (by kernel_rfl) ⟨(unhide LD _ (below_drewN (unhide HB3) 1)).1, (unhide LD _ (below_drewN (unhide HB3) 1)).2.1⟩ (fun hHeld => ?_)
      refine tkW 0 ?_; refine tkN 1 ?_; refine tkW 2 ?_; refine tkW 3 ?_; refine tkW 4 ?_; refine tkW 6 ?_; refine tkN 7 ?_
      have D := hide (unhide DU _ 2 wh wh (below_drewN (unhide HB3) 1))
      refine wpAnyL_one (i := 5) (by kernel_rfl) rfl (fun KK hK => ?_)
      go_simp
      refine (unhide D).mono ?_
      rintro e v4 ⟨u4, rfl, hv4, du4⟩
      have hbv : Below A.heap.size A v4 := (below_drewN (unhide HB3) 1).trans (hv4.mono (below_drewN (unhide HB3) 1).size)
      have DX := hide (unhide du4)
      have HV4 := hide hbv
      have HL := hide (unhide LD _ hbv)
      clear hv4 du4 hbv D
      go_simp
      refine hK.out _ _ ⟨(unhide HL).1, (unhide HL).2.1⟩ (fun hHeld => ?_)
      clear hK KK HL
      refine wpAnyL_one (i := 8) (by kernel_rfl) rfl (fun KK hK => ?_)
      go_simp
      refine (unhide DX).mono ?_
      rintro e w4 ⟨rfl, hv⟩
      have hbv : Below A.heap.size A w4 := (unhide HV4).trans (hv.mono (unhide HV4).size)
      have HB4 := hide hbv
      have HL := hide (unhide LD _ hbv)
      have ee1 := (unhide E2).1
      have ee2 := (unhide E2).2
      rw [ee1, ee2]
      clear hv hbv DX ee1 ee2 E2
      go_simp
      refine hK.out _ _ ⟨(unhide HL).1, (unhide HL).2.1⟩ (fun hHeld => ?_)
      clear hK KK HL
      refine tkW 9 ?_; refine tkW 10 ?_; refine tkW 11 ?_; refine tkW 12 ?_; refine tkW 13 ?_
      refine wpAnyL_done (by kernel_rfl) ?_
      go_upto_region 10 with fail
      refine wp_region_last (n := 14) (S := fun W' => (ld32 (.pointer (some ⟨W.heap.size, 0, none⟩))).run Tryz.prog W' = .ok qa W' ∧ W'.cell? ⟨W.heap.size, 6, none⟩ = some (.slice pR nR cR)) (by kernel_rfl) ⟨(unhide LD _ (below_drewN (unhide HB4) 1)).1, (unhide LD _ (below_drewN (unhide HB4) 1)).2.1⟩ (fun hHeld => ?_)
      refine tkW 0 ?_; refine tkN 1 ?_; refine tkW 2 ?_; refine tkW 3 ?_; refine tkW 4 ?_; refine tkW 6 ?_; refine tkN 7 ?_
      have D := hide (unhide DU _ 1 wh wh (below_drewN (unhide HB4) 1))
      refine wpAnyL_one (i := 5) (by kernel_rfl) rfl (fun KK hK => ?_)
      go_simp
      refine (unhide D).mono ?_
      rintro e v5 ⟨u5, rfl, hv5, du5⟩
      have hbv : Below A.heap.size A v5 := (below_drewN (unhide HB4) 1).trans (hv5.mono (below_drewN (unhide HB4) 1).size)
      have DX := hide (unhide du5)
      have HV5 := hide hbv
      have HL := hide (unhide LD _ hbv)
      clear hv5 du5 hbv D
      go_simp
      refine hK.out _ _ ⟨(unhide HL).1, (unhide HL).2.1⟩ (fun hHeld => ?_)
      clear hK KK HL
      refine wpAnyL_one (i := 8) (by kernel_rfl) rfl (fun KK hK => ?_)
      go_simp
      refine (unhide DX).mono ?_
      rintro e w5 ⟨rfl, hv⟩
      have hbv : Below A.heap.size A w5 := (unhide HV5).trans (hv.mono (unhide HV5).size)
      have HB5 := hide hbv
      have HL := hide (unhide LD _ hbv)
      have ee1 := (unhide E3).1
      have ee2 := (unhide E3).2
      rw [ee1, ee2]
      clear hv hbv DX ee1 ee2 E3
      go_simp
      refine hK.out _ _ ⟨(unhide HL).1, (unhide HL).2.1⟩ (fun hHeld => ?_)
      clear hK KK HL
      refine tkW 9 ?_; refine tkW 10 ?_; refine tkW 11 ?_; refine tkW 12 ?_; refine tkW 13 ?_
      refine wpAnyL_done (by kernel_rfl) ?_
      obtain ⟨k1, k2, k3⟩ := unhide LD _ (unhide HB5)
      have hs : ((n1 : Int) + (m1 : Int) == (nR : Int)) = true := by simp; omega
      go_wp2_with fail
      go_ret
      exact ⟨rfl, unhide HO2 _ (unhide HB5)⟩
end
end Go.Proofs.YtbenciieenbmeaaGreatDoor
