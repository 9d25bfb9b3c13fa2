import Derived.Test.YtbenciieenbmeaaGreatDoorU33
/- the law's counted (14). -/
namespace Go.Proofs.YtbenciieenbmeaaGreatDoor
open Go Go.Shelf Go.ChangeShapes Go.WideShapes Go.ChangeAt Go.RowKit Go.Maps Go.Sort
set_option linter.unusedVariables false
set_option maxRecDepth 100000
set_option maxHeartbeats 8000000
theorem scE_cases (q : Qy) (R : List Ro) : scE q R = 0 ∨ scE q R = 11 ∨ scE q R = 140 := by
  unfold scE
  split
  · split
    · exact .inr (.inl rfl)
    · exact .inl rfl
  · exact .inr (.inr rfl)
theorem tbl_rows {B : Nat} {w : World} {px py : Option Addr} {nx cx ny cy : Nat} {T : List Int} {LL : List (List Cl)} (h : TblOut B w (.agg #[.slice px nx cx, .slice py ny cy]) T LL) :
    nx = T.length ∧ ny = LL.length ∧ Lies kI w px T ∧ ∀ i (hi : i < LL.length), ∃ b off p c, py = some ⟨b, off, none⟩ ∧ b < w.heap.size ∧ w.cell? ⟨b, off + i, none⟩ = some (.slice p LL[i].length c) ∧ Lies kC w p LL[i] := by
  obtain ⟨pT, cT, pR, cR, ts, ev, ⟨h2, _⟩, ⟨h4, _⟩, h6, h7⟩ := h
  simp only [Value.agg.injEq, Array.mk.injEq, List.cons.injEq, Value.slice.injEq, and_true] at ev
  obtain ⟨⟨rfl, rfl, rfl⟩, rfl, rfl, rfl⟩ := ev
  refine ⟨rfl, rfl, h2, fun i hi => ?_⟩
  obtain ⟨p, c, e1, e2, _⟩ := h7 i hi
  have hit : i < ts.length := by omega
  obtain ⟨b, off, e, hlt, hr⟩ := h4.2 i hit
  have hts : ts[i] = (p, LL[i].length, c) := by
    have := List.getElem?_eq_getElem hit
    rw [this] at e1
    exact Option.some.inj e1
  have := hr 0 (.slice p LL[i].length c) (by rw [hts]; rfl)
  have e3 : (⟨b, off + i * kS.s + 0, none⟩ : Addr) = ⟨b, off + i, none⟩ := by simp [kS]
  rw [e3] at this
  exact ⟨b, off, p, c, e, hlt, this, e2⟩
theorem cell_row {w : World} {p : Option Addr} {L : List Cl} (h : Lies kC w p L) {k : Nat} (hk : k < L.length) : ∃ b off, p = some ⟨b, off, none⟩ ∧ b < w.heap.size ∧ w.cell? ⟨b, off + k * 3, none⟩ = some (.int .i64 L[k].ty) ∧ w.cell? ⟨b, off + k * 3 + 1, none⟩ = some (.int .i64 L[k].num) ∧ w.cell? ⟨b, off + k * 3 + 2, none⟩ = some (.string L[k].tx) := by
  obtain ⟨b, off, e, hlt, hr⟩ := h.2 k hk
  exact ⟨b, off, e, hlt, hr 0 _ rfl, hr 1 _ rfl, hr 2 _ rfl⟩
noncomputable def cnB (q : Qy) (R : List Ro) : Bool := decide (scE (cq q) R = 0)
noncomputable def cnV (q : Qy) (R : List Ro) : Int := if scE (cq q) R = 0 then (cntN q R : Int) else 0
section
attribute [local go_sem ↓] ld32_is
theorem counted_any {W : World} {q : Qy} {a : Qa} {pR : Option Addr} {cR : Nat} {R : List Ro} (h : ScIq W q a pR R) (hc : QCp a) (hcR : pR = none → cR = 0) :
    Calls Tryz.prog 14 #[qV q a, .slice pR R.length cR] W fun e w' => e = .returned (.tuple #[.int .i64 (cnV q R), .bool (cnB q R)]) ∧ Below W.heap.size W w' := by
  obtain ⟨A, hA⟩ : ∃ A, A = W.alloc (.cells (qC q a).toArray 27) := ⟨_, rfl⟩
  have hBA : Below W.heap.size W A := by rw [hA]; exact Below.a1 W _
  have b27 : Bk A W.heap.size 27 (qC q a) := by show A.heap[_]? = _; rw [hA]; exact heap_new _ _
  have l27 : (ld32 (.pointer (some ⟨W.heap.size, 0, none⟩))).run Tryz.prog A = .ok (.agg #[.slice a.pN q.nodes.length a.cN, .int .i64 q.wh, .slice a.pB q.by'.length a.cB, .slice a.pS q.sh.length a.cS, .slice a.pO q.ords.length a.cO, .int .i64 q.lim]) A := run_ld32 (fun j u hu => by rw [b27.cell, Nat.zero_add]; exact hu)
  obtain ⟨nR, hnR⟩ : ∃ n, n = R.length := ⟨_, rfl⟩
  obtain ⟨nN, hnN⟩ : ∃ n, n = q.nodes.length := ⟨_, rfl⟩
  obtain ⟨E, hE⟩ : ∃ E, E = scE (cq q) R := ⟨_, rfl⟩
  have D13 : Hid (Calls Tryz.prog 13 #[.agg #[.slice a.pN nN a.cN, .int .i64 q.wh, .slice a.pB q.by'.length a.cB, .slice a.pS q.sh.length a.cS, .slice a.pO q.ords.length a.cO, .int .i64 q.lim]] A fun e w' => ∃ a', e = .returned (.agg #[.slice a'.pN nN a'.cN, .int .i64 q.wh, .slice a'.pB q.by'.length a'.cB, .slice a'.pS q.sh.length a'.cS, .slice a'.pO q.ords.length a'.cO, .int .i64 q.lim]) ∧ Hid (Twn A w' q a')) := by rw [hnN]; exact copied_any (h.qi.below hBA) hc
  have hRl : R.length < 4294967296 := by have := h.rn; omega
  have NX : Hid (∀ w1 a', Twn A w1 q a' → ∀ X, X = (w1.alloc (.cells #[.slice a'.pN nN a'.cN, .int .i64 q.wh, .slice none 0 0, .slice (some ⟨w1.heap.size + 1, 0, none⟩) 1 1, .slice none 0 0, .int .i64 (-1)] 27)).alloc (.cells #[.int .i64 1, .int .i64 (-1)] 56) → (ld32 (.pointer (some ⟨w1.heap.size, 0, none⟩))).run Tryz.prog X = .ok (.agg #[.slice a'.pN nN a'.cN, .int .i64 q.wh, .slice none 0 0, .slice (some ⟨w1.heap.size + 1, 0, none⟩) 1 1, .slice none 0 0, .int .i64 (-1)]) X ∧ (Calls Tryz.prog 10 #[.agg #[.slice a'.pN nN a'.cN, .int .i64 q.wh, .slice none 0 0, .slice (some ⟨w1.heap.size + 1, 0, none⟩) 1 1, .slice none 0 0, .int .i64 (-1)], .slice pR nR cR] X fun e w2 => ∃ px nx cx py ny cy T LL, e = .returned (.tuple #[.agg #[.slice px nx cx, .slice py ny cy], .int .i64 E]) ∧ Below W.heap.size W w2 ∧ Hid (TblOut X.heap.size w2 (.agg #[.slice px nx cx, .slice py ny cy]) T LL ∧ ScT (cq q) R T LL))) := fun w1 a' ht X hX => by
    rw [hnN] at hX ⊢
    have hb1 : Below W.heap.size W w1 := hBA.trans (ht.n.bel.mono hBA.size)
    have hbX : Below w1.heap.size w1 X := by rw [hX]; exact Below.a2 w1 _ _
    have hbWX : Below W.heap.size W X := hb1.trans (hbX.mono hb1.size)
    have bq : Bk X w1.heap.size 27 (qC (cq q) ⟨a'.pN, a'.cN, none, 0, some ⟨w1.heap.size + 1, 0, none⟩, 1, none, 0⟩) := by
      show X.heap[_]? = _
      rw [hX, Below.heap_alloc _ _ _ (by simp)]
      exact heap_new _ _
    have bs : Bk X (w1.heap.size + 1) 56 (kG.flat [((1 : Int), (-1 : Int))]) := by
      show X.heap[_]? = _
      rw [hX]
      exact blk_at (by simp)
    have hS : ScIq X (cq q) ⟨a'.pN, a'.cN, none, 0, some ⟨w1.heap.size + 1, 0, none⟩, 1, none, 0⟩ pR R := {
      fl := h.fl.below hbWX, mon := h.mon.below hbWX, rc := h.rc.below hbWX, mx := h.mx.below hbWX (by have := h.six; omega), six := by have := h.six; have := hbWX.size; omega
      qi := ⟨(ht.n.lies kN_ok).below hbX, ⟨fun _ => rfl, fun k hk => by cases hk⟩, lies_bk kG_ok bs, ⟨fun _ => rfl, fun k hk => by cases hk⟩, h.qi.nn, by show 0 ≤ _; omega, by show 1 ≤ _; omega, by show 0 ≤ _; omega⟩
      nn := h.nn, nb := by show 0 ≤ _; omega, ns := by show 1 ≤ _; omega, no := by show 0 ≤ _; omega
      nd := h.nd
      sI := fun x hx => by
        have h2 : x = (1, -1) := by simpa [cq] using hx
        subst h2
        exact ⟨⟨by decide, by decide⟩, ⟨by decide, by decide⟩⟩
      lI := ⟨by show (_ : Int) ≤ -1; decide, by show (-1 : Int) ≤ _; decide⟩
      rl := h.rl.below hbWX, rn := h.rn, ro := h.ro }
    have hQ : QCp ⟨a'.pN, a'.cN, none, 0, some ⟨w1.heap.size + 1, 0, none⟩, 1, none, 0⟩ := by
      refine ⟨fun e => ?_, fun _ => rfl, fun e => (by cases e), fun _ => rfl⟩
      obtain ⟨p2, c2, e2, hp0, _⟩ := row_slice ht.n.row
      injection e2 with e2 _ e3
      have e2' : a'.pN = p2 := e2
      have e3' : a'.cN = c2 := e3
      show a'.cN = 0
      rw [e3']
      exact (hp0 (e2'.symm.trans e)).2
    refine ⟨run_ld32 (q := cq q) (a := ⟨a'.pN, a'.cN, none, 0, some ⟨w1.heap.size + 1, 0, none⟩, 1, none, 0⟩) (fun j u hu => by rw [bq.cell, Nat.zero_add]; exact hu), ?_⟩
    have D := lscan_any (cR := cR) hS hQ hcR
    rw [← hnR] at D
    refine Calls.mono (show Calls Tryz.prog 10 _ X _ from D) fun e w2 ho => ?_
    obtain ⟨px, nx, cx, py, ny, cy, T, LL, e1, e2, e3⟩ := ho.tab
    exact ⟨px, nx, cx, py, ny, cy, T, LL, by rw [hE]; exact e1, hbWX.trans (e2.mono hbWX.size), e3⟩
  have HA : Hid (A = (W.alloc (.cells #[.slice a.pN nN a.cN, .int .i64 q.wh, .slice a.pB q.by'.length a.cB, .slice a.pS q.sh.length a.cS, .slice a.pO q.ords.length a.cO, .int .i64 q.lim] 27))) := by rw [hnN]; exact hA
  rw [← hnR]
  show Calls Tryz.prog 14 #[.agg #[.slice a.pN q.nodes.length a.cN, .int .i64 q.wh, .slice a.pB q.by'.length a.cB, .slice a.pS q.sh.length a.cS, .slice a.pO q.ords.length a.cO, .int .i64 q.lim], .slice pR nR cR] W _
  rw [← hnN]
  rw [← hnN] at l27
  have HE := hide hE
  have HRL := hide hRl
  have HNN := hide hnN
  clear h hc hcR hA hBA b27 hnR hE hRl hnN
  go_enter Tryz.func14, Tryz.ntmps14
  go_upto_region 1 with fail
  rw [← unhide HA]
  go_wp2_with fail
  refine (unhide D13).mono ?_
  rintro e w1 ⟨a', rfl, ht⟩
  obtain ⟨X, hX⟩ : ∃ X, X = (w1.alloc (.cells #[.slice a'.pN nN a'.cN, .int .i64 q.wh, .slice none 0 0, .slice (some ⟨w1.heap.size + 1, 0, none⟩) 1 1, .slice none 0 0, .int .i64 (-1)] 27)).alloc (.cells #[.int .i64 1, .int .i64 (-1)] 56) := ⟨_, rfl⟩
  obtain ⟨lX, DX⟩ := unhide NX w1 a' (unhide ht) X hX
  have HDX := hide DX
  have HX := hide hX
  clear D13 NX ht DX hX l27
  go_upto_region 6 with fail
  rw [← unhide HX]
  clear HX
  go_wp2_with fail
  refine (unhide HDX).mono ?_
  rintro e w2 ⟨px, nx, cx, py, ny, cy, T, LL, rfl, hb2, ht⟩
  obtain ⟨Z, hZ⟩ : ∃ Z, Z = w2.alloc (.cells #[.slice px nx cx, .slice py ny cy] 34) := ⟨_, rfl⟩
  have hBZ : Below w2.heap.size w2 Z := by rw [hZ]; exact Below.a1 w2 _
  have bz : Bk Z w2.heap.size 34 [.slice px nx cx, .slice py ny cy] := by show Z.heap[_]? = _; rw [hZ]; exact heap_new _ _
  have HBZ : Hid (Below W.heap.size W Z) := hb2.trans (hBZ.mono hb2.size)
  have z1 : Z.cell? ⟨w2.heap.size, 1, none⟩ = some (.slice py ny cy) := bz.cell 1
  have HZ := hide hZ
  have hEc := scE_cases (cq q) R
  rw [← unhide HE] at hEc
  rcases hEc with e0 | e1
  · have hE0 : scE (cq q) R = 0 := (unhide HE).symm.trans e0
    obtain ⟨eT, eL⟩ := cq_T (unhide HRL) hE0 (unhide ht).2
    obtain ⟨t1, t2, _, t4⟩ := tbl_rows ((unhide ht).1.below hBZ)
    subst eT
    subst eL
    obtain ⟨b, off, p, c, r1, r2, r3, r4⟩ := t4 0 (by simp)
    obtain ⟨b2, off2, s1, _, _, s3, _⟩ := cell_row r4 (k := 0) (by simp)
    have hcv : cnV q R = (cntN q R : Int) := by unfold cnV; rw [if_pos hE0]
    have hcb : cnB q R = true := by unfold cnB; rw [hE0]; rfl
    have u3 : Z.cell? ⟨b2, off2 + 1, none⟩ = some (.int .i64 (cnV q R)) := by rw [hcv]; simpa using s3
    have r3' : Z.cell? ⟨b, off, none⟩ = some (.slice p 1 c) := by simpa using r3
    have t2' : ny = 1 := by simpa using t2
    subst e0
    subst s1
    subst r1
    subst t2'
    obtain ⟨V, hV⟩ : ∃ V, V = cnV q R := ⟨_, rfl⟩
    rw [← hV] at u3
    have HO := hide (show Ending.returned (.tuple #[.int .i64 V, .bool true]) = .returned (.tuple #[.int .i64 (cnV q R), .bool (cnB q R)]) from by rw [hcb, hV])
    clear hZ hBZ bz ht t1 t2 t4 r2 r3 r4 s3 hcv hcb hV hb2 hE0 HDX lX HE
    go_upto_region 7 with fail
    rw [← unhide HZ]
    go_wp2_with fail
    refine bodyPost_ret (results_tt Tryz.results14 rfl rfl) rfl ?_
    exact ⟨unhide HO, unhide HBZ⟩
  · have hE0 : ¬ scE (cq q) R = 0 := by rw [← unhide HE]; rcases e1 with e | e <;> (rw [e]; decide)
    have hcv : cnV q R = 0 := by unfold cnV; rw [if_neg hE0]
    have hcb : cnB q R = false := by unfold cnB; simpa using hE0
    have HO := hide (show Ending.returned (.tuple #[.int .i64 0, .bool false]) = .returned (.tuple #[.int .i64 (cnV q R), .bool (cnB q R)]) from by rw [hcb, hcv])
    clear hZ hBZ bz ht hb2 hE0 HDX lX HE hcv hcb
    rcases e1 with rfl | rfl
    all_goals
      go_upto_region 7 with fail
      rw [← unhide HZ]
      go_wp2_with fail
      refine bodyPost_ret (results_tt Tryz.results14 rfl rfl) rfl ?_
      exact ⟨unhide HO, unhide HBZ⟩
end
end Go.Proofs.YtbenciieenbmeaaGreatDoor
/- AnswerLimit: limits, and groups that rise (no program in it). -/
namespace Go.Proofs.YtbenciieenbmeaaGreatDoor
open Go Go.Shelf Go.ChangeShapes Go.WideShapes Go.ChangeAt Go.RowKit Go.Maps Go.Sort
set_option linter.unusedVariables false
set_option maxRecDepth 100000
set_option maxHeartbeats 4000000
/-- the query with another limit -/
def lq (q : Qy) (N : Int) : Qy := ⟨q.nodes, q.wh, q.by', q.sh, q.ords, N⟩
theorem lq_ok (q : Qy) {N : Int} (hN : -1 ≤ N) : okQ (lq q N) = okQ (lq q (-1)) := by
  rw [Bool.eq_iff_iff, ok_iff, ok_iff]
  exact ⟨fun h => ⟨h.p1, h.p2, h.p3, h.p4, h.p5, h.p6, Int.le_refl _⟩, fun h => ⟨h.p1, h.p2, h.p3, h.p4, h.p5, h.p6, hN⟩⟩
theorem lq_bad (q : Qy) {N : Int} (hN : N < -1) (R : List Ro) : scE (lq q N) R = 140 := by
  have : okQ (lq q N) = false := by
    cases h : okQ (lq q N) with
    | false => rfl
    | true =>
      have : -1 ≤ N := ((ok_iff _).1 h).p7
      omega
  unfold scE
  rw [this]; rfl
theorem lq_chk (q : Qy) {N : Int} (hN : -1 ≤ N) : chkL (lq q N) = chkL (lq q (-1)) := by
  unfold chkL
  rw [lq_ok q hN]; rfl
theorem lq_S (q : Qy) {N : Int} (hN : -1 ≤ N) : scS (lq q N) = scS (lq q (-1)) := by
  unfold scS
  rw [lq_chk q hN]; rfl
theorem lq_P (q : Qy) {N : Int} (hN : -1 ≤ N) : scP (lq q N) = scP (lq q (-1)) := by
  unfold scP
  rw [lq_chk q hN]; rfl
theorem lq_E (q : Qy) {N : Int} (hN : -1 ≤ N) (R : List Ro) : scE (lq q N) R = scE (lq q (-1)) R := by
  unfold scE
  rw [lq_ok q hN, lq_S q hN]; rfl
theorem lq_L (q : Qy) {N : Int} (hN : -1 ≤ N) (R : List Ro) (M : List (List Cl)) (h : ScL (lq q N) R M) : ScL (lq q (-1)) R M := by
  unfold ScL at h ⊢
  rw [lq_S q hN, lq_P q hN] at h
  exact h
theorem lq_T {q : Qy} {N : Int} (hN : -1 ≤ N) {R : List Ro} {T T' : List Int} {LL LL' : List (List Cl)} (h : ScT (lq q (-1)) R T LL) (h' : ScT (lq q N) R T' LL') : T' = T ∧ LL' = LL.take (limN N LL.length) := by
  rcases h with ⟨e0, e1, M, hM, e2⟩ | ⟨e0, e1, e2⟩
  · rcases h' with ⟨f0, f1, M', hM', f2⟩ | ⟨f0, _⟩
    · obtain ⟨hok, hov⟩ := scE_zero e0
      have eM : M' = M := ScL.one hok hov (lq_L q hN R M' hM') hM
      subst eM
      have el : LL = M'.map (rowL (scP (lq q (-1)))) := by
        rw [e2, show limN (lq q (-1)).lim M'.length = M'.length from rfl, List.take_length]
      refine ⟨by rw [f1, e1, lq_chk q hN], ?_⟩
      rw [f2, lq_P q hN, el, List.length_map, List.map_take]
      rfl
    · rw [lq_E q hN] at f0; exact absurd e0 f0
  · rcases h' with ⟨f0, _⟩ | ⟨f0, f1, f2⟩
    · rw [lq_E q hN] at f0; exact absurd f0 e0
    · subst e1 e2 f1 f2
      exact ⟨rfl, by simp⟩
theorem addF (n : Nat) : addL (keyF n) = keyF n := by
  induction n with
  | zero => rfl
  | succ n ih =>
    have e : keyF (n + 1) = keyF n ++ [((n : Int), false)] := by unfold keyF; rw [List.range_succ, List.map_append]; rfl
    rw [e, addL_snoc, ih]
    unfold addK
    rw [if_neg ?_]
    intro h
    obtain ⟨x, hx, hx2⟩ := List.mem_map.1 h
    unfold keyF at hx
    obtain ⟨i, hi, rfl⟩ := List.mem_map.1 hx
    have := List.mem_range.1 hi
    simp only at hx2
    omega
theorem cmpK_first {ks : List (Int × Bool)} {a b : List Cl} (h : cmpK ks a b < 0) : ∃ j, ∃ hj : j < ks.length, (∀ i (hi : i < j), cmp1 (ks[i]'(by omega)) a b = 0) ∧ cmp1 ks[j] a b < 0 := by
  induction ks with
  | nil => exact absurd h (by simp [cmpK])
  | cons k ks ih =>
    rw [cmpK_cons] at h
    by_cases h0 : cmp1 k a b = 0
    · rw [if_pos h0] at h
      obtain ⟨j, hj, h1, h2⟩ := ih h
      refine ⟨j + 1, by simp; omega, fun i hi => ?_, h2⟩
      cases i with
      | zero => exact h0
      | succ i => exact h1 i (by omega)
    · rw [if_neg h0] at h
      exact ⟨0, by simp, fun i hi => by omega, h⟩
theorem keyF_at {n i : Nat} (h : i < (keyF n).length) : (keyF n)[i] = ((i : Int), false) := by
  exact (List.getElem_map (l := List.range n) (fun (i : Nat) => ((i : Int), false))).trans (by rw [List.getElem_range])
theorem cmp1_f (i : Nat) (a b : List Cl) : cmp1 ((i : Int), false) a b = cmpC (a.getD i .no) (b.getD i .no) := rfl
theorem onP_first {κ : Type} [DecidableEq κ] (L : List κ) : ∀ j, j < (onD L).length → ∃ k0, ∃ h : k0 < (onP L).length, (onP L)[k0] = (j : Int) ∧ ∀ k (hk : k < k0), ∃ d : Nat, (onP L)[k]'(by omega) = (d : Int) ∧ d < j := by
  refine onD_ind (p := fun L => ∀ j, j < (onD L).length → ∃ k0, ∃ h : k0 < (onP L).length, (onP L)[k0] = (j : Int) ∧ ∀ k (hk : k < k0), ∃ d : Nat, (onP L)[k]'(by omega) = (d : Int) ∧ d < j) (fun j hj => by cases hj) (fun L x ih => ?_) L
  intro j hj
  by_cases hlt : j < (onD L).length
  · obtain ⟨k0, h0, h1, h2⟩ := ih j hlt
    have hl : k0 < (onP (L ++ [x])).length := by rw [onP_snoc, List.length_append]; omega
    refine ⟨k0, hl, ?_, fun k hk => ?_⟩
    · simp only [onP_snoc]
      rw [List.getElem_append_left h0]; exact h1
    · obtain ⟨d, h3, h4⟩ := h2 k hk
      refine ⟨d, ?_, h4⟩
      simp only [onP_snoc]
      rw [List.getElem_append_left (by omega)]; exact h3
  · rw [onD_snoc] at hj
    have hx : x ∉ onD L := fun hx => by rw [if_pos hx] at hj; exact hlt hj
    rw [if_neg hx, List.length_append, List.length_singleton] at hj
    have ej : j = (onD L).length := by omega
    have hpl := onP_len L
    have hl : (onP L).length < (onP (L ++ [x])).length := by rw [onP_snoc, List.length_append]; simp
    refine ⟨(onP L).length, hl, ?_, fun k hk => ?_⟩
    · simp only [onP_snoc]
      rw [List.getElem_append_right (Nat.le_refl _)]
      simp [hx, ej]
    · refine ⟨(onD L).idxOf (L[k]'(by omega)), ?_, ?_⟩
      · simp only [onP_snoc]
        rw [List.getElem_append_left hk]
        exact List.getElem_map (l := L) (fun x => (((onD L).idxOf x : Nat) : Int))
      · rw [ej]
        exact List.idxOf_lt_length_iff.2 ((mem_onD _ _).2 (List.getElem_mem _))
theorem fw_alike (f : Int) (r r' : Ro) : (fwC f r).num = (fwC f r').num ∨ (fwC f r).tx = (fwC f r').tx := by
  have hn : ∀ t n t' n', (numC t n).tx = (numC t' n').tx := fun t n t' n' => by
    unfold numC fit; split <;> split <;> rfl
  have hf : ∀ b c b' c', c.tx = c'.tx → c.tx = (⟨#[]⟩ : ByteArray) → (fit b c).tx = (fit b' c').tx := fun b c b' c' h h2 => by
    have h3 : c'.tx = (⟨#[]⟩ : ByteArray) := h.symm.trans h2
    cases b <;> cases b' <;> simp [fit, h2, h3, Cl.no]
  have hA : ∀ n n', (amtC f n).tx = (amtC f n').tx := fun n n' => by
    unfold amtC; repeat' split
    all_goals first | rfl | exact hn _ _ _ _ | (exact hf _ _ _ _ rfl rfl) | (unfold Cl.no numC fit; repeat' split <;> rfl)
  have hD : ∀ n n', (dayC f n).tx = (dayC f n').tx := fun n n' => by
    unfold dayC; repeat' split
    all_goals first | rfl | exact hn _ _ _ _ | (exact hf _ _ _ _ rfl rfl) | (unfold Cl.no numC fit; repeat' split <;> rfl)
  unfold fwC
  split; exact .inr (hn _ _ _ _)
  split; exact .inr (hn _ _ _ _)
  split; exact .inr (hn _ _ _ _)
  split; exact .inl rfl
  split; exact .inl rfl
  split; exact .inl rfl
  split; exact .inl rfl
  split; exact .inl rfl
  split; exact .inr (hA _ _)
  exact .inr (hD _ _)
def LessC (c d : Cl) : Prop := (c.num < d.num ∧ c.tx = d.tx) ∨ (c.num = d.num ∧ c.tx.data.toList < d.tx.data.toList)
def RiseAt (nB : Nat) (a b : List Cl) : Prop := ∃ k0, k0 < nB ∧ (∀ k, k < k0 → (a.getD k .no).num = (b.getD k .no).num ∧ (a.getD k .no).tx = (b.getD k .no).tx) ∧ LessC (a.getD k0 .no) (b.getD k0 .no)
theorem ksF_nd (q : Qy) (F : List Int) (S : List Ag) (R : List Ro) : (ksF q F S R).Nodup := by
  unfold ksF
  have h0 : (ksR q F R).Nodup := nodup_onD _
  split
  · split
    · exact h0
    · rename_i h1
      rw [List.nodup_append]
      exact ⟨h0, by simp, fun a ha b hb e => by rw [List.mem_singleton.1 hb] at e; subst e; exact h1 ha⟩
  · exact h0
theorem nodup_map_on {α β : Type} {f : α → β} : ∀ {L : List α}, L.Nodup → (∀ a ∈ L, ∀ b ∈ L, f a = f b → a = b) → (L.map f).Nodup
  | [], _, _ => by simp
  | x :: L, hn, h => by
    rw [List.nodup_cons] at hn
    rw [List.map_cons, List.nodup_cons]
    refine ⟨fun hm => ?_, nodup_map_on hn.2 (fun a ha b hb => h a (by simp [ha]) b (by simp [hb]))⟩
    obtain ⟨y, hy, e⟩ := List.mem_map.1 hm
    have := h y (by simp [hy]) x (by simp) e
    subst this
    exact hn.1 hy
theorem lines_nd {q : Qy} {R : List Ro} (hok : okQ q = true) : (linesL q (scF q) (scS q) R).Nodup := by
  have h14 : (scF q).length ≤ 14 := ok_by hok
  unfold linesL
  refine nodup_map_on (ksF_nd _ _ _ _) (fun k hk k' hk' e => ?_)
  have l1 := ksF_14 h14 k hk
  have l2 := ksF_14 h14 k' hk'
  have e1 : k.take (scF q).length = k'.take (scF q).length := by
    have := congrArg (List.take (scF q).length) e
    unfold lnC at this
    rwa [List.take_append_of_le_length (by rw [List.length_take]; omega), List.take_append_of_le_length (by rw [List.length_take]; omega), List.take_take, List.take_take, Nat.min_self] at this
  rw [key_rest h14 hk, key_rest h14 hk', e1]
theorem line_cell {q : Qy} {R : List Ro} (hok : okQ q = true) {a : List Cl} (ha : a ∈ linesL q (scF q) (scS q) R) {j : Nat} (hj : j < (scF q).length) : ∃ r, a.getD j .no = fwC ((scF q)[j]) r := by
  have h14 : (scF q).length ≤ 14 := ok_by hok
  unfold linesL at ha
  obtain ⟨k, hk, rfl⟩ := List.mem_map.1 ha
  have l1 := ksF_14 h14 k hk
  have hk2 : k ∈ ksR q (scF q) R := by
    unfold ksF at hk
    rw [if_neg (fun h => by rw [h.1] at hj; cases hj)] at hk
    exact hk
  unfold ksR at hk2
  rw [mem_onD] at hk2
  obtain ⟨r, _, rfl⟩ := List.mem_map.1 hk2
  refine ⟨r, ?_⟩
  unfold lnC
  rw [List.getD_eq_getElem?_getD, List.getElem?_append_left (by rw [List.length_take]; omega), List.getElem?_take, if_pos hj]
  unfold keyK
  rw [List.getElem?_append_left (by rw [List.length_map]; exact hj), List.getElem?_map, List.getElem?_eq_getElem hj]
  rfl
theorem col_at {q : Qy} {a : List Cl} {k : Nat} (hk : k < (onP q.by').length) : (rowL (scP q) a).getD k .no = a.getD ((onP q.by')[k]).toNat .no := by
  unfold rowL scP plL
  rw [List.getD_eq_getElem?_getD, List.getElem?_map, List.getElem?_append_left hk, List.getElem?_eq_getElem hk]
  rfl
theorem rise_at {q : Qy} {R : List Ro} (hok : okQ q = true) (hov : overB q (scF q) (scS q) R = false) (ho : q.ords = []) {M : List (List Cl)} (hM : ScL q R M) {i : Nat} (hi : i + 1 < M.length) : RiseAt q.by'.length (rowL (scP q) M[i]) (rowL (scP q) M[i + 1]) := by
  have hnd : M.Nodup := hM.1.nodup_iff.2 (lines_nd hok)
  have h1 := List.pairwise_iff_getElem.1 hM.2 i (i + 1) (by omega) hi (by omega)
  have ma : M[i] ∈ linesL q (scF q) (scS q) R := hM.1.mem_iff.1 (List.getElem_mem _)
  have mb : M[i + 1] ∈ linesL q (scF q) (scS q) R := hM.1.mem_iff.1 (List.getElem_mem _)
  have hne : cmpK (keysL (scP q) q.ords (scF q).length) M[i] M[i + 1] ≠ 0 := fun e => by
    have := line_one hok hov ma mb e
    have := (List.getElem_inj hnd).1 this
    omega
  have hlt : cmpK (keysL (scP q) q.ords (scF q).length) M[i] M[i + 1] < 0 := by
    have := cmpK_anti (keysL (scP q) q.ords (scF q).length) M[i] M[i + 1]
    omega
  have ek : keysL (scP q) q.ords (scF q).length = keyF (scF q).length := by
    rw [ho]; exact addF _
  rw [ek] at hlt
  obtain ⟨j, hj, c1, c2⟩ := cmpK_first hlt
  have hjl : j < (scF q).length := by simpa [keyF] using hj
  rw [keyF_at, cmp1_f] at c2
  have c1' : ∀ d, d < j → cmpC (M[i].getD d .no) (M[i + 1].getD d .no) = 0 := fun d hd => by
    have := c1 d hd
    rw [keyF_at, cmp1_f] at this
    exact this
  obtain ⟨k0, hk0, e0, hb⟩ := onP_first q.by' j hjl
  have hpl := onP_len q.by'
  refine ⟨k0, by omega, fun k hk => ?_, ?_⟩
  · obtain ⟨d, hd1, hd2⟩ := hb k hk
    rw [col_at (by omega), col_at (by omega), hd1, Int.toNat_natCast]
    have := (cmpC_zero _ _).1 (c1' d hd2)
    exact ⟨this.1, bytes_ext this.2⟩
  · rw [col_at hk0, col_at hk0, e0, Int.toNat_natCast]
    rcases (cmpC_neg _ _).1 c2 with h | h
    · obtain ⟨r, er⟩ := line_cell hok ma hjl
      obtain ⟨r', er'⟩ := line_cell hok mb hjl
      refine .inl ⟨h, ?_⟩
      rcases fw_alike ((scF q)[j]) r r' with h3 | h3
      · rw [er, er'] at h; omega
      · rw [er, er']; exact h3
    · exact .inr h
end Go.Proofs.YtbenciieenbmeaaGreatDoor
/- AnswerLimit (4): its walk. -/
namespace Go.Proofs.YtbenciieenbmeaaGreatDoor
open Go Go.Shelf Go.ChangeShapes Go.WideShapes Go.ChangeAt Go.RowKit Go.Maps Go.Sort
set_option linter.unusedVariables false
set_option maxRecDepth 100000
set_option maxHeartbeats 8000000
theorem row_cap0 {w : World} {B e s n : Nat} {p : Option Addr} {c : Nat} {xs : List Value} (h : w.ownsRow B e s (.slice p n c) n xs) (e0 : p = none) : c = 0 := by
  obtain ⟨p2, c2, e2, hp0, _⟩ := row_slice h
  injection e2 with e2 _ e3
  subst e2
  subst e3
  exact (hp0 e0).2
theorem Twn.qcp {w w' : World} {q : Qy} {a : Qa} (h : Twn w w' q a) : QCp a := ⟨row_cap0 h.n.row, row_cap0 h.b.row, row_cap0 h.s.row, row_cap0 h.o.row⟩
theorem Twn.qin {w w' : World} {q : Qy} {a : Qa} (h : Twn w w' q a) (hn : q.nodes.length ≤ 2600000000000 ∧ q.by'.length ≤ 17600000000000 ∧ q.sh.length ≤ 8800000000000 ∧ q.ords.length ≤ 8800000000000) : QIn w' q a := ⟨h.n.lies kN_ok, h.b.lies kI_ok, h.s.lies kG_ok, h.o.lies kO_ok, hn.1, hn.2.1, hn.2.2.1, hn.2.2.2⟩
theorem Lies.take' {α : Type} {K : Kd α} {W : World} {p : Option Addr} {L : List α} (h : Lies K W p L) (k : Nat) : Lies K W p (L.take k) := by
  refine ⟨fun e => by rw [h.1 e]; simp, fun i hi => ?_⟩
  have hi' : i < L.length := by rw [List.length_take] at hi; omega
  obtain ⟨b, off, e, hlt, hr⟩ := h.2 i hi'
  refine ⟨b, off, e, hlt, ?_⟩
  rw [List.getElem_take]
  exact hr
theorem TblOut.take {B : Nat} {w : World} {px py : Option Addr} {nx cx ny cy : Nat} {T : List Int} {LL : List (List Cl)} (h : TblOut B w (.agg #[.slice px nx cx, .slice py ny cy]) T LL) {k : Nat} (hk : k ≤ LL.length) : TblOut B w (.agg #[.slice px nx cx, .slice py k cy]) T (LL.take k) := by
  obtain ⟨pT, cT, pR, cR, ts, ev, h2, ⟨h4, h5⟩, h6, h7⟩ := h
  simp only [Value.agg.injEq, Array.mk.injEq, List.cons.injEq, Value.slice.injEq, and_true] at ev
  obtain ⟨⟨rfl, rfl, rfl⟩, rfl, rfl, rfl⟩ := ev
  have el : (LL.take k).length = k := by rw [List.length_take]; omega
  refine ⟨px, cx, py, cy, ts.take k, by rw [el], h2, ⟨h4.take' k, h5.1, by have := h5.2; rw [el]; omega⟩, by rw [List.length_take, List.length_take, h6], fun i hi => ?_⟩
  have hik : i < k := by omega
  obtain ⟨p, c, e1, e2, e3⟩ := h7 i (by omega)
  have e4 : (LL.take k)[i] = LL[i] := List.getElem_take
  rw [e4]
  exact ⟨p, c, by rw [List.getElem?_take, if_pos hik]; exact e1, e2, e3⟩
theorem bl_is (x y : ByteArray) : Op.bytesLess x.toList y.toList = decide (x.data.toList < y.data.toList) := by rw [Go.Proofs.bytesLess_eq, ByteArray.toList_eq, ByteArray.toList_eq]
theorem bl_no {x y : ByteArray} (h : ¬ x.data.toList < y.data.toList) : Op.bytesLess x.toList y.toList = false := by rw [bl_is]; simpa using h
theorem bl_yes {x y : ByteArray} (h : x.data.toList < y.data.toList) : Op.bytesLess x.toList y.toList = true := by rw [bl_is]; simpa using h
theorem tbl_cap {B : Nat} {w : World} {px py : Option Addr} {nx cx ny cy : Nat} {T : List Int} {LL : List (List Cl)} (h : TblOut B w (.agg #[.slice px nx cx, .slice py ny cy]) T LL) : ny ≤ cy := by
  obtain ⟨pT, cT, pR, cR, ts, ev, h2, ⟨h4, h5⟩, h6, h7⟩ := h
  simp only [Value.agg.injEq, Array.mk.injEq, List.cons.injEq, Value.slice.injEq, and_true] at ev
  obtain ⟨⟨rfl, rfl, rfl⟩, rfl, rfl, rfl⟩ := ev
  exact h5.2
section
attribute [local go_sem ↓] ld32_is ld34_is ldC_is
theorem limit_walk {W : World} {q : Qy} {a : Qa} {pR : Option Addr} {cR : Nat} {R : List Ro} {pP : Option Addr} {cP : Nat} {P : List Int} (n : Int) (g : Glb W) (h : Arg W q a pR cR R) (hP : Lies kI W pP P) (hPl : P.length ≤ 1048575) (hPi : ∀ x ∈ P, inI x) (hnI : inI n) :
    Calls Tryz.prog 4 #[.agg #[.slice a.pN q.nodes.length a.cN, .int .i64 q.wh, .slice a.pB q.by'.length a.cB, .slice a.pS q.sh.length a.cS, .slice a.pO q.ords.length a.cO, .int .i64 q.lim, .slice pR R.length cR, .slice pP P.length cP, .int .i64 n]] W fun e w' => e = .returned (.bool true) ∧ Below W.heap.size W w' := by
  obtain ⟨qa, hqa⟩ : ∃ v, v = qV q a := ⟨_, rfl⟩
  obtain ⟨nR, hnR⟩ : ∃ k, k = R.length := ⟨_, rfl⟩
  obtain ⟨nP, hnP⟩ : ∃ k, k = P.length := ⟨_, rfl⟩
  obtain ⟨nN, hnN⟩ : ∃ k, k = q.nodes.length := ⟨_, rfl⟩
  obtain ⟨nB, hnB⟩ : ∃ k, k = q.by'.length := ⟨_, rfl⟩
  obtain ⟨nS, hnS⟩ : ∃ k, k = q.sh.length := ⟨_, rfl⟩
  obtain ⟨nO, hnO⟩ : ∃ k, k = q.ords.length := ⟨_, rfl⟩
  obtain ⟨E1, hE1⟩ : ∃ E, E = scE (lq q (-1)) R := ⟨_, rfl⟩
  obtain ⟨E2, hE2⟩ : ∃ E, E = scE (lq q n) R := ⟨_, rfl⟩
  obtain ⟨A, hA⟩ : ∃ A, A = W.alloc (.cells (qC q a ++ [Value.slice pR nR cR, .slice pP nP cP, .int .i64 n]).toArray 30) := ⟨_, rfl⟩
  have hBA : Below W.heap.size W A := by rw [hA]; exact Below.a1 W _
  have hAs : W.heap.size < A.heap.size := by rw [hA]; simp
  have bA : Bk A W.heap.size 30 (qC q a ++ [Value.slice pR nR cR, .slice pP nP cP, .int .i64 n]) := by show A.heap[_]? = _; rw [hA]; exact heap_new _ _
  have hnRb : nR ≤ 1048575 := by rw [hnR]; exact h.rn
  have D9 := hide (first9 (g.fl.below hBA) (g.mon.below hBA) (g.rc.below hBA) (g.mx.below hBA (by have := g.six; omega)) (by have := g.six; omega))
  have LD : Hid (∀ w1, Below A.heap.size A w1 → (ld32 (.pointer (some ⟨W.heap.size, 0, none⟩))).run Tryz.prog w1 = .ok qa w1 ∧ w1.cell? ⟨W.heap.size, 6, none⟩ = some (.slice pR nR cR) ∧ w1.cell? ⟨W.heap.size, 8, none⟩ = some (.int .i64 n)) := fun w1 hb => by
    have b1 := bA.same (hb.block _ hAs)
    refine ⟨?_, b1.cell 6, b1.cell 8⟩
    rw [hqa]
    refine run_ld32 (fun j u hu => ?_)
    rw [b1.cell, Nat.zero_add]
    have hj : j < 6 := (List.getElem?_eq_some_iff.1 hu).1
    rw [List.getElem?_append_left hj]
    exact hu
  have D13 : Hid (∀ w1, Below A.heap.size A w1 → Calls Tryz.prog 13 #[qa] w1 fun e w2 => ∃ a', e = .returned (.agg #[.slice a'.pN nN a'.cN, .int .i64 q.wh, .slice a'.pB nB a'.cB, .slice a'.pS nS a'.cS, .slice a'.pO nO a'.cO, .int .i64 q.lim]) ∧ Hid (Twn w1 w2 q a')) := fun w1 hb => by
    have hbW : Below W.heap.size W w1 := hBA.trans (hb.mono hBA.size)
    rw [hqa, hnN, hnB, hnS, hnO]
    exact copied_any (h.qi.below hbW) h.qc
  have SC : Hid (∀ w1 w2 a', Below A.heap.size A w1 → Twn w1 w2 q a' → ∀ N, inI N → ∀ Y, Below w2.heap.size w2 Y → Calls Tryz.prog 10 #[.agg #[.slice a'.pN nN a'.cN, .int .i64 q.wh, .slice a'.pB nB a'.cB, .slice a'.pS nS a'.cS, .slice a'.pO nO a'.cO, .int .i64 N], .slice pR nR cR] Y fun e w' => ∃ px nx cx py ny cy T LL, e = .returned (.tuple #[.agg #[.slice px nx cx, .slice py ny cy], .int .i64 (scE (lq q N) R)]) ∧ Below Y.heap.size Y w' ∧ Hid (TblOut Y.heap.size w' (.agg #[.slice px nx cx, .slice py ny cy]) T LL ∧ ScT (lq q N) R T LL)) := fun w1 w2 a' hb ht N hN Y hY => by
    have hbW : Below W.heap.size W w1 := hBA.trans (hb.mono hBA.size)
    have hb12 := ht.n.bel
    have hbW2 : Below W.heap.size W w2 := hbW.trans (hb12.mono hbW.size)
    have hbY : Below W.heap.size W Y := hbW2.trans (hY.mono hbW2.size)
    have hq := (ht.qin ⟨by have := h.nn; omega, by have := h.nb; omega, by have := h.ns; omega, by have := h.no; omega⟩).below hY
    have hS : ScIq Y (lq q N) a' pR R := ⟨g.fl.below hbY, g.mon.below hbY, g.rc.below hbY, g.mx.below hbY (by have := g.six; omega), Nat.le_trans g.six hbY.size, ⟨hq.n, hq.b, hq.s, hq.o, hq.nn, hq.nb, hq.ns, hq.no⟩, by have := h.nn; show q.nodes.length ≤ _; omega, by have := h.nb; show q.by'.length ≤ _; omega, by have := h.ns; show q.sh.length ≤ _; omega, by have := h.no; show q.ords.length ≤ _; omega, h.nd, h.sI, hN, h.rl.below hbY, by have := h.rn; omega, h.ro⟩
    have D := lscan_any (cR := cR) hS ht.qcp h.rc
    rw [hnR, hnN, hnB, hnS, hnO]
    refine Calls.mono (show Calls Tryz.prog 10 _ Y _ from D) fun e w' ho => ?_
    obtain ⟨px, nx, cx, py, ny, cy, T, LL, e1, e2, e3⟩ := ho.tab
    exact ⟨px, nx, cx, py, ny, cy, T, LL, e1, e2, e3⟩
  have HA : Hid (A = W.alloc (.cells #[.slice a.pN nN a.cN, .int .i64 q.wh, .slice a.pB nB a.cB, .slice a.pS nS a.cS, .slice a.pO nO a.cO, .int .i64 q.lim, .slice pR nR cR, .slice pP nP cP, .int .i64 n] 30)) := by rw [hnN, hnB, hnS, hnO]; exact hA
  have HBA := hide hBA; have HNR := hide hnR; have HE1 := hide hE1; have HE2 := hide hE2
  have HNB := hide hnB; have HNS := hide hnS; have HNO := hide hnO; have HNN := hide hnN
  have HBS : Hid (nB ≤ 1048575 ∧ nS ≤ 1048575 ∧ nO ≤ 1048575) := by rw [hnB, hnS, hnO]; exact ⟨h.nb, h.ns, h.no⟩
  have hnBb : nB ≤ 1048575 := by rw [hnB]; exact h.nb
  have hnOb : nO ≤ 1048575 := by rw [hnO]; exact h.no
  have hnI1 : -9223372036854775808 ≤ n := hnI.1
  have hnI2 : n ≤ 9223372036854775807 := hnI.2
  rw [← hnR, ← hnP, ← hnN, ← hnB, ← hnS, ← hnO]
  clear g h hP hPl hPi hqa hnR hnP hA hBA hAs bA hnN hnB hnS hnO hE1 hE2
  go_enter Tryz.func4, Tryz.ntmps4
  go_upto_region 1 with fail
  rw [← unhide HA]
  clear HA
  go_wp2_with fail
  refine (unhide D9).mono ?_
  rintro e w1 ⟨rfl, hb1⟩
  obtain ⟨l1, l2, l3⟩ := unhide LD w1 hb1
  have D := hide (unhide D13 w1 hb1)
  have HB1 := hide hb1
  clear hb1 D9 l3 l2 D13
  go_wp2_with fail
  refine (unhide D).mono ?_
  rintro e w2 ⟨a', rfl, ht⟩
  obtain ⟨X, hX⟩ : ∃ X, X = w2.alloc (.cells #[.slice a'.pN nN a'.cN, .int .i64 q.wh, .slice a'.pB nB a'.cB, .slice a'.pS nS a'.cS, .slice a'.pO nO a'.cO, .int .i64 (-1)] 27) := ⟨_, rfl⟩
  have hb2X : Below w2.heap.size w2 X := by rw [hX]; exact Below.a1 w2 _
  have bX : Bk X w2.heap.size 27 (qC (lq q (-1)) a') := by
    show X.heap[_]? = _
    unfold qC lq
    simp only
    rw [hX, unhide HNN, unhide HNB, unhide HNS, unhide HNO]
    exact heap_new _ _
  have hXs : w2.heap.size < X.heap.size := by rw [hX]; simp
  have hbA2 : Below A.heap.size A w2 := (unhide HB1).trans ((unhide ht).n.bel.mono (unhide HB1).size)
  have hbAX : Below A.heap.size A X := hbA2.trans (hb2X.mono hbA2.size)
  have SN := hide (unhide SC w1 w2 a' (unhide HB1) (unhide ht))
  have DS := hide (unhide SN (-1) ⟨by decide, by decide⟩ X hb2X)
  rw [← unhide HE1] at DS
  have lX : (ld32 (.pointer (some ⟨w2.heap.size, 0, none⟩))).run Tryz.prog X = .ok (.agg #[.slice a'.pN nN a'.cN, .int .i64 q.wh, .slice a'.pB nB a'.cB, .slice a'.pS nS a'.cS, .slice a'.pO nO a'.cO, .int .i64 (-1)]) X := by
    rw [unhide HNN, unhide HNB, unhide HNS, unhide HNO]
    exact run_ld32 (q := lq q (-1)) (a := a') (fun j u hu => by rw [bX.cell, Nat.zero_add]; exact hu)
  have lR := (unhide LD X hbAX).2.1
  have HX := hide hX; have HbX := hide bX; have HXs := hide hXs; have HAX := hide hbAX; have H2X := hide hb2X; have HA2 := hide hbA2
  clear hX bX hXs hbAX hb2X hbA2 D SC l1 ht
  go_upto_region 6 with fail
  rw [← unhide HX]
  clear HX
  go_wp2_with fail
  refine (unhide DS).mono ?_
  rintro e w3 ⟨px, nx, cx, py, ny, cy, T, LL, rfl, hb3, ht3⟩
  obtain ⟨B, hB⟩ : ∃ B, B = w3.alloc (.cells #[.slice px nx cx, .slice py ny cy] 34) := ⟨_, rfl⟩
  have hb3B : Below w3.heap.size w3 B := by rw [hB]; exact Below.a1 w3 _
  have bB : Bk B w3.heap.size 34 [.slice px nx cx, .slice py ny cy] := by show B.heap[_]? = _; rw [hB]; exact heap_new _ _
  have hXB : Below X.heap.size X B := hb3.trans (hb3B.mono hb3.size)
  have hT3 := (unhide ht3).1.below hb3B
  have hS3 := (unhide ht3).2
  obtain ⟨hqb, hqs, hqo⟩ := unhide HBS
  have hRl := unhide HNR
  have hl3 := hS3.len
  have hTl : T.length ≤ 4194304 := by have h1 := hl3.1; have h2 : (lq q (-1)).by'.length = nB := (unhide HNB).symm; have h3 : (lq q (-1)).sh.length = nS := (unhide HNS).symm; omega
  have hLl : LL.length ≤ 2097152 := by have := hl3.2; omega
  have D12 := hide (shaped_yes hT3 hS3.ty hTl (by omega))
  have lB : (ld34 (.pointer (some ⟨w3.heap.size, 0, none⟩))).run Tryz.prog B = .ok (.agg #[.slice px nx cx, .slice py ny cy]) B := bB.ld34
  have HX3 := hide hb3.size
  have HB := hide hB; have HXB := hide hXB; have HT3 := hide hT3; have HS3 := hide hS3; have HBB := hide bB; have HTL := hide hTl; have HLL := hide hLl
  clear hB hb3B bB hXB hT3 hS3 hqb hqs hqo hRl hl3 hTl hLl hb3 ht3 DS lX lR
  go_upto_region 7 with fail
  rw [← unhide HB]
  clear HB
  go_wp2_with fail
  refine (unhide D12).mono ?_
  rintro e w4 ⟨rfl, hb4⟩
  have hX4 : Below X.heap.size X w4 := (unhide HXB).trans (hb4.mono (unhide HXB).size)
  have hA4 : Below A.heap.size A w4 := (unhide HAX).trans (hX4.mono (unhide HAX).size)
  have b4 : Bk w4 w2.heap.size 27 (qC (lq q (-1)) a') := (unhide HbX).same (hX4.block _ (unhide HXs))
  have c4 : w4.cell? ⟨w2.heap.size, 5, none⟩ = some (.int .i64 (-1)) := b4.cell 5
  have f4 : w4.frozen? ⟨w2.heap.size, 5, none⟩ = false := froz_at b4
  have n4 := (unhide LD w4 hA4).2.2
  obtain ⟨Y, hY⟩ : ∃ Y, Y = w4.setCell ⟨w2.heap.size, 5, none⟩ (.int .i64 n) := ⟨_, rfl⟩
  have bY : Bk Y w2.heap.size 27 (qC (lq q n) a') := by show Y.heap[_]? = _; rw [hY, heap_set b4]; rfl
  have h24 : Below w2.heap.size w2 w4 := (unhide H2X).trans (hX4.mono (unhide H2X).size)
  have h2Y : Below w2.heap.size w2 Y := by rw [hY]; exact h24.setCell (p := ⟨w2.heap.size, 5, none⟩) (by show w2.heap.size ≤ w2.heap.size; omega) _
  have hAY : Below A.heap.size A Y := (unhide HA2).trans (h2Y.mono (unhide HA2).size)
  have hkY : ∀ k, k < w4.heap.size → k ≠ w2.heap.size → Y.heap[k]? = w4.heap[k]? := fun k _ hk => by rw [hY]; exact Below.heap_setCell _ _ _ _ hk
  have hYs : Y.heap.size = w4.heap.size := by rw [hY]; simp
  have lY : (ld32 (.pointer (some ⟨w2.heap.size, 0, none⟩))).run Tryz.prog Y = .ok (.agg #[.slice a'.pN nN a'.cN, .int .i64 q.wh, .slice a'.pB nB a'.cB, .slice a'.pS nS a'.cS, .slice a'.pO nO a'.cO, .int .i64 n]) Y := by
    rw [unhide HNN, unhide HNB, unhide HNS, unhide HNO]
    exact run_ld32 (q := lq q n) (a := a') (fun j u hu => by rw [bY.cell, Nat.zero_add]; exact hu)
  have lYR := (unhide LD Y hAY).2.1
  have DS := hide (unhide SN n ⟨hnI1, hnI2⟩ Y h2Y)
  rw [← unhide HE2] at DS
  have hBY : Fr B Y (fun i => i = w2.heap.size) := by
    rw [hY]
    exact (Fr.of_below hb4 (fun i => i = w2.heap.size)).setCell (p := ⟨w2.heap.size, 5, none⟩) (.inl rfl) _
  have hgB := (unhide HBB).lt
  have hw23 : w2.heap.size < w3.heap.size := Nat.lt_of_lt_of_le (unhide HXs) (unhide HX3)
  have tY : TblOut X.heap.size Y (.agg #[.slice px nx cx, .slice py ny cy]) T LL := (unhide HT3).fr hBY (fun j e => by rw [e]; exact unhide HXs)
  have b5Y : Bk Y w3.heap.size 34 [.slice px nx cx, .slice py ny cy] := (unhide HBB).same (hBY.block _ hgB (by omega))
  have HY := hide hY; have HtY := hide tY; have Hb5Y := hide b5Y; have HbY := hide bY; have HAY := hide hAY
  clear D12 hX4 hA4 b4 hY bY h24 h2Y hAY hkY hYs hBY hgB hw23 tY b5Y hb4 lB SN HbX HXB HT3 HBB HAX H2X HA2 HXs HX3
  go_upto_region 11 with fail
  rw [← unhide HY]
  clear HY c4 f4 n4
  go_wp2_with fail
  refine (unhide DS).mono ?_
  rintro e w5 ⟨qx, mx, dx, qy, my, dy, T', LL', rfl, hb5, ht5⟩
  obtain ⟨C, hC⟩ : ∃ C, C = w5.alloc (.cells #[.slice qx mx dx, .slice qy my dy] 34) := ⟨_, rfl⟩
  have h5C : Below w5.heap.size w5 C := by rw [hC]; exact Below.a1 w5 _
  have hYC : Below Y.heap.size Y C := hb5.trans (h5C.mono hb5.size)
  have bC8 : Bk C w5.heap.size 34 [.slice qx mx dx, .slice qy my dy] := by show C.heap[_]? = _; rw [hC]; exact heap_new _ _
  have bC5 := (unhide Hb5Y).same (hYC.block _ (unhide Hb5Y).lt)
  have bC4 := (unhide HbY).same (hYC.block _ (unhide HbY).lt)
  have tC := (unhide HtY).below hYC
  have uC := (unhide ht5).1.below h5C
  have hAC : Below A.heap.size A C := (unhide HAY).trans (hYC.mono (unhide HAY).size)
  have nC := (unhide LD C hAC).2.2
  have HC := hide hC; have HbC8 := hide bC8; have HbC5 := hide bC5; have HbC4 := hide bC4; have HtC := hide tC; have HuC := hide uC; have HS5 := hide (unhide ht5).2; have HAC := hide hAC
  have HOW : Hid (∀ w', Below C.heap.size C w' → Below W.heap.size W w') := fun w' hb => by
    have h1 : Below W.heap.size W C := (unhide HBA).trans (hAC.mono (unhide HBA).size)
    exact h1.trans (hb.mono h1.size)
  clear hC h5C hYC bC8 bC5 bC4 tC uC hAC hb5 ht5 DS HtY Hb5Y HbY HAY lY lYR
  go_upto_region 12 with fail
  rw [← unhide HC]
  clear HC
  by_cases hn1 : n < -1
  · have e140 : E2 = 140 := by rw [unhide HE2]; exact lq_bad q hn1 R
    subst e140
    go_wp2_with fail
    go_ret
    exact ⟨rfl, unhide HOW _ (Below.refl _ _)⟩
  have hn2 : -1 ≤ n := by omega
  have eE : E2 = E1 := by rw [unhide HE2, unhide HE1]; exact lq_E q hn2 R
  obtain ⟨eT, eL⟩ := lq_T hn2 (unhide HS3) (unhide HS5)
  obtain ⟨enx, eny, _, _⟩ := tbl_rows (unhide HtC)
  have x5 : C.cell? ⟨w3.heap.size, 0, none⟩ = some (.slice px nx cx) := (unhide HbC5).cell 0
  have y5 : C.cell? ⟨w3.heap.size, 1, none⟩ = some (.slice py ny cy) := (unhide HbC5).cell 1
  have hnyb : ny ≤ 2097152 := by rw [eny]; exact unhide HLL
  have hcap : ny ≤ cy := tbl_cap (unhide HtC)
  have HL' := hide eL; have HT' := hide eT; have HNY := hide eny
  subst eE
  clear eT eL enx eny hn1
  obtain ⟨F0, hF0⟩ : ∃ F, F = C.alloc (.cells #[.slice px nx cx, .slice py ny cy] 34) := ⟨_, rfl⟩
  have hCF0 : Below C.heap.size C F0 := by rw [hF0]; exact Below.a1 C _
  have bF0 : Bk F0 C.heap.size 34 [.slice px nx cx, .slice py ny cy] := by show F0.heap[_]? = _; rw [hF0]; exact heap_new _ _
  have c10 : F0.cell? ⟨C.heap.size, 1, none⟩ = some (.slice py ny cy) := bF0.cell 1
  have f10 : F0.frozen? ⟨C.heap.size, 1, none⟩ = false := froz_at bF0
  have nF := (unhide LD F0 ((unhide HAC).trans (hCF0.mono (unhide HAC).size))).2.2
  have yF : F0.cell? ⟨w3.heap.size, 1, none⟩ = some (.slice py ny cy) := ((unhide HbC5).same (hCF0.block _ (unhide HbC5).lt)).cell 1
  have HF0 := hide hF0; have HCF0 := hide hCF0; have HbF0 := hide bF0
  clear hF0 hCF0 bF0
  go_upto_region 17 with fail
  rw [← unhide HF0]
  clear HF0 x5 y5 nC
  go_cut [68] (fun v68 wx => ∃ bb : Bool, v68 = .bool bb ∧ Hid (wx = F0) ∧ Hid (bb = true ↔ 0 ≤ n ∧ n < (ny : Int)))
  case first =>
    by_cases h0 : n < 0
    · go_wp2_with fail
      go_meet
      exact ⟨false, by simp, rfl, fun h => (by cases h), fun h => absurd h.1 (by omega)⟩
    · by_cases h1 : n < (ny : Int)
      · go_wp2_with fail
        go_meet
        exact ⟨true, by simp, rfl, fun _ => ⟨by omega, h1⟩, fun _ => rfl⟩
      · go_wp2_with fail
        go_meet
        exact ⟨false, by simp, rfl, fun h => (by cases h), fun h => absurd h.2 (by omega)⟩
  obtain ⟨bb, rfl, hwc, hbb⟩ := hcut
  rw [unhide hwc]
  clear hwc wc
  go_upto_if 68 with fail
  go_cut [10] (fun v10 wx => ∃ kk : Nat, v10 = .pointer (some ⟨C.heap.size, 0, none⟩) ∧ Hid (Below C.heap.size C wx ∧ Bk wx C.heap.size 34 [.slice px nx cx, .slice py kk cy]) ∧ Hid (kk ≤ ny ∧ limN n ny = kk))
  case first =>
    cases bb
    · go_wp2_with fail
      go_meet
      refine ⟨ny, rfl, ⟨unhide HCF0, unhide HbF0⟩, Nat.le_refl _, ?_⟩
      have hh : ¬ (0 ≤ n ∧ n < (ny : Int)) := fun h => by have := (unhide hbb).2 h; cases this
      unfold limN
      by_cases h0 : n < 0
      · rw [if_pos h0]
      · rw [if_neg h0]; omega
    · obtain ⟨h0, h1⟩ := (unhide hbb).1 rfl
      obtain ⟨k, rfl⟩ : ∃ k : Nat, n = (k : Int) := ⟨n.toNat, by omega⟩
      have hk : k < ny := by omega
      have hkc : k ≤ cy := by omega
      go_wp2_with fail
      go_meet
      refine ⟨k, rfl, ⟨(unhide HCF0).setCell (p := ⟨C.heap.size, 1, none⟩) (by show C.heap.size ≤ C.heap.size; omega) _, heap_set (unhide HbF0)⟩, by omega, ?_⟩
      unfold limN
      rw [if_neg (by omega), Int.toNat_natCast]
      omega
  clear hbb bb
  obtain ⟨kk, rfl, hwc, hkk⟩ := hcut
  obtain ⟨F, hF⟩ : ∃ F, F = wc := ⟨_, rfl⟩
  subst hF
  obtain ⟨hCF, bF⟩ := unhide hwc
  clear hwc c10 f10 nF yF HCF0 HbF0
  have bF8 := (unhide HbC8).same (hCF.block _ (unhide HbC8).lt)
  have bF5 := (unhide HbC5).same (hCF.block _ (unhide HbC5).lt)
  have bF4 := (unhide HbC4).same (hCF.block _ (unhide HbC4).lt)
  have tF := (unhide HtC).below hCF
  have uF := (unhide HuC).below hCF
  have l8 : (ld34 (.pointer (some ⟨w5.heap.size, 0, none⟩))).run Tryz.prog F = .ok (.agg #[.slice qx mx dx, .slice qy my dy]) F := bF8.ld34
  have l10 : (ld34 (.pointer (some ⟨C.heap.size, 0, none⟩))).run Tryz.prog F = .ok (.agg #[.slice px nx cx, .slice py kk cy]) F := bF.ld34
  have hkl : kk ≤ LL.length := by rw [← unhide HNY]; exact (unhide hkk).1
  have tK := tF.take hkl
  have eLL : LL' = LL.take kk := by rw [unhide HL', ← unhide HNY, (unhide hkk).2]
  have eTT := unhide HT'
  rw [eLL, eTT] at uF
  have hty := (unhide HS3).ty
  have D11 := hide (same_yes uF tK (unhide HTL) (by rw [List.length_take]; have := unhide HLL; omega) (fun L hL => by have := congrArg List.length (hty L (List.mem_of_mem_take hL)); rw [List.length_map] at this; have := unhide HTL; omega))
  have HCF := hide hCF; have HbF5 := hide bF5; have HbF4 := hide bF4; have HtF := hide tF
  clear hCF bF bF8 bF5 bF4 tF uF hkl tK eLL eTT hty HbC8 HbC5 HbC4 HtC HuC hkk
  go_wp2_with fail
  refine (unhide D11).mono ?_
  rintro e w6 ⟨rfl, hb6⟩
  have hC6 : Below C.heap.size C w6 := (unhide HCF).trans (hb6.mono (unhide HCF).size)
  have b65 := (unhide HbF5).same (hb6.block _ (unhide HbF5).lt)
  have b64 := (unhide HbF4).same (hb6.block _ (unhide HbF4).lt)
  have t6 := (unhide HtF).below hb6
  have c64 : w6.cell? ⟨w2.heap.size, 4, none⟩ = some (.slice a'.pO nO a'.cO) := by rw [b64.cell 4, unhide HNO]; rfl
  have HC6 := hide hC6; have Hb65 := hide b65; have Hb64 := hide b64; have Ht6 := hide t6
  clear hC6 b65 b64 t6 hb6 D11 HCF HbF5 HbF4 HtF l8 l10
  by_cases hE : E2 = 0
  · by_cases hO : 0 < nO
    · subst hE
      go_wp2_with fail
      go_ret
      exact ⟨rfl, unhide HOW _ (unhide HC6)⟩
    · have hO0 : nO = 0 := by omega
      have hE0 : scE (lq q (-1)) R = 0 := by rw [← unhide HE1]; exact hE
      obtain ⟨hok, hov⟩ := scE_zero hE0
      have hords : (lq q (-1)).ords = [] := List.length_eq_zero_iff.1 (by rw [← hO0]; exact (unhide HNO).symm)
      obtain ⟨M, hM, eM⟩ : ∃ M, ScL (lq q (-1)) R M ∧ LL = M.map (rowL (scP (lq q (-1)))) := by
        rcases unhide HS3 with ⟨_, _, M, hM, e⟩ | ⟨h0, _⟩
        · exact ⟨M, hM, by rw [e, show limN (lq q (-1)).lim M.length = M.length from rfl, List.take_length]⟩
        · exact absurd hE0 h0
      obtain ⟨_, eny, _, rows⟩ := tbl_rows (unhide Ht6)
      have hty := (unhide HS3).ty
      have eTl : ∀ L ∈ LL, nB ≤ L.length := fun L hL => by
        have h1 := congrArg List.length (hty L hL)
        rw [List.length_map] at h1
        rw [h1]
        have h2 : T = chkL (lq q (-1)) := by
          rcases unhide HS3 with ⟨_, e, _⟩ | ⟨h0, _⟩
          · exact e
          · exact absurd hE0 h0
        rw [h2, chk_len hok]
        have h3 : (lq q (-1)).by'.length = nB := (unhide HNB).symm
        omega
      have RW : Hid (∀ j, j + 1 < ny → ∃ b off pa na' ca pb nb' cb k0, py = some ⟨b, off, none⟩ ∧ (∀ wr, Below w6.heap.size w6 wr → wr.cell? ⟨b, off + j, none⟩ = some (.slice pa na' ca) ∧ wr.cell? ⟨b, off + (j + 1), none⟩ = some (.slice pb nb' cb)) ∧ nB ≤ na' ∧ nB ≤ nb' ∧ k0 < nB ∧ ∀ k, k ≤ k0 → ∃ ba oa bb ob ta tb xa xb sa sb, pa = some ⟨ba, oa, none⟩ ∧ pb = some ⟨bb, ob, none⟩ ∧ (∀ wr, Below w6.heap.size w6 wr → (ldC (.pointer (some ⟨ba, oa + k * 3, none⟩))).run Tryz.prog wr = .ok (.agg #[.int .i64 ta, .int .i64 xa, .string sa]) wr ∧ (ldC (.pointer (some ⟨bb, ob + k * 3, none⟩))).run Tryz.prog wr = .ok (.agg #[.int .i64 tb, .int .i64 xb, .string sb]) wr) ∧ (k < k0 → xa = xb ∧ sa = sb) ∧ (k = k0 → (xa < xb ∧ sa = sb) ∨ (xa = xb ∧ sa.data.toList < sb.data.toList))) := fun j hj => by
        have hjL : j + 1 < LL.length := by omega
        have hjM : j + 1 < M.length := by rw [eM, List.length_map] at hjL; exact hjL
        obtain ⟨k0, hk0, hk1, hk2⟩ := rise_at hok hov hords hM hjM
        have ea : LL[j] = rowL (scP (lq q (-1))) M[j] := by simp only [eM]; rw [List.getElem_map]
        have eb : LL[j + 1] = rowL (scP (lq q (-1))) M[j + 1] := by simp only [eM]; rw [List.getElem_map]
        rw [← ea, ← eb] at hk2
        rw [← ea, ← eb] at hk1
        have hk0' : k0 < nB := by have h3 : (lq q (-1)).by'.length = nB := (unhide HNB).symm; omega
        obtain ⟨b, off, pa, ca, e1, l1, r1, s1⟩ := rows j (by omega)
        obtain ⟨b', off', pb, cb, e2, l2, r2, s2⟩ := rows (j + 1) hjL
        rw [e1] at e2
        cases e2
        have na1 := eTl _ (List.getElem_mem (show j < LL.length by omega))
        have nb1 := eTl _ (List.getElem_mem hjL)
        refine ⟨b, off, pa, _, ca, pb, _, cb, k0, e1, fun wr hb => ⟨(hb.cell (p := ⟨b, off + j, none⟩) l1).trans r1, (hb.cell (p := ⟨b, off + (j + 1), none⟩) l1).trans r2⟩, na1, nb1, hk0', fun k hk => ?_⟩
        have hka : k < LL[j].length := by omega
        have hkb : k < LL[j + 1].length := by omega
        obtain ⟨ba, oa, f1, g1, _, _, _⟩ := cell_row s1 hka
        obtain ⟨bb, ob, f2, g2, _, _, _⟩ := cell_row s2 hkb
        have hra : w6.rangeAt ba (oa + k * 3) LL[j][k].vals := by
          obtain ⟨b1, o1, f3, _, r⟩ := s1.2 k hka
          rw [f1] at f3; cases f3; exact r
        have hrb : w6.rangeAt bb (ob + k * 3) LL[j + 1][k].vals := by
          obtain ⟨b1, o1, f3, _, r⟩ := s2.2 k hkb
          rw [f2] at f3; cases f3; exact r
        have da : LL[j].getD k .no = LL[j][k] := by rw [List.getD_eq_getElem?_getD, List.getElem?_eq_getElem hka]; rfl
        have db : LL[j + 1].getD k .no = LL[j + 1][k] := by rw [List.getD_eq_getElem?_getD, List.getElem?_eq_getElem hkb]; rfl
        refine ⟨ba, oa, bb, ob, LL[j][k].ty, LL[j + 1][k].ty, LL[j][k].num, LL[j + 1][k].num, LL[j][k].tx, LL[j + 1][k].tx, f1, f2, fun wr hb => ⟨?_, ?_⟩, fun h => ?_, fun h => ?_⟩
        · exact run_ldC (c := LL[j][k]) (fun i u hu => (hb.cell (p := ⟨ba, oa + k * 3 + i, none⟩) g1).trans (hra i u hu))
        · exact run_ldC (c := LL[j + 1][k]) (fun i u hu => (hb.cell (p := ⟨bb, ob + k * 3 + i, none⟩) g2).trans (hrb i u hu))
        · have := hk1 k h; rw [da, db] at this; exact this
        · subst h
          rw [da, db] at hk2
          exact hk2
      have CC : Hid (∀ wr, Below w6.heap.size w6 wr → wr.cell? ⟨w3.heap.size, 1, none⟩ = some (.slice py ny cy) ∧ wr.cell? ⟨w2.heap.size, 2, none⟩ = some (.slice a'.pB nB a'.cB)) := fun wr hb => by
        have h5 := (unhide Hb65).same (hb.block _ (unhide Hb65).lt)
        have h4 := (unhide Hb64).same (hb.block _ (unhide Hb64).lt)
        exact ⟨h5.cell 1, by rw [h4.cell 2, unhide HNB]; rfl⟩
      subst hE
      subst hO0
      clear hO hE0 hok hov hords hM eM eny rows hty eTl HL' HT' HS3 HS5 Hb65 Hb64 Ht6
      go_wp2_with fail
      go_loopw [12] (fun v12 wr => ∃ j : Nat, v12 = .int .i64 ((j : Int) + 1) ∧ j ≤ ny ∧ Hid (Below w6.heap.size w6 wr)) (fun v12 _ => ny + 1 - (intOf v12).toNat)
      case atStart => exact ⟨0, by simp, by omega, Below.refl _ _⟩
      case round =>
        obtain ⟨j, rfl, hj, hb⟩ := hrel
        obtain ⟨c0, c1⟩ := unhide CC wr (unhide hb)
        by_cases hlt : j + 1 < ny
        · obtain ⟨b, off, pa, na', ca, pb, nb', cb, k0, e1, hrow, hna, hnb, hk0, hcell⟩ := unhide RW j hlt
          subst e1
          have HROW := hide hrow; have HCELL := hide hcell
          have hin : (j : Int) + 1 < (ny : Int) := by omega
          clear hrow hcell RW
          go_wp2_with fail
          obtain ⟨wo, hwo⟩ : ∃ wo, wo = wr := ⟨_, rfl⟩
          subst hwo
          have HBo := hide (unhide hb)
          clear hb
          go_loopw [13, 14] (fun v13 v14 wi => ∃ k : Nat, v14 = .int .i64 k ∧ ((v13 = .bool false ∧ k ≤ k0) ∨ (v13 = .bool true ∧ k = k0 + 1)) ∧ Hid (Below w6.heap.size w6 wi)) (fun _ v14 _ => nB + 1 - (intOf v14).toNat)
          case atStart => exact ⟨0, rfl, .inl ⟨rfl, by omega⟩, unhide HBo⟩
          case round =>
            obtain ⟨k, rfl, hcase, hbi⟩ := hrel
            obtain ⟨d0, d1⟩ := unhide CC wr (unhide hbi)
            rcases hcase with ⟨rfl, hk⟩ | ⟨rfl, rfl⟩
            · obtain ⟨ba, oa, bb, ob, ta, tb, xa, xb, sa, sb, f1, f2, hld, hq1, hq2⟩ := unhide HCELL k hk
              subst f1
              subst f2
              obtain ⟨r1, r2⟩ := unhide HROW wr (unhide hbi)
              obtain ⟨la, _⟩ := hld wr (unhide hbi)
              obtain ⟨V1, hV1⟩ : ∃ V, V = wr.alloc (.cells #[.int .i64 ta, .int .i64 xa, .string sa] 45) := ⟨_, rfl⟩
              obtain ⟨V2, hV2⟩ : ∃ V, V = V1.alloc (.cells #[.int .i64 tb, .int .i64 xb, .string sb] 45) := ⟨_, rfl⟩
              have b1 : Below wr.heap.size wr V1 := by rw [hV1]; exact Below.a1 wr _
              have b2 : Below V1.heap.size V1 V2 := by rw [hV2]; exact Below.a1 V1 _
              have b61 : Below w6.heap.size w6 V1 := (unhide hbi).trans (b1.mono (unhide hbi).size)
              have b62 : Below w6.heap.size w6 V2 := b61.trans (b2.mono b61.size)
              obtain ⟨e0, _⟩ := unhide CC V1 b61
              obtain ⟨_, r3⟩ := unhide HROW V1 b61
              obtain ⟨_, lb⟩ := hld V1 b61
              have k1 : Bk V1 wr.heap.size 45 [.int .i64 ta, .int .i64 xa, .string sa] := by show V1.heap[_]? = _; rw [hV1]; exact heap_new _ _
              have k2 : Bk V2 V1.heap.size 45 [.int .i64 tb, .int .i64 xb, .string sb] := by show V2.heap[_]? = _; rw [hV2]; exact heap_new _ _
              have k1' := k1.same (b2.block _ k1.lt)
              have m1 : V2.cell? ⟨wr.heap.size, 1, none⟩ = some (.int .i64 xa) := k1'.cell 1
              have m2 : V2.cell? ⟨wr.heap.size, 2, none⟩ = some (.string sa) := k1'.cell 2
              have m3 : V2.cell? ⟨V1.heap.size, 1, none⟩ = some (.int .i64 xb) := k2.cell 1
              have m4 : V2.cell? ⟨V1.heap.size, 2, none⟩ = some (.string sb) := k2.cell 2
              have HV1 := hide hV1; have HV2 := hide hV2; have H62 := hide b62; have HQ1 := hide hq1; have HQ2 := hide hq2
              have hkB : (k : Int) < (nB : Int) := by omega
              have hka : (k : Int) < (na' : Int) := by omega
              have hkb : (k : Int) < (nb' : Int) := by omega
              have hk00 : ¬ (k : Int) < 0 := by omega
              clear hV1 hV2 b1 b2 b61 b62 k1 k2 k1' hq1 hq2 hld
              go_upto_region 30 with fail
              rw [← unhide HV1]
              clear HV1 la r1
              go_upto_region 31 with fail
              rw [← unhide HV2]
              clear HV2 lb r2 r3 e0
              by_cases hkk : k < k0
              · obtain ⟨ex, es⟩ := unhide HQ1 hkk
                subst ex
                subst es
                have i1 := bl_no (List.lt_irrefl sa.data.toList)
                clear HQ1 HQ2
                go_wp2_with fail
                refine ⟨⟨k + 1, by simp, .inl ⟨by simp, by omega⟩, unhide H62⟩, by simp [intOf]; omega⟩
              · have ek : k = k0 := by omega
                subst ek
                rcases unhide HQ2 rfl with ⟨hx, es⟩ | ⟨ex, hs⟩
                · subst es
                  have i1 := bl_no (List.lt_irrefl sa.data.toList)
                  have hx2 : ¬ xa > xb := by omega
                  clear HQ1 HQ2
                  go_wp2_with fail
                  refine ⟨⟨k + 1, by simp, .inr ⟨by simp, rfl⟩, unhide H62⟩, by simp [intOf]; omega⟩
                · subst ex
                  have i1 : Op.bytesLess sb.toList sa.toList = false := bl_no (fun h => List.lt_irrefl _ (List.lt_trans hs h))
                  have i2 : Op.bytesLess sa.toList sb.toList = true := bl_yes hs
                  clear HQ1 HQ2 hs
                  go_wp2_with fail
                  refine ⟨⟨k + 1, by simp, .inr ⟨by simp, rfl⟩, unhide H62⟩, by simp [intOf]; omega⟩
            · have hkk : ¬ ((k0 + 1 : Nat) : Int) < (nB : Int) ∨ ((k0 + 1 : Nat) : Int) < (nB : Int) := by omega
              rcases hkk with hkk | hkk
              all_goals
                go_wp2_with fail
                refine ⟨⟨j + 1, by simp, by omega, unhide hbi⟩, by simp [intOf]; omega⟩
        · go_wp2_with fail
          go_ret
          exact ⟨rfl, unhide HOW _ ((unhide HC6).trans ((unhide hb).mono (unhide HC6).size))⟩
  · have hcE := scE_cases (lq q (-1)) R
    rw [← unhide HE1] at hcE
    rcases hcE with e | e | e
    · exact absurd e hE
    · subst e
      go_wp2_with fail
      go_ret
      exact ⟨rfl, unhide HOW _ (unhide HC6)⟩
    · subst e
      go_wp2_with fail
      go_ret
      exact ⟨rfl, unhide HOW _ (unhide HC6)⟩
end
end Go.Proofs.YtbenciieenbmeaaGreatDoor
