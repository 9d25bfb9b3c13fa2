import Derived.Test.YtbenciieenbmeaaGreatDoorY02
/- answer: totals of rows, and of two parts of them (no program in it). -/
namespace Go.Proofs.YtbenciieenbmeaaGreatDoor
open Go Go.Shelf Go.ChangeShapes Go.WideShapes Go.ChangeAt Go.RowKit Go.Maps Go.Sort
set_option linter.unusedVariables false
set_option maxRecDepth 100000
set_option maxHeartbeats 4000000
/-- the query without By, Orders and Limit -/
def tq (q : Qy) : Qy := ⟨q.nodes, q.wh, [], q.sh, [], -1⟩
theorem tq_F (q : Qy) : scF (tq q) = [] := rfl
/-- what one of Show is laid as -/
def shT (q : Qy) (x : Int × Int) : Ag := ⟨x.1, if x.1 = 1 then 0 else x.2, colT (tyL q.nodes) x⟩
theorem tq_chk {q : Qy} (h : okQ (tq q) = true) : chkL (tq q) = q.sh.map (colT (tyL q.nodes)) := by
  rw [(chk_ok h).2]; unfold colS; rfl
theorem tq_sh {q : Qy} (h : okQ (tq q) = true) : shL (chkL (tq q)) 0 q.sh = q.sh.map (shT q) := by
  rw [tq_chk h]
  unfold shL
  refine List.ext_getElem (by simp) (fun i h1 h2 => ?_)
  rw [List.getElem_mapIdx, List.getElem_map]
  unfold shA shT
  have hi : i < q.sh.length := by simpa using h1
  simp [List.getD_eq_getElem?_getD, hi]
theorem tq_S {q : Qy} (h : okQ (tq q) = true) : scS (tq q) = onD (q.sh.map (shT q)) := by
  unfold scS
  show onD (shL (chkL (tq q)) 0 q.sh) = _
  rw [tq_sh h]
/-- the value of one of Show over rows -/
noncomputable def totC (q : Qy) (R : List Ro) (x : Int × Int) : Cl := tlC (talR q (R.filter (cntB q)) (shT q x)).1 (talR q (R.filter (cntB q)) (shT q x)).2 (shT q x).kd (shT q x).ty
theorem φ_tot (q : Qy) (R : List Ro) (x : Ag) : φR (tq q) [] R noK x = talR q (R.filter (cntB q)) x := by
  unfold φR
  rw [List.filter_congr (fun r _ => inK_none (tq q) r)]
  rfl
/-- is there a least or a greatest among what is shown? -/
def endQ (q : Qy) : Bool := endsB (q.sh.map (shT q))
theorem ends_onD (L : List Ag) : endsB (onD L) = endsB L := by
  unfold endsB
  rw [Bool.eq_iff_iff, List.any_eq_true, List.any_eq_true]
  exact ⟨fun ⟨x, h1, h2⟩ => ⟨x, (mem_onD _ _).1 h1, h2⟩, fun ⟨x, h1, h2⟩ => ⟨x, (mem_onD _ _).2 h1, h2⟩⟩
/-- is there a row of totals? -/
noncomputable def oneQ (q : Qy) (R : List Ro) : Bool := !(endQ q) || !(R.filter (cntB q)).isEmpty
theorem tq_ks {q : Qy} (h : okQ (tq q) = true) (R : List Ro) : ksF (tq q) [] (scS (tq q)) R = if oneQ q R = true then [noK] else [] := by
  have hR : ksR (tq q) [] R = if (R.filter (cntB q)).isEmpty = true then [] else [noK] := by
    have h1 : ksR (tq q) [] R = [] ∨ ksR (tq q) [] R = [noK] := by
      refine one_all (nodup_onD _) (fun y hy => ?_)
      unfold ksR at hy
      rw [mem_onD, List.mem_map] at hy
      obtain ⟨r, _, rfl⟩ := hy
      rfl
    cases hf : R.filter (cntB q) with
    | nil =>
      have : ksR (tq q) [] R = onD ((R.filter (cntB q)).map (keyK [])) := rfl
      rw [this, hf]; rfl
    | cons r L =>
      rcases h1 with h1 | h1
      · have hm : noK ∈ ksR (tq q) [] R := by
          have : ksR (tq q) [] R = onD ((R.filter (cntB q)).map (keyK [])) := rfl
          rw [this, mem_onD, hf]
          exact List.mem_map.2 ⟨r, by simp, rfl⟩
        rw [h1] at hm; cases hm
      · rw [h1]; rfl
  have hE : endsB (scS (tq q)) = endQ q := by rw [tq_S h, ends_onD]; rfl
  unfold ksF
  rw [hE, hR]
  unfold oneQ
  cases he : endQ q <;> cases hf : (R.filter (cntB q)).isEmpty <;> simp
theorem tq_lines {q : Qy} (h : okQ (tq q) = true) (R : List Ro) : linesL (tq q) (scF (tq q)) (scS (tq q)) R = if oneQ q R = true then [(onD (q.sh.map (shT q))).map (fun x => tlC (talR q (R.filter (cntB q)) x).1 (talR q (R.filter (cntB q)) x).2 x.kd x.ty)] else [] := by
  rw [tq_F]
  unfold linesL
  rw [tq_ks h]
  split
  · simp only [List.map_cons, List.map_nil, lnC, List.length_nil, List.take_zero, List.nil_append, tq_S h, φ_tot]
  · rfl
theorem tq_P {q : Qy} (h : okQ (tq q) = true) : scP (tq q) = onP (q.sh.map (shT q)) := by
  unfold scP plL
  show onP [] ++ (onP (shL (chkL (tq q)) 0 q.sh)).map (fun z => ((onD ([] : List Int)).length : Int) + z) = _
  rw [tq_sh h]
  have e : (fun z : Int => ((onD ([] : List Int)).length : Int) + z) = id := by funext z; show (0 : Int) + z = z; omega
  rw [e, List.map_id]
  rfl
theorem rowL_on {κ : Type} [DecidableEq κ] (L : List κ) (f : κ → Cl) : rowL (onP L) ((onD L).map f) = L.map f := by
  unfold rowL onP
  rw [List.map_map]
  refine List.map_congr_left (fun x hx => ?_)
  have hm := (mem_onD L x).2 hx
  have hl : (onD L).idxOf x < (onD L).length := List.idxOf_lt_length_iff.2 hm
  simp only [Function.comp_apply, Int.toNat_natCast]
  rw [List.getD_eq_getElem?_getD, List.getElem?_map, List.getElem?_eq_getElem hl]
  simp only [Option.map_some, Option.getD_some]
  congr 1
  exact List.getElem_idxOf hl
theorem tq_T {q : Qy} {R : List Ro} (hE : scE (tq q) R = 0) {T : List Int} {LL : List (List Cl)} (h : ScT (tq q) R T LL) : LL = if oneQ q R = true then [q.sh.map (totC q R)] else [] := by
  obtain ⟨h1, _⟩ := scE_zero hE
  rcases h with ⟨_, e1, M, hM, e2⟩ | ⟨h0, _⟩
  · have hp := hM.1
    rw [tq_lines h1] at hp
    rw [e2, show limN (tq q).lim M.length = M.length from rfl, List.take_length]
    split
    · rename_i ho
      rw [if_pos ho] at hp
      rw [List.perm_singleton.1 hp, tq_P h1]
      simp only [List.map_cons, List.map_nil, rowL_on, List.map_map]
      rfl
    · rename_i ho
      rw [if_neg ho] at hp
      rw [List.perm_nil.1 hp]; rfl
  · exact absurd hE h0
end Go.Proofs.YtbenciieenbmeaaGreatDoor
/- answer: cells of one type are told apart by their numbers or by their texts; totals of two parts (no program in it). -/
namespace Go.Proofs.YtbenciieenbmeaaGreatDoor
open Go Go.Shelf Go.ChangeShapes Go.WideShapes Go.ChangeAt Go.RowKit Go.Maps Go.Sort
set_option linter.unusedVariables false
set_option maxRecDepth 100000
set_option maxHeartbeats 4000000
/-- what tells that a query of totals is answered -/
theorem tq_E (q : Qy) (R : List Ro) : scE (tq q) R = 0 ↔ okQ (tq q) = true ∧ (∀ r ∈ R, (whC q r).ty ≠ 0 ∧ (cntB q r = true → ∀ x ∈ q.sh, (cAt (vlL q.nodes r) (shT q x)).ty ≠ 0)) ∧ (oneQ q R = true → ∀ x ∈ q.sh, (totC q R x).ty ≠ 0) := by
  have key : okQ (tq q) = true → (overB (tq q) (scF (tq q)) (scS (tq q)) R = false ↔ (∀ r ∈ R, (whC q r).ty ≠ 0 ∧ (cntB q r = true → ∀ x ∈ q.sh, (cAt (vlL q.nodes r) (shT q x)).ty ≠ 0)) ∧ (oneQ q R = true → ∀ x ∈ q.sh, (totC q R x).ty ≠ 0)) := fun hok => by
    unfold overB
    rw [Bool.or_eq_false_iff, tq_F]
    have hmem : ∀ y, y ∈ scS (tq q) ↔ ∃ x ∈ q.sh, shT q x = y := fun y => by rw [tq_S hok, mem_onD, List.mem_map]
    have e1 : rowsB (tq q) [] (scS (tq q)) R = false ↔ ∀ r ∈ R, (whC q r).ty ≠ 0 ∧ (cntB q r = true → ∀ x ∈ q.sh, (cAt (vlL q.nodes r) (shT q x)).ty ≠ 0) := by
      unfold rowsB
      rw [List.any_eq_false]
      refine forall_congr' fun r => forall_congr' fun hr => ?_
      have hb : badK [] r = false := rfl
      have ht : badT (vlL (tq q).nodes r) (scS (tq q)) = false ↔ ∀ x ∈ q.sh, (cAt (vlL q.nodes r) (shT q x)).ty ≠ 0 := by
        unfold badT
        rw [List.any_eq_false]
        constructor
        · intro h x hx e
          have e' : (cAt (vlL (tq q).nodes r) (shT q x)).ty = 0 := e
          exact h _ ((hmem _).2 ⟨x, hx, rfl⟩) (by simpa using e')
        · intro h y hy e
          obtain ⟨x, hx, rfl⟩ := (hmem y).1 hy
          exact h x hx (show (cAt (vlL (tq q).nodes r) (shT q x)).ty = 0 by simpa using e)
      have hw : whC (tq q) r = whC q r := rfl
      unfold stE cntB
      rw [hw, hb]
      by_cases h0 : (whC q r).ty = 0
      · simp [h0]
      · by_cases h1 : (whC q r).num = 1
        · cases h2 : badT (vlL (tq q).nodes r) (scS (tq q)) with
          | false =>
            have h3 := ht.1 h2
            simp [h0, h1]
            exact fun a b hab => h3 (a, b) hab
          | true =>
            have : ¬ ∀ x ∈ q.sh, (cAt (vlL q.nodes r) (shT q x)).ty ≠ 0 := fun h => by rw [ht.2 h] at h2; cases h2
            simp only [h0, h1, if_false, if_true, not_true, beq_self_eq_true, ne_eq, not_false_eq_true, true_and, forall_const]
            constructor
            · intro h; exact absurd rfl h
            · intro h; exact absurd h this
        · simp [h0, h1]
    have e2 : linesB (tq q) [] (scS (tq q)) R = false ↔ (oneQ q R = true → ∀ x ∈ q.sh, (totC q R x).ty ≠ 0) := by
      unfold linesB
      rw [tq_ks hok]
      cases ho : oneQ q R with
      | false => simp
      | true =>
        simp only [if_true, List.any_cons, List.any_nil, Bool.or_false, true_implies]
        unfold lnB
        rw [List.any_eq_false]
        constructor
        · intro h x hx e
          refine h _ ((hmem _).2 ⟨x, hx, rfl⟩) ?_
          rw [φ_tot]
          simpa [totC] using e
        · intro h y hy e
          obtain ⟨x, hx, rfl⟩ := (hmem y).1 hy
          refine h x hx ?_
          rw [φ_tot] at e
          simpa [totC] using e
    rw [e1, e2]
  constructor
  · intro h
    obtain ⟨h1, h2⟩ := scE_zero h
    exact ⟨h1, (key h1).1 h2⟩
  · rintro ⟨h1, h2⟩
    unfold scE
    rw [if_pos h1, (key h1).2 h2]; rfl
end Go.Proofs.YtbenciieenbmeaaGreatDoor
/- the law's totals (16). -/
namespace Go.Proofs.YtbenciieenbmeaaGreatDoor
open Go Go.Shelf Go.ChangeShapes Go.WideShapes Go.ChangeAt Go.RowKit Go.Maps Go.Sort
set_option linter.unusedVariables false
set_option maxRecDepth 100000
set_option maxHeartbeats 8000000
noncomputable def tqB (q : Qy) (R : List Ro) : Bool := decide (scE (tq q) R = 0) && oneQ q R
/-- what totals answers -/
def TotOut (W : World) (q : Qy) (R : List Ro) (nS : Nat) (e : Ending) (w' : World) : Prop :=
  ∃ p n c, e = .returned (.tuple #[.slice p n c, .bool (tqB q R)]) ∧ Below W.heap.size W w' ∧ (tqB q R = true → n = nS ∧ Lies kC w' p (q.sh.map (totC q R)))
section
attribute [local go_sem ↓] ld32_is ld34_is
theorem totals_any {W : World} {q : Qy} {a : Qa} {pR : Option Addr} {cR : Nat} {R : List Ro} (h : ScIq W q a pR R) (hc : QCp a) (hcR : pR = none → cR = 0) :
    Calls Tryz.prog 16 #[qV q a, .slice pR R.length cR] W (TotOut W q R q.sh.length) := by
  obtain ⟨A, hA⟩ : ∃ A, A = W.alloc (.cells (qC q a).toArray 27) := ⟨_, rfl⟩
  have hBA : Below W.heap.size W A := by rw [hA]; exact Below.a1 W _
  have b27 : Bk A W.heap.size 27 (qC q a) := by show A.heap[_]? = _; rw [hA]; exact heap_new _ _
  have l27 : (ld32 (.pointer (some ⟨W.heap.size, 0, none⟩))).run Tryz.prog A = .ok (.agg #[.slice a.pN q.nodes.length a.cN, .int .i64 q.wh, .slice a.pB q.by'.length a.cB, .slice a.pS q.sh.length a.cS, .slice a.pO q.ords.length a.cO, .int .i64 q.lim]) A := run_ld32 (fun j u hu => by rw [b27.cell, Nat.zero_add]; exact hu)
  obtain ⟨nR, hnR⟩ : ∃ n, n = R.length := ⟨_, rfl⟩
  obtain ⟨nN, hnN⟩ : ∃ n, n = q.nodes.length := ⟨_, rfl⟩
  obtain ⟨nS, hnS⟩ : ∃ n, n = q.sh.length := ⟨_, rfl⟩
  obtain ⟨E, hE⟩ : ∃ E, E = scE (tq q) R := ⟨_, rfl⟩
  have D13 : Hid (Calls Tryz.prog 13 #[.agg #[.slice a.pN nN a.cN, .int .i64 q.wh, .slice a.pB q.by'.length a.cB, .slice a.pS nS a.cS, .slice a.pO q.ords.length a.cO, .int .i64 q.lim]] A fun e w' => ∃ a', e = .returned (.agg #[.slice a'.pN nN a'.cN, .int .i64 q.wh, .slice a'.pB q.by'.length a'.cB, .slice a'.pS nS a'.cS, .slice a'.pO q.ords.length a'.cO, .int .i64 q.lim]) ∧ Hid (Twn A w' q a')) := by rw [hnN, hnS]; exact copied_any (h.qi.below hBA) hc
  have NX : Hid (∀ w1 a', Twn A w1 q a' → ∀ X, X = w1.alloc (.cells #[.slice a'.pN nN a'.cN, .int .i64 q.wh, .slice none 0 0, .slice a'.pS nS a'.cS, .slice none 0 0, .int .i64 (-1)] 27) → (ld32 (.pointer (some ⟨w1.heap.size, 0, none⟩))).run Tryz.prog X = .ok (.agg #[.slice a'.pN nN a'.cN, .int .i64 q.wh, .slice none 0 0, .slice a'.pS nS a'.cS, .slice none 0 0, .int .i64 (-1)]) X ∧ (Calls Tryz.prog 10 #[.agg #[.slice a'.pN nN a'.cN, .int .i64 q.wh, .slice none 0 0, .slice a'.pS nS a'.cS, .slice none 0 0, .int .i64 (-1)], .slice pR nR cR] X fun e w2 => ∃ px nx cx py ny cy T LL, e = .returned (.tuple #[.agg #[.slice px nx cx, .slice py ny cy], .int .i64 E]) ∧ Below W.heap.size W w2 ∧ Hid (TblOut X.heap.size w2 (.agg #[.slice px nx cx, .slice py ny cy]) T LL ∧ ScT (tq q) R T LL))) := fun w1 a' ht X hX => by
    rw [hnN, hnS] at hX ⊢
    have hb1 : Below W.heap.size W w1 := hBA.trans (ht.n.bel.mono hBA.size)
    have hbX : Below w1.heap.size w1 X := by rw [hX]; exact Below.a1 w1 _
    have hbWX : Below W.heap.size W X := hb1.trans (hbX.mono hb1.size)
    have bq : Bk X w1.heap.size 27 (qC (tq q) ⟨a'.pN, a'.cN, none, 0, a'.pS, a'.cS, none, 0⟩) := by
      show X.heap[_]? = _
      rw [hX]
      exact heap_new _ _
    have hS : ScIq X (tq q) ⟨a'.pN, a'.cN, none, 0, a'.pS, a'.cS, none, 0⟩ pR R := {
      fl := h.fl.below hbWX, mon := h.mon.below hbWX, rc := h.rc.below hbWX, mx := h.mx.below hbWX (by have := h.six; omega), six := by have := h.six; have := hbWX.size; omega
      qi := ⟨(ht.n.lies kN_ok).below hbX, ⟨fun _ => rfl, fun k hk => by cases hk⟩, (ht.s.lies kG_ok).below hbX, ⟨fun _ => rfl, fun k hk => by cases hk⟩, h.qi.nn, by show 0 ≤ _; omega, h.qi.ns, by show 0 ≤ _; omega⟩
      nn := h.nn, nb := by show 0 ≤ _; omega, ns := h.ns, no := by show 0 ≤ _; omega
      nd := h.nd
      sI := h.sI
      lI := ⟨by show (_ : Int) ≤ -1; decide, by show (-1 : Int) ≤ _; decide⟩
      rl := h.rl.below hbWX, rn := h.rn, ro := h.ro }
    have hQ : QCp ⟨a'.pN, a'.cN, none, 0, a'.pS, a'.cS, none, 0⟩ := ⟨ht.qcp.n, fun _ => rfl, ht.qcp.s, fun _ => rfl⟩
    refine ⟨run_ld32 (q := tq q) (a := ⟨a'.pN, a'.cN, none, 0, a'.pS, a'.cS, none, 0⟩) (fun j u hu => by rw [bq.cell, Nat.zero_add]; exact hu), ?_⟩
    have D := lscan_any (cR := cR) hS hQ hcR
    rw [← hnR] at D
    refine Calls.mono (show Calls Tryz.prog 10 _ X _ from D) fun e w2 ho => ?_
    obtain ⟨px, nx, cx, py, ny, cy, T, LL, e1, e2, e3⟩ := ho.tab
    exact ⟨px, nx, cx, py, ny, cy, T, LL, by rw [hE]; exact e1, hbWX.trans (e2.mono hbWX.size), e3⟩
  have HA : Hid (A = (W.alloc (.cells #[.slice a.pN nN a.cN, .int .i64 q.wh, .slice a.pB q.by'.length a.cB, .slice a.pS nS a.cS, .slice a.pO q.ords.length a.cO, .int .i64 q.lim] 27))) := by rw [hnN, hnS]; exact hA
  have HLN : Hid (q.sh.length ≤ 1048576 ∧ R.length ≤ 2097152) := ⟨h.ns, h.rn⟩
  rw [← hnR]
  show Calls Tryz.prog 16 #[.agg #[.slice a.pN q.nodes.length a.cN, .int .i64 q.wh, .slice a.pB q.by'.length a.cB, .slice a.pS q.sh.length a.cS, .slice a.pO q.ords.length a.cO, .int .i64 q.lim], .slice pR nR cR] W _
  rw [← hnN, ← hnS]
  rw [← hnN, ← hnS] at l27
  have HE := hide hE
  have HNS := hide hnS
  clear h hc hcR hA hBA b27 hnR hE hnN hnS
  go_enter Tryz.func16, Tryz.ntmps16
  go_upto_region 1 with fail
  rw [← unhide HA]
  go_wp2_with fail
  refine (unhide D13).mono ?_
  rintro e w1 ⟨a', rfl, ht⟩
  obtain ⟨X, hX⟩ : ∃ X, X = w1.alloc (.cells #[.slice a'.pN nN a'.cN, .int .i64 q.wh, .slice none 0 0, .slice a'.pS nS a'.cS, .slice none 0 0, .int .i64 (-1)] 27) := ⟨_, rfl⟩
  obtain ⟨lX, DX⟩ := unhide NX w1 a' (unhide ht) X hX
  have HDX := hide DX
  have HX := hide hX
  clear D13 NX ht DX hX l27
  go_upto_region 5 with fail
  rw [← unhide HX]
  clear HX
  go_wp2_with fail
  refine (unhide HDX).mono ?_
  rintro e w2 ⟨px, nx, cx, py, ny, cy, T, LL, rfl, hb2, ht⟩
  obtain ⟨Z, hZ⟩ : ∃ Z, Z = w2.alloc (.cells #[.slice px nx cx, .slice py ny cy] 34) := ⟨_, rfl⟩
  have hBZ : Below w2.heap.size w2 Z := by rw [hZ]; exact Below.a1 w2 _
  have bz : Bk Z w2.heap.size 34 [.slice px nx cx, .slice py ny cy] := by show Z.heap[_]? = _; rw [hZ]; exact heap_new _ _
  have hWZ : Below W.heap.size W Z := hb2.trans (hBZ.mono hb2.size)
  have tZ := (unhide ht).1.below hBZ
  have hS := (unhide ht).2
  have hl := hS.len
  have hl1 := hl.1
  have hl2 := hl.2
  have e1 : (tq q).by'.length = 0 := rfl
  have e2 : (tq q).sh.length = q.sh.length := rfl
  obtain ⟨m1, m2⟩ := unhide HLN
  have D12 := hide (shaped_yes tZ hS.ty (by omega) (by omega))
  have lZ : (ld34 (.pointer (some ⟨w2.heap.size, 0, none⟩))).run Tryz.prog Z = .ok (.agg #[.slice px nx cx, .slice py ny cy]) Z := bz.ld34
  have HZ := hide hZ; have HbZ := hide bz; have HWZ := hide hWZ; have HtZ := hide tZ; have HS := hide hS
  clear hZ hBZ bz hWZ tZ hS hl hl1 hl2 e1 e2 m1 m2 hb2 ht HDX lX
  go_upto_region 6 with fail
  rw [← unhide HZ]
  clear HZ
  go_wp2_with fail
  refine (unhide D12).mono ?_
  rintro e w3 ⟨rfl, hb3⟩
  have b3 := (unhide HbZ).same (hb3.block _ (unhide HbZ).lt)
  have y3 : w3.cell? ⟨w2.heap.size, 1, none⟩ = some (.slice py ny cy) := b3.cell 1
  have t3 := (unhide HtZ).below hb3
  have hW3 : Below W.heap.size W w3 := (unhide HWZ).trans (hb3.mono (unhide HWZ).size)
  have HW3 := hide hW3; have Ht3 := hide t3
  clear b3 t3 hW3 hb3 lZ D12 HbZ HtZ HWZ
  have hEc := scE_cases (tq q) R
  rw [← unhide HE] at hEc
  rcases hEc with e0 | e1
  · have hE0 : scE (tq q) R = 0 := (unhide HE).symm.trans e0
    have eL := tq_T hE0 (unhide HS)
    obtain ⟨_, eny, _, rows⟩ := tbl_rows (unhide Ht3)
    cases ho : oneQ q R with
    | true =>
      rw [ho, if_pos rfl] at eL
      subst eL
      obtain ⟨b, off, p, c, r1, r2, r3, r4⟩ := rows 0 (by simp)
      have hn1 : ny = 1 := by simpa using eny
      have r3' : w3.cell? ⟨b, off, none⟩ = some (.slice p nS c) := by
        have := r3
        simp only [List.getElem_cons_zero, List.length_map] at this
        rw [unhide HNS]; simpa using this
      have HO : Hid (TotOut W q R nS (.returned (.tuple #[.slice p nS c, .bool true])) w3) := by
        have eb : tqB q R = true := by unfold tqB; rw [hE0, ho]; rfl
        refine ⟨p, nS, c, by rw [eb], unhide HW3, fun _ => ⟨rfl, r4⟩⟩
      subst e0
      subst r1
      subst hn1
      clear eny rows r2 r3 r4 hE0 ho HS HE Ht3
      go_wp2_with fail
      refine bodyPost_ret (results_tt Tryz.results16 rfl rfl) rfl ?_
      exact unhide HO
    | false =>
      rw [ho, if_neg (by simp)] at eL
      subst eL
      have hn0 : ny = 0 := by simpa using eny
      have HO : Hid (TotOut W q R nS (.returned (.tuple #[.slice none 0 0, .bool false])) w3) := by
        have eb : tqB q R = false := by unfold tqB; rw [ho, Bool.and_false]
        refine ⟨none, 0, 0, by rw [eb], unhide HW3, fun h => by rw [eb] at h; cases h⟩
      subst e0
      subst hn0
      clear eny rows hE0 ho HS HE Ht3
      go_wp2_with fail
      refine bodyPost_ret (results_tt Tryz.results16 rfl rfl) rfl ?_
      exact unhide HO
  · have HO : Hid (TotOut W q R nS (.returned (.tuple #[.slice none 0 0, .bool false])) w3) := by
      have eb : tqB q R = false := by
        have hne : ¬ scE (tq q) R = 0 := by rw [← unhide HE]; rcases e1 with e | e <;> (rw [e]; decide)
        unfold tqB
        rw [decide_eq_false hne]; rfl
      refine ⟨none, 0, 0, by rw [eb], unhide HW3, fun h => by rw [eb] at h; cases h⟩
    clear HS HE Ht3
    rcases e1 with rfl | rfl
    all_goals
      go_wp2_with fail
      refine bodyPost_ret (results_tt Tryz.results16 rfl rfl) rfl ?_
      exact unhide HO
end
end Go.Proofs.YtbenciieenbmeaaGreatDoor
/- answer: groups as totals over their rows (no program in it). -/
namespace Go.Proofs.YtbenciieenbmeaaGreatDoor
open Go Go.Shelf Go.ChangeShapes Go.WideShapes Go.ChangeAt Go.RowKit Go.Maps Go.Sort
set_option linter.unusedVariables false
set_option maxRecDepth 100000
set_option maxHeartbeats 4000000
/-- the query without Orders and Limit -/
def gq (q : Qy) : Qy := ⟨q.nodes, q.wh, q.by', q.sh, [], -1⟩
theorem gq_ok {q : Qy} (h : okQ (gq q) = true) : okQ (tq q) = true := by
  have hp := (ok_iff _).1 h
  exact (ok_iff _).2 ⟨hp.p1, hp.p2, fun f hf => (by cases hf), hp.p4, hp.p5, fun x hx => (by cases hx), Int.le_refl _⟩
theorem gq_cq {q : Qy} (h : okQ (gq q) = true) : okQ (cq q) = true := by
  have hp := (ok_iff _).1 h
  exact (ok_iff _).2 ⟨hp.p1, hp.p2, fun f hf => (by cases hf), (by show 0 < 1; decide), fun y hy => (by
    have : y = (1, -1) := by simpa [cq] using hy
    subst this
    rfl), fun x hx => (by cases hx), Int.le_refl _⟩
theorem gq_sh {q : Qy} (h : okQ (gq q) = true) : shL (chkL (gq q)) q.by'.length q.sh = q.sh.map (shT q) := by
  rw [(chk_ok h).2]
  unfold shL
  refine List.ext_getElem (by simp) (fun i h1 h2 => ?_)
  rw [List.getElem_mapIdx, List.getElem_map]
  unfold shA shT
  have hi : i < q.sh.length := by simpa using h1
  have e : (colS (gq q) (tyL (gq q).nodes)).getD (q.by'.length + i) 0 = colT (tyL q.nodes) q.sh[i] := by
    unfold colS
    rw [List.getD_eq_getElem?_getD, List.getElem?_append_right (by rw [List.length_map]; exact Nat.le_add_right _ _), List.length_map]
    show ((q.sh.map (colT (tyL q.nodes)))[q.by'.length + i - q.by'.length]?).getD 0 = _
    rw [Nat.add_sub_cancel_left, List.getElem?_map, List.getElem?_eq_getElem hi]
    rfl
  rw [e]
theorem gq_S {q : Qy} (h : okQ (gq q) = true) : scS (gq q) = onD (q.sh.map (shT q)) := by
  unfold scS
  show onD (shL (chkL (gq q)) q.by'.length q.sh) = _
  rw [gq_sh h]
/-- the rows of a key -/
noncomputable def rowsK (q : Qy) (R : List Ro) (k : List Cl) : List Ro := R.filter (fun r => decide (keyK (scF (gq q)) r = k))
theorem rowsK_cnt (q : Qy) (R : List Ro) (k : List Cl) : (rowsK q R k).filter (cntB q) = R.filter (inK (gq q) (scF (gq q)) k) := by
  unfold rowsK
  rw [List.filter_filter]
  refine List.filter_congr (fun r _ => ?_)
  rfl
/-- a group's aggregate is that of the query without By over the rows of its key -/
theorem group_cell (q : Qy) (R : List Ro) (k : List Cl) (x : Int × Int) : tlC (φR (gq q) (scF (gq q)) R k (shT q x)).1 (φR (gq q) (scF (gq q)) R k (shT q x)).2 (shT q x).kd (shT q x).ty = totC q (rowsK q R k) x := by
  unfold totC φR
  rw [rowsK_cnt]
  rfl
theorem group_cnt (q : Qy) (R : List Ro) (k : List Cl) : cntN q (rowsK q R k) = (R.filter (inK (gq q) (scF (gq q)) k)).length := by
  unfold cntN
  rw [rowsK_cnt]
/-- a line's cells: its key's, then those of Show -/
theorem gq_row {q : Qy} {R : List Ro} (hok : okQ (gq q) = true) {k : List Cl} (hk : k ∈ ksF (gq q) (scF (gq q)) (scS (gq q)) R) :
    rowL (scP (gq q)) (lnC k (scF (gq q)).length (scS (gq q)) (φR (gq q) (scF (gq q)) R k)) = q.by'.map (fun f => k.getD ((onD q.by').idxOf f) .no) ++ q.sh.map (totC q (rowsK q R k)) := by
  have h14 : (scF (gq q)).length ≤ 14 := ok_by hok
  have hl := ksF_14 h14 k hk
  have hF : scF (gq q) = onD q.by' := rfl
  unfold scP plL rowL
  rw [List.map_append]
  show (onP q.by').map _ ++ ((onP (shL (chkL (gq q)) q.by'.length q.sh)).map (fun z => ((onD q.by').length : Int) + z)).map _ = _
  rw [gq_sh hok, gq_S hok]
  have hlt : (k.take (scF (gq q)).length).length = (onD q.by').length := by rw [List.length_take, hF] ; rw [hF] at h14; omega
  congr 1
  · unfold onP
    rw [List.map_map]
    refine List.map_congr_left (fun f hf => ?_)
    have hm : (onD q.by').idxOf f < (onD q.by').length := List.idxOf_lt_length_iff.2 ((mem_onD _ _).2 hf)
    simp only [Function.comp_apply, Int.toNat_natCast]
    unfold lnC
    rw [List.getD_eq_getElem?_getD, List.getD_eq_getElem?_getD, List.getElem?_append_left (by rw [hlt]; exact hm), List.getElem?_take, if_pos (by rw [hF]; exact hm)]
  · unfold onP
    rw [List.map_map, List.map_map, List.map_map]
    refine List.map_congr_left (fun x hx => ?_)
    have hm : (onD (q.sh.map (shT q))).idxOf (shT q x) < (onD (q.sh.map (shT q))).length := List.idxOf_lt_length_iff.2 ((mem_onD _ _).2 (List.mem_map.2 ⟨x, hx, rfl⟩))
    simp only [Function.comp_apply]
    have e : (((onD q.by').length : Int) + (((onD (q.sh.map (shT q))).idxOf (shT q x) : Nat) : Int)).toNat = (onD q.by').length + (onD (q.sh.map (shT q))).idxOf (shT q x) := by omega
    rw [e]
    unfold lnC
    rw [List.getD_eq_getElem?_getD, List.getElem?_append_right (by rw [hlt]; exact Nat.le_add_right _ _), hlt, Nat.add_sub_cancel_left, List.getElem?_map, List.getElem?_eq_getElem hm]
    simp only [Option.map_some, Option.getD_some]
    rw [List.getElem_idxOf hm]
    exact group_cell q R k x
theorem gq_key {q : Qy} {R : List Ro} (hby : q.by' ≠ []) {k : List Cl} (hk : k ∈ ksF (gq q) (scF (gq q)) (scS (gq q)) R) : ∃ r ∈ R, cntB q r = true ∧ keyK (scF (gq q)) r = k := by
  have hF : scF (gq q) ≠ [] := fun e => by
    cases hb : q.by' with
    | nil => exact hby hb
    | cons f L =>
      have : f ∈ onD q.by' := (mem_onD _ _).2 (by rw [hb]; simp)
      have e' : onD q.by' = [] := e
      rw [e'] at this; cases this
  unfold ksF at hk
  rw [if_neg (fun h => hF h.1)] at hk
  unfold ksR at hk
  rw [mem_onD, List.mem_map] at hk
  obtain ⟨r, hr, rfl⟩ := hk
  obtain ⟨h1, h2⟩ := List.mem_filter.1 hr
  exact ⟨r, h1, h2, rfl⟩
/-- each group's query is answered, and counts a row -/
theorem group_told {q : Qy} {R : List Ro} (hl : R.length < 4294967296) (h0 : scE (gq q) R = 0) (hby : q.by' ≠ []) {k : List Cl} (hk : k ∈ ksF (gq q) (scF (gq q)) (scS (gq q)) R) :
    scE (tq q) (rowsK q R k) = 0 ∧ oneQ q (rowsK q R k) = true ∧ scE (cq q) (rowsK q R k) = 0 ∧ 0 < cntN q (rowsK q R k) := by
  obtain ⟨hok, hov⟩ := scE_zero h0
  unfold overB at hov
  rw [Bool.or_eq_false_iff] at hov
  obtain ⟨hr, hln⟩ := hov
  have hmem : ∀ x ∈ q.sh, shT q x ∈ scS (gq q) := fun x hx => by rw [gq_S hok, mem_onD]; exact List.mem_map.2 ⟨x, hx, rfl⟩
  have hsub : ∀ r ∈ rowsK q R k, r ∈ R := fun r hr => (List.mem_filter.1 hr).1
  have hrow : ∀ r ∈ R, (whC q r).ty ≠ 0 ∧ (cntB q r = true → ∀ x ∈ q.sh, (cAt (vlL q.nodes r) (shT q x)).ty ≠ 0) := fun r hr' => by
    unfold rowsB at hr
    rw [List.any_eq_false] at hr
    have h1 := hr r hr'
    have h2 : stE (gq q) (scF (gq q)) (scS (gq q)) r = 0 := by simpa using h1
    unfold stE at h2
    have hw : whC (gq q) r = whC q r := rfl
    rw [hw] at h2
    by_cases h3 : (whC q r).ty = 0
    · rw [if_pos h3] at h2; cases h2
    · refine ⟨h3, fun hc x hx e => ?_⟩
      rw [if_neg h3] at h2
      have h4 : (whC q r).num = 1 := by unfold cntB at hc; simpa using hc
      rw [if_neg (fun h => h h4)] at h2
      split at h2
      · cases h2
      · split at h2
        · cases h2
        · rename_i hb
          refine hb ?_
          unfold badT
          rw [List.any_eq_true]
          exact ⟨_, hmem x hx, by
            have e' : (cAt (vlL (gq q).nodes r) (shT q x)).ty = 0 := e
            simpa using e'⟩
  obtain ⟨r, r1, r2, r3⟩ := gq_key hby hk
  have hin : r ∈ (rowsK q R k).filter (cntB q) := List.mem_filter.2 ⟨List.mem_filter.2 ⟨r1, by simpa using r3⟩, r2⟩
  have hcnt : 0 < cntN q (rowsK q R k) := List.length_pos_of_mem hin
  have hone : oneQ q (rowsK q R k) = true := by
    unfold oneQ
    cases hf : (rowsK q R k).filter (cntB q) with
    | nil => rw [hf] at hin; cases hin
    | cons a L => simp
  refine ⟨(tq_E q _).2 ⟨gq_ok hok, fun r hr' => hrow r (hsub r hr'), fun _ x hx e => ?_⟩, hone, (cq_E (Nat.lt_of_le_of_lt (List.length_filter_le _ _) hl)).2 ⟨gq_cq hok, fun r hr' => (hrow r (hsub r hr')).1⟩, hcnt⟩
  unfold linesB at hln
  rw [List.any_eq_false] at hln
  have h1 := hln k hk
  refine h1 ?_
  unfold lnB
  rw [List.any_eq_true]
  refine ⟨_, hmem x hx, ?_⟩
  rw [group_cell]
  simpa using e
theorem zero_sum {κ : Type} : ∀ ks : List κ, (ks.map (fun _ => 0)).sum = 0
  | [] => rfl
  | k :: ks => by rw [List.map_cons, List.sum_cons, zero_sum ks]
/-- how many rows of each key there are, all together -/
theorem sum_keys {α κ : Type} [DecidableEq κ] (f : α → κ) : ∀ (L : List α) (ks : List κ), ks.Nodup → (∀ x ∈ L, f x ∈ ks) → (ks.map (fun k => (L.filter (fun x => decide (f x = k))).length)).sum = L.length
  | [], ks, _, _ => zero_sum ks
  | x :: L, ks, hn, h => by
    have ih := sum_keys f L ks hn (fun y hy => h y (by simp [hy]))
    have hx := h x (by simp)
    have key : ∀ ks : List κ, ks.Nodup → (ks.map (fun k => ((x :: L).filter (fun y => decide (f y = k))).length)).sum = (ks.map (fun k => (L.filter (fun y => decide (f y = k))).length)).sum + (if f x ∈ ks then 1 else 0) := by
      intro ks
      induction ks with
      | nil => intro _; rfl
      | cons k ks ihk =>
        intro hnd
        rw [List.nodup_cons] at hnd
        simp only [List.map_cons, List.sum_cons]
        rw [ihk hnd.2]
        by_cases hfk : f x = k
        · subst hfk
          simp [hnd.1]
          omega
        · simp [hfk]
          omega
    rw [key ks hn, ih, if_pos hx, List.length_cons]
end Go.Proofs.YtbenciieenbmeaaGreatDoor
/- AnswerGroups: the rows that the law picks, the table's rows and their sum (no program in it). -/
namespace Go.Proofs.YtbenciieenbmeaaGreatDoor
open Go Go.Shelf Go.ChangeShapes Go.WideShapes Go.ChangeAt Go.RowKit Go.Maps Go.Sort
set_option linter.unusedVariables false
set_option maxRecDepth 100000
set_option maxHeartbeats 4000000
/-- does the law find the row's field in the cell? -/
noncomputable def alikeB (c d : Cl) : Bool := !(c.ty == 0) && (c.num == d.num && decide (c.tx = d.tx))
theorem alike_iff (c d : Cl) : alikeB c d = true ↔ c.ty ≠ 0 ∧ c.num = d.num ∧ c.tx = d.tx := by
  unfold alikeB
  simp
/-- does it find the first n of them? -/
noncomputable def pickN (B : List Int) (L : List Cl) (r : Ro) : Nat → Bool
  | 0 => true
  | n + 1 => pickN B L r n && alikeB (fwC (B.getD n 0) r) (L.getD n .no)
theorem pickN_iff (B : List Int) (L : List Cl) (r : Ro) : ∀ n, pickN B L r n = true ↔ ∀ b, b < n → alikeB (fwC (B.getD b 0) r) (L.getD b .no) = true
  | 0 => ⟨fun _ b hb => absurd hb (Nat.not_lt_zero _), fun _ => rfl⟩
  | n + 1 => by
    show (pickN B L r n && _) = true ↔ _
    rw [Bool.and_eq_true, pickN_iff B L r n]
    constructor
    · rintro ⟨h1, h2⟩ b hb
      by_cases e : b = n
      · rw [e]; exact h2
      · exact h1 b (by omega)
    · exact fun h => ⟨fun b hb => h b (by omega), h n (by omega)⟩
/-- the key's cells, as a table's row has them -/
noncomputable def byC (q : Qy) (k : List Cl) : List Cl := q.by'.map (fun f => k.getD ((onD q.by').idxOf f) .no)
theorem key_at {F : List Int} {r : Ro} {f : Int} (hf : f ∈ F) : (keyK F r).getD (F.idxOf f) .no = fwC f r := by
  have h : F.idxOf f < F.length := List.idxOf_lt_length_iff.2 hf
  unfold keyK
  rw [List.getD_eq_getElem?_getD, List.getElem?_append_left (by rw [List.length_map]; exact h), List.getElem?_map, List.getElem?_eq_getElem h, List.getElem_idxOf h]
  rfl
theorem key_eq {F : List Int} {r r' : Ro} (h : ∀ f ∈ F, fwC f r = fwC f r') : keyK F r = keyK F r' := by
  unfold keyK
  rw [List.map_congr_left h]
theorem cl_eq {c d : Cl} (h1 : c.ty = d.ty) (h2 : c.num = d.num) (h3 : c.tx = d.tx) : c = d := by
  obtain ⟨a, b, x⟩ := c
  obtain ⟨a', b', x'⟩ := d
  simp only at h1 h2 h3
  subst h1 h2 h3
  rfl
/-- the rows that the law picks are those of the key -/
theorem pick_is {q : Qy} (hok : okQ (gq q) = true) {r0 : Ro} (hb : badK (onD q.by') r0 = false) (r : Ro) (X : List Cl) :
    pickN q.by' (byC q (keyK (onD q.by') r0) ++ X) r q.by'.length = decide (keyK (onD q.by') r = keyK (onD q.by') r0) := by
  have hF : ∀ f ∈ q.by', isF f = true := ((ok_iff _).1 hok).p3
  have h0 : ∀ f ∈ q.by', (fwC f r0).ty ≠ 0 := fun f hf e => by
    unfold badK at hb
    rw [List.any_eq_false] at hb
    exact hb f ((mem_onD _ _).2 hf) (by simpa using e)
  have hL : ∀ b (h : b < q.by'.length), (byC q (keyK (onD q.by') r0) ++ X).getD b .no = fwC q.by'[b] r0 := fun b h => by
    have hl : b < (byC q (keyK (onD q.by') r0)).length := by unfold byC; rw [List.length_map]; exact h
    rw [List.getD_eq_getElem?_getD, List.getElem?_append_left hl]
    unfold byC
    rw [List.getElem?_map, List.getElem?_eq_getElem h]
    exact key_at ((mem_onD _ _).2 (List.getElem_mem h))
  have hB : ∀ b (h : b < q.by'.length), q.by'.getD b 0 = q.by'[b] := fun b h => by rw [List.getD_eq_getElem?_getD, List.getElem?_eq_getElem h]; rfl
  rw [Bool.eq_iff_iff, pickN_iff, decide_eq_true_iff]
  constructor
  · intro h
    refine key_eq (fun f hf => ?_)
    obtain ⟨b, hb', rfl⟩ := List.mem_iff_getElem.1 ((mem_onD _ _).1 hf)
    have := h b hb'
    rw [hB b hb', hL b hb', alike_iff] at this
    obtain ⟨h1, h2, h3⟩ := this
    have hm := List.getElem_mem hb'
    have t1 := (fw_ty0 _ (hF _ hm) r).resolve_right h1
    have t2 := (fw_ty0 _ (hF _ hm) r0).resolve_right (h0 _ hm)
    exact cl_eq (t1.trans t2.symm) h2 h3
  · intro h b hb'
    have hm := List.getElem_mem hb'
    rw [hB b hb', hL b hb', alike_iff]
    have e : fwC q.by'[b] r = fwC q.by'[b] r0 := by
      have h1 := key_at (r := r) ((mem_onD q.by' q.by'[b]).2 hm)
      have h2 := key_at (r := r0) ((mem_onD q.by' q.by'[b]).2 hm)
      rw [← h1, h, h2]
    rw [e]
    exact ⟨h0 _ hm, rfl, rfl⟩
theorem perm_map_ex {α β : Type} (f : α → β) {M N : List β} (h : M.Perm N) : ∀ l : List α, N = l.map f → ∃ l' : List α, l'.Perm l ∧ M = l'.map f := by
  induction h with
  | nil =>
    intro l e
    cases l with
    | nil => exact ⟨[], List.Perm.refl _, rfl⟩
    | cons a l => cases e
  | cons x _ ih =>
    intro l e
    cases l with
    | nil => cases e
    | cons a l =>
      rw [List.map_cons, List.cons.injEq] at e
      obtain ⟨l', h1, h2⟩ := ih l e.2
      exact ⟨a :: l', h1.cons a, by rw [List.map_cons, ← h2, e.1]⟩
  | swap x y L =>
    intro l e
    cases l with
    | nil => cases e
    | cons a l =>
      cases l with
      | nil => cases e
      | cons b l =>
        simp only [List.map_cons, List.cons.injEq] at e
        obtain ⟨e1, e2, e3⟩ := e
        exact ⟨b :: a :: l, List.Perm.swap _ _ _, by simp only [List.map_cons]; rw [e1, e2, e3]⟩
  | trans _ _ ih1 ih2 =>
    intro l e
    obtain ⟨l2, h2, e2⟩ := ih2 l e
    obtain ⟨l1, h1, e1⟩ := ih1 l2 e2
    exact ⟨l1, h1.trans h2, e1⟩
/-- what holds of a table of groups -/
structure Grp (q : Qy) (R : List Ro) (T : List Int) (LL : List (List Cl)) (ks : List (List Cl)) : Prop where
  t : T.length = q.by'.length + q.sh.length
  l : LL = ks.map (fun k => byC q k ++ q.sh.map (totC q (rowsK q R k)))
  p : ∀ k ∈ ks, ∃ r0, badK (onD q.by') r0 = false ∧ keyK (onD q.by') r0 = k
  o : ∀ k ∈ ks, scE (tq q) (rowsK q R k) = 0 ∧ oneQ q (rowsK q R k) = true ∧ scE (cq q) (rowsK q R k) = 0 ∧ 0 < cntN q (rowsK q R k)
  s : (ks.map (fun k => cntN q (rowsK q R k))).sum = cntN q R
  c : scE (cq q) R = 0
theorem sum_perm {l l' : List Nat} (h : l.Perm l') : l.sum = l'.sum := by
  induction h with
  | nil => rfl
  | cons x _ ih => simp only [List.sum_cons]; omega
  | swap x y L => simp only [List.sum_cons]; omega
  | trans _ _ h1 h2 => exact h1.trans h2
theorem grp_of {q : Qy} {R : List Ro} {T : List Int} {LL : List (List Cl)} (hR : R.length < 4294967296) (h0 : scE (gq q) R = 0) (hby : q.by' ≠ []) (h : ScT (gq q) R T LL) : ∃ ks, Grp q R T LL ks := by
  obtain ⟨hok, hov⟩ := scE_zero h0
  rcases h with ⟨_, hT, M, hM, hLL⟩ | ⟨h, _⟩
  · have hov' := hov
    unfold overB at hov'
    rw [Bool.or_eq_false_iff] at hov'
    obtain ⟨hr, hln⟩ := hov'
    have hst : ∀ r ∈ R, stE (gq q) (scF (gq q)) (scS (gq q)) r = 0 := fun r hr' => by
      unfold rowsB at hr
      rw [List.any_eq_false] at hr
      simpa using hr r hr'
    have hwh : ∀ r ∈ R, (whC q r).ty ≠ 0 := fun r hr' e => by
      have := hst r hr'
      unfold stE at this
      rw [if_pos (show (whC (gq q) r).ty = 0 from e)] at this
      cases this
    obtain ⟨ks, hp, hMk⟩ := perm_map_ex _ hM.1 _ rfl
    have hmem : ∀ k ∈ ks, k ∈ ksF (gq q) (scF (gq q)) (scS (gq q)) R := fun k hk => hp.mem_iff.1 hk
    refine ⟨ks, by rw [hT, chk_len hok]; rfl, ?_, fun k hk => ?_, fun k hk => group_told hR h0 hby (hmem k hk), ?_, (cq_E hR).2 ⟨gq_cq hok, hwh⟩⟩
    · have e1 : LL = M.map (rowL (scP (gq q))) := by rw [hLL, show limN (gq q).lim M.length = M.length from rfl, List.take_length]
      rw [e1, hMk, List.map_map]
      refine List.map_congr_left (fun k hk => ?_)
      exact gq_row hok (hmem k hk)
    · obtain ⟨r, r1, r2, r3⟩ := gq_key hby (hmem k hk)
      refine ⟨r, ?_, r3⟩
      have := hst r r1
      cases hb : badK (onD q.by') r with
      | false => rfl
      | true =>
        have h4 : (whC q r).num = 1 := by unfold cntB at r2; simpa using r2
        unfold stE at this
        rw [if_neg (show ¬ (whC (gq q) r).ty = 0 from hwh r r1), if_neg (fun h => h h4), if_pos (show badK (scF (gq q)) r = true from hb)] at this
        cases this
    · rw [sum_perm (hp.map _)]
      have hF : ¬ (scF (gq q) = []) := fun e => by
        cases hb : q.by' with
        | nil => exact hby hb
        | cons f L =>
          have hm : f ∈ onD q.by' := (mem_onD _ _).2 (by rw [hb]; simp)
          have e' : onD q.by' = [] := e
          rw [e'] at hm; cases hm
      have eK : ksF (gq q) (scF (gq q)) (scS (gq q)) R = onD ((R.filter (cntB q)).map (keyK (scF (gq q)))) := by
        unfold ksF
        rw [if_neg (fun h => hF h.1)]
        rfl
      rw [eK]
      have := sum_keys (keyK (scF (gq q))) (R.filter (cntB q)) (onD ((R.filter (cntB q)).map (keyK (scF (gq q))))) (nodup_onD _) (fun x hx => (mem_onD _ _).2 (List.mem_map.2 ⟨x, hx, rfl⟩))
      refine Eq.trans ?_ this
      congr 1
      refine List.map_congr_left (fun k _ => ?_)
      rw [group_cnt, List.filter_filter]
      congr 1
      refine List.filter_congr (fun r _ => ?_)
      unfold inK
      exact Bool.and_comm _ _
  · exact absurd h0 h
theorem sum_take {ks : List (List Cl)} (f : List Cl → Nat) {i : Nat} (h : i < ks.length) : ((ks.take (i + 1)).map f).sum = ((ks.take i).map f).sum + f ks[i] := by
  rw [List.take_add_one, List.getElem?_eq_getElem h, List.map_append, List.sum_append]
  rfl
theorem sum_part (f : List Cl → Nat) (ks : List (List Cl)) (i : Nat) : ((ks.take i).map f).sum ≤ (ks.map f).sum := by
  have : ks = ks.take i ++ ks.drop i := (List.take_append_drop i ks).symm
  have e : (ks.map f).sum = ((ks.take i).map f).sum + ((ks.drop i).map f).sum := by
    rw [← List.sum_append, ← List.map_append, List.take_append_drop]
  omega
end Go.Proofs.YtbenciieenbmeaaGreatDoor
