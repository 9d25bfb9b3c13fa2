import Derived.Test.YtbenciieenbmeaaGreatDoorU28
/- answer: a table's rows bear its types (no program in it). -/
namespace Go.Proofs.YtbenciieenbmeaaGreatDoor
open Go Go.Shelf Go.ChangeShapes Go.WideShapes Go.ChangeAt Go.RowKit Go.Maps Go.Sort
set_option linter.unusedVariables false
set_option maxRecDepth 100000
set_option maxHeartbeats 4000000
theorem key_ty {q : Qy} {F : List Int} {S : List Ag} {R : List Ro} (hF14 : F.length ≤ 14) (hF : ∀ f ∈ F, isF f = true) (hov : overB q F S R = false) {k : List Cl} (hk : k ∈ ksF q F S R) (d : Nat) (hd : d < F.length) : ∃ c, k[d]? = some c ∧ c.ty = fldT' F[d] := by
  have hrows : rowsB q F S R = false := by
    unfold overB at hov
    rw [Bool.or_eq_false_iff] at hov
    exact hov.1
  have hR : ∀ k ∈ ksR q F R, ∃ c, k[d]? = some c ∧ c.ty = fldT' F[d] := fun k hk => by
    unfold ksR at hk
    rw [mem_onD] at hk
    obtain ⟨r, hr, rfl⟩ := List.mem_map.1 hk
    obtain ⟨hrR, hcnt⟩ := List.mem_filter.1 hr
    unfold rowsB at hrows
    rw [List.any_eq_false] at hrows
    have h0 := hrows r hrR
    have hst : stE q F S r = 0 := by simpa using h0
    have hnum : (whC q r).num = 1 := by unfold cntB at hcnt; simpa using hcnt
    have hbad : badK F r = false := by
      cases hb : badK F r with
      | false => rfl
      | true =>
        unfold stE at hst
        by_cases h1 : (whC q r).ty = 0
        · rw [if_pos h1] at hst; cases hst
        · rw [if_neg h1, if_neg (fun e => e hnum), if_pos hb] at hst; cases hst
    refine ⟨fwC F[d] r, ?_, ?_⟩
    · unfold keyK
      rw [List.getElem?_append_left (by rw [List.length_map]; exact hd), List.getElem?_map, List.getElem?_eq_getElem hd]
      rfl
    · have hmem := List.getElem_mem hd
      unfold badK at hbad
      rw [List.any_eq_false] at hbad
      have hne : ¬ (fwC F[d] r).ty = 0 := by simpa using hbad _ hmem
      exact (fw_ty0 _ (hF _ hmem) r).resolve_right hne
  unfold ksF at hk
  split at hk
  · rename_i hh
    rw [hh.1] at hd
    cases hd
  · exact hR k hk
theorem tkE_ty (k : Int) {e c : Cl} {t : Int} (he : Ty0 e t) (hc : Ty0 c t) : Ty0 (tkE k e c) t := by
  unfold tkE
  split
  · split
    · exact hc
    · exact he
  · split
    · split
      · exact hc
      · exact he
    · exact he
theorem tal_ty {q : Qy} {R : List Ro} {x : Ag} {t : Int} (h : ∀ r, Ty0 (cAt (vlL q.nodes r) x) t) : Ty0 (talR q R x).2 t := by
  unfold talR
  refine onD_ind (p := fun R => Ty0 (R.foldl (fun p r => (tkZ x.kd p.1 (cAt (vlL q.nodes r) x), tkE x.kd p.2 (cAt (vlL q.nodes r) x))) ((0, .no) : Int × Cl)).2 t) (.inr rfl) (fun R r ih => ?_) R
  rw [List.foldl_append]
  exact tkE_ty _ ih (h r)
/-- an aggregate's cell -/
theorem agg_ty {q : Qy} {F : List Int} {S : List Ag} {R : List Ro} (hok : okQ q = true) (hov : overB q F S R = false) {k : List Cl} (hk : k ∈ ksF q F S R) {x : Ag} (hx : x ∈ S) (hty : ¬ x.kd = 1 → x.ty = tat (tyL q.nodes) x.of') (hx0 : ¬ x.kd = 1 → x.ty ≠ 0) : (tlC (φR q F R k x).1 (φR q F R k x).2 x.kd x.ty).ty = x.ty := by
  have hlin : linesB q F S R = false := by
    unfold overB at hov
    rw [Bool.or_eq_false_iff] at hov
    exact hov.2
  unfold linesB at hlin
  rw [List.any_eq_false] at hlin
  have h1 := hlin k hk
  unfold lnB at h1
  rw [Bool.not_eq_true, List.any_eq_false] at h1
  have hne : ¬ (tlC (φR q F R k x).1 (φR q F R k x).2 x.kd x.ty).ty = 0 := by simpa using h1 x hx
  refine Or.resolve_right (show Ty0 _ _ from ?_) hne
  unfold tlC
  by_cases he : isE x.kd = true
  · rw [if_pos he]
    have hk1 : ¬ x.kd = 1 := fun e => by rw [e] at he; cases he
    rw [hty hk1]
    refine tal_ty (fun r => ?_)
    unfold cAt
    rw [if_neg hk1]
    exact (vat_ty (val_ty ((ok_iff q).1 hok).p1 r) x.of').resolve_right (by rw [← hty hk1]; exact hx0 hk1)
  · rw [if_neg he]
    unfold fit
    split
    · exact num_ty _ _
    · exact .inr rfl
theorem shA_ty {q : Qy} (hok : okQ q = true) (j : Nat) (hj : j < q.sh.length) : (shA (chkL q) q.by'.length j q.sh[j]).ty = colT (tyL q.nodes) q.sh[j] := by
  show (chkL q).getD (q.by'.length + j) 0 = _
  rw [(chk_ok hok).2]
  unfold colS
  rw [List.getD_eq_getElem?_getD, List.getElem?_append_right (by rw [List.length_map]; omega), List.length_map, Nat.add_sub_cancel_left, List.getElem?_map, List.getElem?_eq_getElem hj]
  rfl
theorem shw_nz {x : Int × Int} {T : List Int} (h : shwS x T = true) (h1 : ¬ x.1 = 1) : tat T x.2 ≠ 0 := by
  intro e
  unfold shwS at h
  rw [if_neg h1, e] at h
  split at h
  · cases h
  · split at h
    · cases h
    · cases h
theorem row_ty {q : Qy} {R : List Ro} (hok : okQ q = true) (hov : overB q (scF q) (scS q) R = false) {L : List Cl} (hL : L ∈ linesL q (scF q) (scS q) R) : (rowL (scP q) L).map Cl.ty = chkL q := by
  unfold linesL at hL
  obtain ⟨k, hk, rfl⟩ := List.mem_map.1 hL
  have h14 : (scF q).length ≤ 14 := ok_by hok
  have hk14 := ksF_14 h14 k hk
  obtain ⟨L, hLe⟩ : ∃ L, L = lnC k (scF q).length (scS q) (φR q (scF q) R k) := ⟨_, rfl⟩
  rw [← hLe]
  have g1 : ∀ d, d < (scF q).length → L.getD d .no = k.getD d .no := fun d hd => by
    rw [hLe]
    unfold lnC
    rw [List.getD_eq_getElem?_getD, List.getD_eq_getElem?_getD, List.getElem?_append_left (by rw [List.length_take]; omega), List.getElem?_take, if_pos hd]
  have g2 : ∀ e (he : e < (scS q).length), L.getD ((scF q).length + e) .no = tlC (φR q (scF q) R k (scS q)[e]).1 (φR q (scF q) R k (scS q)[e]).2 (scS q)[e].kd (scS q)[e].ty := fun e he => by
    rw [hLe]
    unfold lnC
    rw [List.getD_eq_getElem?_getD, List.getElem?_append_right (by rw [List.length_take]; omega), List.length_take, Nat.min_eq_left (by omega), Nat.add_sub_cancel_left, List.getElem?_map, List.getElem?_eq_getElem he]
    rfl
  rw [(chk_ok hok).2]
  unfold rowL scP plL colS
  rw [List.map_append, List.map_append]
  congr 1
  · unfold onP
    rw [List.map_map, List.map_map]
    refine List.map_congr_left fun f hf => ?_
    have hm : f ∈ scF q := (mem_onD _ _).2 hf
    have hd : (scF q).idxOf f < (scF q).length := List.idxOf_lt_length_iff.2 hm
    have e1 : (scF q)[(scF q).idxOf f] = f := by simp
    obtain ⟨c, hc, ht⟩ := key_ty h14 (fun f hf => ((ok_iff q).1 hok).p3 f ((mem_onD _ _).1 hf)) hov hk _ hd
    show (L.getD (((scF q).idxOf f : Nat) : Int).toNat .no).ty = _
    rw [Int.toNat_natCast, g1 _ hd, List.getD_eq_getElem?_getD, hc, ← e1]
    simpa using ht
  · unfold onP
    rw [List.map_map, List.map_map, List.map_map]
    refine List.ext_getElem (by rw [List.length_map, List.length_map, shL_len]) (fun j h1 h2 => ?_)
    have hj : j < q.sh.length := by simpa using h2
    rw [List.getElem_map, List.getElem_map]
    have ex : (shL (chkL q) q.by'.length q.sh)[j]'(by rw [shL_len]; exact hj) = shA (chkL q) q.by'.length j q.sh[j] := by unfold shL; simp
    rw [ex]
    have hm : shA (chkL q) q.by'.length j q.sh[j] ∈ scS q := (mem_onD _ _).2 (by rw [← ex]; exact List.getElem_mem _)
    have hd : (scS q).idxOf (shA (chkL q) q.by'.length j q.sh[j]) < (scS q).length := List.idxOf_lt_length_iff.2 hm
    have e1 : (scS q)[(scS q).idxOf (shA (chkL q) q.by'.length j q.sh[j])] = shA (chkL q) q.by'.length j q.sh[j] := by simp
    have hty := shA_ty hok j hj
    show (L.getD (((scF q).length : Int) + (((scS q).idxOf (shA (chkL q) q.by'.length j q.sh[j]) : Nat) : Int)).toNat .no).ty = _
    rw [show (((scF q).length : Int) + (((scS q).idxOf (shA (chkL q) q.by'.length j q.sh[j]) : Nat) : Int)).toNat = (scF q).length + (scS q).idxOf (shA (chkL q) q.by'.length j q.sh[j]) by omega, g2 _ hd, e1, ← hty]
    have hof : ¬ q.sh[j].1 = 1 → colT (tyL q.nodes) q.sh[j] = tat (tyL q.nodes) q.sh[j].2 := fun h => by unfold colT; rw [if_neg h]
    refine agg_ty hok hov hk hm (fun h => ?_) (fun h => ?_)
    · rw [hty, hof h]
      show _ = tat _ (if q.sh[j].1 = 1 then 0 else q.sh[j].2)
      rw [if_neg (show ¬ q.sh[j].1 = 1 from h)]
    · rw [hty, hof h]
      exact shw_nz (((ok_iff q).1 hok).p5 _ (List.getElem_mem hj)) h
end Go.Proofs.YtbenciieenbmeaaGreatDoor
/- answer: Scan 20 of a query that means something. -/
namespace Go.Proofs.YtbenciieenbmeaaGreatDoor
open Go Go.Shelf Go.ChangeShapes Go.WideShapes Go.ChangeAt Go.RowKit Go.Maps Go.Sort
set_option linter.unusedVariables false
set_option maxRecDepth 100000
set_option maxHeartbeats 4000000
section
attribute [local go_sem ↓] ld32_is ld34_is st34_is ld80_is st80_is
theorem scan_ok {W : World} {q : Qy} {a : Qa} {pR : Option Addr} {cR : Nat} {R : List Ro} (h : ScIn W q a pR R) (hok : okQ q = true) :
    Calls Tryz.prog 20 #[qV q a, .slice pR R.length cR] W (ScanOut W q R) := by
  obtain ⟨A, hA⟩ : ∃ A, A = (W.alloc (.cells (qC q a).toArray 27)).alloc (.cells #[.slice none 0 0, .slice none 0 0] 34) := ⟨_, rfl⟩
  have hAs : A.heap.size = W.heap.size + 2 := by rw [hA]; simp
  have hBA : Below W.heap.size W A := by rw [hA]; exact Below.a2 W _ _
  have b27 : Bk A W.heap.size 27 (qC q a) := by
    show A.heap[_]? = _
    rw [hA, Below.heap_alloc _ _ _ (by simp)]
    exact heap_new _ _
  have b34 : Bk A (W.heap.size + 1) 34 [.slice none 0 0, .slice none 0 0] := by
    show A.heap[_]? = _
    have := heap_new (W.alloc (.cells (qC q a).toArray 27)) (.cells #[.slice none 0 0, .slice none 0 0] 34)
    simp only [World.size_alloc] at this
    rw [hA]; exact this
  have LD : Hid (∀ w, Below A.heap.size A w → (ld32 (.pointer (some ⟨W.heap.size, 0, none⟩))).run Tryz.prog w = .ok (.agg #[.slice a.pN q.nodes.length a.cN, .int .i64 q.wh, .slice a.pB q.by'.length a.cB, .slice a.pS q.sh.length a.cS, .slice a.pO q.ords.length a.cO, .int .i64 q.lim]) w ∧ w.cell? ⟨W.heap.size, 4, none⟩ = some (.slice a.pO q.ords.length a.cO) ∧ w.cell? ⟨W.heap.size, 5, none⟩ = some (.int .i64 q.lim) ∧ Bk w (W.heap.size + 1) 34 [.slice none 0 0, .slice none 0 0]) := fun w hb => by
    have c27 := b27.same (hb.block _ b27.lt)
    exact ⟨run_ld32 (fun j u hu => by rw [c27.cell, Nat.zero_add]; exact hu), c27.cell 4, c27.cell 5, b34.same (hb.block _ b34.lt)⟩
  have D29 := hide (check_any (h.fl.below hBA) (h.mon.below hBA) (h.rc.below hBA) (h.qi.below hBA))
  rw [(chk_ok hok).1] at D29
  have EO : Hid (∀ w1, Below A.heap.size A w1 → overB q (scF q) (scS q) R = true → ∃ Y, (st34 (.pointer (some ⟨W.heap.size + 1, 0, none⟩)) (.agg #[.slice none 0 0, .slice none 0 0])).run Tryz.prog w1 = .ok () Y ∧ (loadVar 34 ⟨W.heap.size + 1, 0, none⟩).run Tryz.prog Y = .ok (.agg #[.slice none 0 0, .slice none 0 0]) Y ∧ ScanOut W q R (.returned (.tuple #[.agg #[.slice none 0 0, .slice none 0 0], .int .i64 11])) Y) := fun w1 hb hov => by
    obtain ⟨Y, y1, y2, y3⟩ := (b34.same (hb.block _ b34.lt)).st34 (.slice none 0 0) (.slice none 0 0) rfl rfl
    exact ⟨Y, y1, lv34 y2, (hBA.trans (hb.mono hBA.size)).trans (y3.below (by have := hb.size; omega) (fun j hj e => by omega)), fun h => (by rw [hok] at h; cases h), fun _ _ => rfl, fun _ h => (by rw [hov] at h; cases h)⟩
  obtain ⟨nR, hnR⟩ : ∃ n, n = R.length := ⟨_, rfl⟩
  obtain ⟨nF, hnF⟩ : ∃ n, n = (scF q).length := ⟨_, rfl⟩
  obtain ⟨nU, hnU⟩ : ∃ n, n = (scS q).length := ⟨_, rfl⟩
  obtain ⟨nP, hnP⟩ : ∃ n, n = (scP q).length := ⟨_, rfl⟩
  have hnP' : nP = q.by'.length + q.sh.length := by rw [hnP]; exact plL_len q _
  have hnF14 : nF ≤ 14 := by rw [hnF]; exact ok_by hok
  have hnUb : nU ≤ 1048576 := by
    rw [hnU]
    refine Nat.le_trans (len_onD _) ?_
    rw [shL_len]
    exact h.ns
  -- layOut
  have D30 : Hid (∀ w1 p n c, Rw kI A w1 (.slice p n c) n (chkL q) → Calls Tryz.prog 30 #[.agg #[.slice a.pN q.nodes.length a.cN, .int .i64 q.wh, .slice a.pB q.by'.length a.cB, .slice a.pS q.sh.length a.cS, .slice a.pO q.ords.length a.cO, .int .i64 q.lim], .slice p n c] w1 fun e w2 => ∃ pF cF pS cS pP cP, e = .returned (.agg #[.slice pF nF cF, .slice pS nU cS, .slice pP nP cP]) ∧ Below w1.heap.size w1 w2 ∧ Lies kI w2 pF (scF q) ∧ Lies kA w2 pS (scS q) ∧ Lies kI w2 pP (scP q)) := fun w1 p n c hr => by
    have hb := hBA.trans (hr.bel.mono hBA.size)
    have hlen := hr.len
    rw [hnF, hnU, hnP]
    exact layOut_any (h.qi.below hb) (hr.lies kI_ok) hr.len (by rw [← hr.len]; exact chk_len hok) h.nb h.ns (ok_byI hok) h.sI (chk_I q)
  -- lines
  have D31 : Hid (∀ w3 pF cF pS cS pP cP, Below A.heap.size A w3 → Lies kI w3 pF (scF q) → Lies kA w3 pS (scS q) → Calls Tryz.prog 31 #[.agg #[.slice pF nF cF, .slice pS nU cS, .slice pP nP cP], .agg #[.slice a.pN q.nodes.length a.cN, .int .i64 q.wh, .slice a.pB q.by'.length a.cB, .slice a.pS q.sh.length a.cS, .slice a.pO q.ords.length a.cO, .int .i64 q.lim], .slice pR nR cR] w3 (LnsOut w3 q (scF q) (scS q) R)) := fun w3 pF cF pS cS pP cP hb lF lS => by
    have hb0 := hBA.trans (hb.mono hBA.size)
    have hE : Env w3 q a pF nF cF (scF q) pS nU cS (scS q) := {
      n := h.qi.n.below hb0, nb := h.nn, np := fun b o e => Nat.lt_of_lt_of_le (h.np b o e) hb0.size, ah := ok_ahd hok, nd := h.nd, wh := ok_wh hok
      f := lF, fn := hnF.symm, f14 := hnF14, s := lS, sn := hnU.symm, sb := by omega, s0 := ok_s0 hok _ _, sa := ok_ag hok _ _
      mon := h.mon.below hb0, mx := h.mx.below hb0 (by have := h.six; omega), six := by have := h.six; have := hb0.size; omega }
    exact lines_any hE (h.rl.below hb0) hnR.symm (by have := h.rn; omega) h.ro
  -- order
  have hPi : ∀ z ∈ scP q, 0 ≤ z ∧ z < ((nF + nU : Nat) : Int) := by rw [hnF, hnU]; exact plL_in q _
  have hOi : ∀ x ∈ q.ords, 0 ≤ x.1 ∧ x.1 < (nP : Int) := by rw [hnP']; exact ok_ord hok
  have D33 : Hid (∀ w pF cF pS cS pP cP, Below A.heap.size A w → Lies kI w pP (scP q) → Calls Tryz.prog 33 #[.agg #[.slice pF nF cF, .slice pS nU cS, .slice pP nP cP], .slice a.pO q.ords.length a.cO] w fun e w' => ∃ kv p c, e = .returned (.func (.func 54) #[] #[.pointer (some ⟨kv, 0, none⟩)]) ∧ Below w.heap.size w w' ∧ Bk w' kv 25 [.slice p (keysL (scP q) q.ords nF).length c] ∧ Lies kO w' p (keysL (scP q) q.ords nF) ∧ w.heap.size ≤ kv ∧ ∀ b o, p = some ⟨b, o, none⟩ → w.heap.size ≤ b) := fun w pF cF pS cS pP cP hb lP => by
    have hb0 := hBA.trans (hb.mono hBA.size)
    exact order_any lP hnP.symm (h.qi.o.below hb0) rfl hnF14 hnUb h.no hPi hOi
  -- the lines sorted
  have hKi : ∀ k ∈ keysL (scP q) q.ords nF, 0 ≤ k.1 ∧ k.1 < ((nF + nU : Nat) : Int) := keys_in hPi (by rw [← hnP]; exact hOi) (by omega)
  have hKb : (keysL (scP q) q.ords nF).length ≤ 16777216 := by have := keys_len (scP q) q.ords nF; have := h.no; omega
  obtain ⟨LL, hLL⟩ : ∃ L, L = linesL q (scF q) (scS q) R := ⟨_, rfl⟩
  obtain ⟨nL, hnL⟩ : ∃ n, n = LL.length := ⟨_, rfl⟩
  have hnLb : nL ≤ 4194304 := by
    have h1 := lines_count q (scF q) (scS q) R
    have := h.rn
    rw [hnL, hLL]
    omega
  have hLm : ∀ L ∈ LL, L.length = nF + nU := by rw [hLL, hnF, hnU]; exact lines_len (by rw [← hnF]; exact hnF14)
  have hlI := h.lI
  have HA : Hid (A = (W.alloc (.cells #[.slice a.pN q.nodes.length a.cN, .int .i64 q.wh, .slice a.pB q.by'.length a.cB, .slice a.pS q.sh.length a.cS, .slice a.pO q.ords.length a.cO, .int .i64 q.lim] 27)).alloc (.cells #[.slice none 0 0, .slice none 0 0] 34)) := hA
  have HAS := hide hAs
  have HBA := hide hBA
  have HOK := hide hok
  have HPI := hide hPi
  have HKI := hide hKi
  have HLM := hide hLm
  have HLL := hide hLL
  have HNL := hide hnL
  have HNP := hide hnP
  have HNF := hide hnF
  have HNR := hide hnR
  rw [← hnR]
  show Calls Tryz.prog 20 #[.agg #[.slice a.pN q.nodes.length a.cN, .int .i64 q.wh, .slice a.pB q.by'.length a.cB, .slice a.pS q.sh.length a.cS, .slice a.pO q.ords.length a.cO, .int .i64 q.lim], .slice pR nR cR] W _
  have l27 := (unhide LD A (Below.refl _ _)).1
  have HNPb : Hid (nP ≤ 4194304) := by show nP ≤ _; have := h.nb; have := h.ns; omega
  clear h hA hAs hBA b27 b34 hok hnR hnF hnU hnP hnP' hPi hOi hKi hLL hnL hLm
  go_enter Tryz.func20, Tryz.ntmps20
  go_upto_region 1 with fail
  rw [← unhide HA]
  go_wp2_with fail
  refine (unhide D29).mono ?_
  rintro e w1 ⟨p, n, c, rfl, hr⟩
  have HR := hide hr
  have D30' := hide (unhide D30 w1 p n c hr)
  have l27 := (unhide LD w1 hr.bel).1
  clear hr D29 D30
  go_wp2_with fail
  refine (unhide D30').mono ?_
  rintro e w2 ⟨pF, cF, pS, cS, pP, cP, rfl, hb2, lF, lS, lP⟩
  have hB2 : Below A.heap.size A w2 := (unhide HR).bel.trans (hb2.mono (unhide HR).bel.size)
  have hN : Bk (w2.alloc (.cells #[.slice none 0 0, .slice none 0 0, .slice none 0 0] 80)) w2.heap.size 80 [.slice none 0 0, .slice none 0 0, .slice none 0 0] := heap_new _ _
  obtain ⟨w3, y1, y2, y3⟩ := hN.st80 (.slice pF nF cF) (.slice pS nU cS) (.slice pP nP cP) rfl rfl rfl
  have hb23 : Below w2.heap.size w2 w3 := (Below.a1 w2 _).trans (y3.below (by simp) (fun j hj e => by omega))
  have hB3 : Below A.heap.size A w3 := hB2.trans (hb23.mono hB2.size)
  have l27c := (unhide LD w3 hB3).1
  have l80 : (ld80 (.pointer (some ⟨w2.heap.size, 0, none⟩))).run Tryz.prog w3 = .ok (.agg #[.slice pF nF cF, .slice pS nU cS, .slice pP nP cP]) w3 := run_ld80 (fun j u hu => by rw [y2.cell, Nat.zero_add]; exact hu)
  have D31' := hide (unhide D31 w3 pF cF pS cS pP cP hB3 (lF.below hb23) (lS.below hb23))
  have HLP := hide (lP.below hb23)
  have HB3 := hide hB3
  have HB80 := hide y2
  have H23 := hide hb23
  have H12 := hide hb2
  clear hb2 lF lS lP hB2 hN y2 y3 hb23 hB3 D30' D31 l27
  go_wp2_with fail
  refine (unhide D31').mono ?_
  rintro e w4 ⟨hb4, ho1, ho2⟩
  have HB4 : Hid (Below A.heap.size A w4) := (unhide HB3).trans (hb4.mono (unhide HB3).size)
  by_cases hov : overB q (scF q) (scS q) R = true
  · have he := ho1 hov
    subst he
    obtain ⟨Y, z1, z2, z3⟩ := unhide EO w4 (unhide HB4) hov
    have HO := hide z3
    clear ho1 ho2 hov z3 l80 l27c D31' EO hb4 y1
    go_wp2_with fail
    refine bodyPost_ret (results_ct Tryz.results20 rfl rfl z2) rfl ?_
    exact unhide HO
  · have hov' : overB q (scF q) (scS q) R = false := by simpa using hov
    obtain ⟨lb, ss, he, hL⟩ := ho2 hov'
    rw [← unhide HLL, ← unhide HNL] at he
    rw [← unhide HLL] at hL
    subst he
    have l80d : (ld80 (.pointer (some ⟨w2.heap.size, 0, none⟩))).run Tryz.prog w4 = .ok (.agg #[.slice pF nF cF, .slice pS nU cS, .slice pP nP cP]) w4 := by
      have b4 := (unhide HB80).same (hb4.block _ (unhide HB80).lt)
      exact run_ld80 (fun j u hu => by rw [b4.cell, Nat.zero_add]; exact hu)
    have c4 := (unhide LD w4 (unhide HB4)).2.1
    have D33' := hide (unhide D33 w4 pF cF pS cS pP cP (unhide HB4) ((unhide HLP).below hb4))
    have HLNS := hide hL
    have H34 := hide hb4
    have HOV := hide hov'
    clear ho1 ho2 hov hov' hL hb4 l80 l27c D31' EO y1 D33
    go_wp2_with fail
    refine (unhide D33').mono ?_
    rintro e w5 ⟨kv, p5, c5, rfl, b5, bk5, l5, lo5, lp5⟩
    have D32 := hide (sort_both (cK := c5) ((unhide HLNS).below b5) (unhide HNL).symm hnLb (unhide HLM) bk5 l5 hKb (fun b o e => by have := lp5 b o e; have := (unhide HLNS).blk.lt; omega) (unhide HKI))
    have H45 := hide b5
    clear b5 bk5 l5 lo5 lp5 D33' l80d c4
    go_wp2_with fail
    refine (unhide D32).mono ?_
    rintro e w6 ⟨rfl, hF6, LS, hperm, hsort, hz⟩
    have hlo := (unhide HLNS).lo
    have h35 : Below w3.heap.size w3 w5 := (unhide H34).trans ((unhide H45).mono (unhide H34).size)
    have h36 : Below w3.heap.size w3 w6 := h35.trans (hF6.below h35.size (fun j hj e => by omega))
    have hN7 : Bk (w6.alloc (.cells #[.slice none 0 0, .slice none 0 0] 34)) w6.heap.size 34 [.slice none 0 0, .slice none 0 0] := heap_new _ _
    obtain ⟨w7, y1, y2, y3⟩ := hN7.st34 (.slice p n c) (.slice none 0 0) rfl rfl
    have h67 : Below w6.heap.size w6 w7 := (Below.a1 w6 _).trans (y3.below (by simp) (fun j hj e => by omega))
    have ht7 : w6.heap.size < w7.heap.size := y2.lt
    have hB6 : Below A.heap.size A w6 := (unhide HB3).trans (h36.mono (unhide HB3).size)
    have hB7 : Below A.heap.size A w7 := hB6.trans (h67.mono hB6.size)
    have cl5 := (unhide LD w7 hB7).2.2.1
    have hlS : LS.length = nL := by rw [unhide HNL]; exact hperm.length_eq
    have D34 := hide (first_any (W := w7) lb nL q.lim (by omega) hlI)
    obtain ⟨nK, hnK⟩ : ∃ k, k = limN q.lim nL := ⟨_, rfl⟩
    rw [← hnK] at D34
    have hKL : nK ≤ nL := by
      rw [hnK]; unfold limN
      split
      · exact Nat.le_refl _
      · exact Nat.min_le_right _ _
    have HTB : Hid (Tb w7.heap.size w7 w6.heap.size (.slice p n c) (.slice none 0 0) []) := Tb.begin y2 ht7
    have HZ := hide hz
    have H36 := hide h36
    have H67 := hide h67
    have HB6 := hide hB6
    have HT7 := hide ht7
    have HLS := hide hlS
    have HNK := hide hnK
    have HPERM := hide hperm
    have HSORT := hide hsort
    have HLO := hide hlo
    -- a round: what stands, and what a row does
    have RW : Hid (∀ wr, Fr w7 wr (fun j => j = w6.heap.size) → Below w6.heap.size w6 wr ∧ Below w3.heap.size w3 wr ∧ (ld80 (.pointer (some ⟨w2.heap.size, 0, none⟩))).run Tryz.prog wr = .ok (.agg #[.slice pF nF cF, .slice pS nU cS, .slice pP nP cP]) wr) := fun wr hF => by
      have h1 : Below w6.heap.size w6 wr := (unhide H67).trans (hF.below (Nat.le_of_lt (unhide HT7)) (fun j hj e => by omega))
      have h2 : Below w3.heap.size w3 wr := (unhide H36).trans (h1.mono (unhide H36).size)
      have b := (unhide HB80).same (h2.block _ (unhide HB80).lt)
      exact ⟨h1, h2, run_ld80 (fun j u hu => by rw [b.cell, Nat.zero_add]; exact hu)⟩
    have RD : Hid (∀ wr i, Fr w7 wr (fun j => j = w6.heap.size) → i < nK → ∃ pl mL cl L, wr.cell? ⟨lb, i, none⟩ = some (.slice pl mL cl) ∧ LS[i]? = some L ∧
        Calls Tryz.prog 35 #[.agg #[.slice pF nF cF, .slice pS nU cS, .slice pP nP cP], .slice pl mL cl] wr.drew fun e w' => ∃ p c, e = .returned (.slice p nP c) ∧ Rw kC wr.drew w' (.slice p nP c) nP (rowL (scP q) L)) := fun wr i hF hi => by
      have hil : i < LS.length := by have := unhide HLS; omega
      obtain ⟨pl, cl, q1, q2⟩ := (unhide HZ).at' i hil
      obtain ⟨h1, h2, h3⟩ := unhide RW wr hF
      have hd : Below wr.heap.size wr wr.drew := below_drewN (Below.refl _ wr) 1
      have hmem : LS[i] ∈ LL := (unhide HPERM).mem_iff.1 (List.getElem_mem hil)
      refine ⟨pl, LS[i].length, cl, LS[i], (h1.cell (p := ⟨lb, i, none⟩) (unhide HZ).lt).trans q1, List.getElem?_eq_getElem hil, ?_⟩
      exact row_any ((unhide HLP).below (h2.trans (hd.mono h2.size))) (unhide HNP).symm (unhide HNPb) (q2.below (h1.trans (hd.mono h1.size))) rfl (by rw [unhide HLM _ hmem]; exact unhide HPI)
    clear hF6 hperm hsort hz hlo h35 h36 hN7 y2 y3 h67 ht7 hB6 hB7 hlS hnK D32
    go_wp2_with fail
    refine (unhide D34).mono ?_
    rintro e w8 ⟨⟨c8, rfl⟩, hw8⟩
    subst hw8
    clear D34 y1 cl5
    go_wp2_with fail
    go_loopw [49] (fun v49 wr => ∃ (i : Nat), v49 = .int .i64 i ∧ i ≤ nK ∧ Hid (Fr w8 wr (fun j => j = w6.heap.size)) ∧ Hid (∃ vR, Tb w8.heap.size wr w6.heap.size (.slice p n c) vR ((LS.take i).map (rowL (scP q))))) (fun v49 _ => nK - (intOf v49).toNat)
    case atStart => exact ⟨0, rfl, by omega, Fr.refl _ _, ⟨_, unhide HTB⟩⟩
    case round =>
      obtain ⟨i, rfl, hi, hF, hT⟩ := hrel
      by_cases hlt : i < nK
      · obtain ⟨pl, mL, cl, L, q1, q2, D35⟩ := unhide RD wr i (unhide hF) hlt
        obtain ⟨vR, hTb⟩ := unhide hT
        have hdr : Below wr.heap.size wr wr.drew := below_drewN (Below.refl _ wr) 1
        have hlen : ((LS.take i).map (rowL (scP q))).length = i := by
          have := unhide HLS
          rw [List.length_map, List.length_take]; omega
        obtain ⟨pv, cv, evR⟩ := hTb.shape
        rw [hlen] at evR
        subst evR
        have D35' := hide D35
        have HTD := hide (hTb.below hdr)
        have hFd : Fr w8 wr.drew (fun j => j = w6.heap.size) := (unhide hF).drew
        have c10 : wr.drew.cell? ⟨w6.heap.size, 1, none⟩ = some (.slice pv i cv) := (unhide HTD).blk.cell 1
        have l80 := (unhide RW wr.drew hFd).2.2
        have HLEN := hide hlen
        have HFD := hide hFd
        have HQ2 := hide q2
        -- a row more
        have MR : Hid (∀ w9 p9 c9, Rw kC wr.drew w9 (.slice p9 nP c9) nP (rowL (scP q) L) → ∃ p' c' wA, (Builtin.append_ #[32, 32] 32 #[.slice pv i cv, .slice (some ⟨w9.heap.size, 0, none⟩) 1 1]).run Tryz.prog (w9.alloc (.cells #[.slice p9 nP c9] 46)) = .ok (.slice p' (i + 1) c') wA ∧
            (w9.cell? ⟨w6.heap.size, 1, none⟩ = some (.slice pv i cv) ∧ (ld80 (.pointer (some ⟨w2.heap.size, 0, none⟩))).run Tryz.prog w9 = .ok (.agg #[.slice pF nF cF, .slice pS nU cS, .slice pP nP cP]) w9) ∧
            ((w9.alloc (.cells #[.slice p9 nP c9] 46)).cell? ⟨w6.heap.size, 1, none⟩ = some (.slice pv i cv) ∧ (ld80 (.pointer (some ⟨w2.heap.size, 0, none⟩))).run Tryz.prog (w9.alloc (.cells #[.slice p9 nP c9] 46)) = .ok (.agg #[.slice pF nF cF, .slice pS nU cS, .slice pP nP cP]) (w9.alloc (.cells #[.slice p9 nP c9] 46))) ∧
            (wA.cell? ⟨w6.heap.size, 1, none⟩ = some (.slice pv i cv) ∧ (ld80 (.pointer (some ⟨w2.heap.size, 0, none⟩))).run Tryz.prog wA = .ok (.agg #[.slice pF nF cF, .slice pS nU cS, .slice pP nP cP]) wA) ∧ wA.frozen? ⟨w6.heap.size, 1, none⟩ = false ∧
            Fr w8 (wA.setCell ⟨w6.heap.size, 1, none⟩ (.slice p' (i + 1) c')) (fun j => j = w6.heap.size) ∧ Tb w8.heap.size (wA.setCell ⟨w6.heap.size, 1, none⟩ (.slice p' (i + 1) c')) w6.heap.size (.slice p n c) (.slice p' (i + 1) c') ((LS.take (i + 1)).map (rowL (scP q)))) := fun w9 p9 c9 hr9 => by
          have hTD := unhide HTD
          have hFD := unhide HFD
          obtain ⟨ts, t1, t2, t3⟩ := hTD.ex
          have hle : i ≤ 16777216 := by omega
          obtain ⟨p', c', wA, r4, cA, fA, FA, TA, FB⟩ := hTD.more hFD.size hr9 (by rw [unhide HLEN]; exact hle)
          rw [unhide HLEN] at r4 TA FB
          have own : ∀ j, j < w8.heap.size → ¬ (Value.slice pv i cv).ownBlock = some j := fun j hj e => by have := (row_block t2 e).1; omega
          have F9 : Fr w8 w9 (fun j => j = w6.heap.size) := hFD.trans (Fr.of_below hr9.bel _) (fun _ _ h => h)
          have F9a : Fr w8 (w9.alloc (.cells #[.slice p9 nP c9] 46)) (fun j => j = w6.heap.size) := F9.alloc _
          have FwA : Fr w8 wA (fun j => j = w6.heap.size) := hFD.trans FA (fun j hj e => absurd e (own j hj))
          have T9 := hTD.below hr9.bel
          refine ⟨p', c', wA, r4, ⟨T9.blk.cell 1, (unhide RW _ F9).2.2⟩, ⟨(T9.below (Below.a1 w9 _)).blk.cell 1, (unhide RW _ F9a).2.2⟩, ⟨cA, (unhide RW _ FwA).2.2⟩, fA, hFD.trans FB (fun j hj e => e.elim id (fun e => absurd e (own j hj))), ?_⟩
          have hil : i < LS.length := (List.getElem?_eq_some_iff.1 (unhide HQ2)).1
          have eL : LS[i] = L := (List.getElem?_eq_some_iff.1 (unhide HQ2)).2
          rw [List.take_succ_eq_append_getElem hil, List.map_append, eL]
          exact TA
        have hin : (i : Int) < (nK : Int) := by omega
        have hi0 : ¬ (i : Int) < 0 := by omega
        clear hTb hdr hlen D35 hFd q2 hF hT
        go_upto_region 13 with fail
        refine wp_region_last (n := 8) (S := fun W' => W'.cell? ⟨w6.heap.size, 1, none⟩ = some (.slice pv i cv) ∧ (ld80 (.pointer (some ⟨w2.heap.size, 0, none⟩))).run Tryz.prog W' = .ok (.agg #[.slice pF nF cF, .slice pS nU cS, .slice pP nP cP]) W') (by kernel_rfl) ⟨c10, l80⟩ (fun hHeld => ?_)
        refine tkW 0 ?_; refine tkS 1 ?_; refine tkS 2 ?_; refine tkW 3 ?_
        refine wpAnyL_one (i := 4) (by kernel_rfl) rfl (fun KK hK => ?_)
        go_simp
        go_wp2_with fail
        refine (unhide D35').mono ?_
        rintro e w9 ⟨p9, c9, rfl, hr9⟩
        obtain ⟨p', c', wA, r4, s9, s9a, sA, fA, fE, tE⟩ := unhide MR w9 p9 c9 hr9
        have R4 := hide r4
        have FE := hide fE
        have TE := hide tE
        have S9A := hide s9a
        have SA := hide sA
        have FZ := hide fA
        clear r4 fE tE s9a sA fA hr9 MR D35' c10 l80 hHeld
        refine hK.out _ _ s9 (fun hHeld => ?_)
        clear hK KK s9
        refine wpAnyL_one (i := 5) (by kernel_rfl) rfl (fun KK hK => ?_)
        go_simp
        refine hK.out _ _ (unhide S9A) (fun hHeld => ?_)
        clear hK KK
        refine wpAnyL_one (i := 6) (by kernel_rfl) rfl (fun KK hK => ?_)
        refine step_append_run _ rfl _ _ 32 rfl _ _ _ _ rfl rfl (unhide R4) ?_
        refine hK.out _ _ (unhide SA) (fun hHeld => ?_)
        clear hK KK
        refine tkW 7 ?_
        refine wpAnyL_past (i := 8) (by kernel_rfl) rfl (by kernel_rfl) (fun KK hK => ?_)
        have cA := (unhide SA).1
        have fA := unhide FZ
        go_simp
        refine hK.out _ _ ?_
        clear hK KK cA fA
        refine wpAnyL_done (by kernel_rfl) ?_
        go_wp2_with fail
        exact ⟨⟨i + 1, by go_num, by omega, unhide FE, ⟨_, unhide TE⟩⟩, by simp [intOf]; omega⟩
      · have hin : i = nK := by omega
        subst hin
        obtain ⟨vR, hTb⟩ := unhide hT
        obtain ⟨h1, h2, _⟩ := unhide RW wr (unhide hF)
        have hBr : Below A.heap.size A wr := (unhide HB3).trans (h2.mono (unhide HB3).size)
        have l34 := hTb.blk.ld34
        obtain ⟨pv, cv, evR⟩ := hTb.shape
        obtain ⟨Y, y1, y2, y3⟩ := (unhide LD wr hBr).2.2.2.st34 (.slice p n c) vR rfl (by rw [evR]; rfl)
        have hlv := lv34 y2
        have HO : Hid (ScanOut W q R (.returned (.tuple #[.agg #[.slice p n c, vR], .int .i64 0])) Y) := by
          have hBW := (unhide HBA).trans (hBr.mono (unhide HBA).size)
          have has := unhide HAS
          have hrs := hBr.size
          refine ⟨hBW.trans (y3.below hBW.size (fun j hj e => by omega)), fun h => (by rw [unhide HOK] at h; cases h), fun _ h => (by rw [unhide HOV] at h; cases h), fun _ _ => ⟨_, LS, rfl, ?_, ?_, ?_⟩⟩
          · rw [← unhide HLL]; exact unhide HPERM
          · rw [← unhide HNF]; exact List.Pairwise.imp (fun h => Int.not_lt.2 h) (unhide HSORT)
          · rw [unhide HLS, ← unhide HNK]
            obtain ⟨ts, t1, t2, t3⟩ := hTb.ex
            have h8 := (unhide hF).size
            have hb1w : Below w1.heap.size w1 wr := by
              have g1 := (unhide H12).trans ((unhide H23).mono (unhide H12).size)
              exact g1.trans (h2.mono g1.size)
            have hA8 : A.heap.size ≤ w8.heap.size := Nat.le_trans (unhide HB6).size (Nat.le_of_lt (unhide HT7))
            rw [evR] at t2 ⊢
            have n1 : ∀ b o, p = some ⟨b, o, none⟩ → A.heap.size ≤ b := fun b o e => (row_block (unhide HR).row (g := b) (by rw [e]; rfl)).1
            have n2 : ∀ b o, pv = some ⟨b, o, none⟩ → w8.heap.size ≤ b := fun b o e => (row_block t2 (g := b) (by rw [e]; rfl)).1
            refine ⟨p, c, pv, cv, ts, by rw [(unhide HR).len], ⟨?_, fun b o e => by have := n1 b o e; omega⟩, ⟨?_, fun b o e => (by have := n2 b o e; omega), row_capn t2⟩, t1, fun j hj => ?_⟩
            · refine (((unhide HR).lies kI_ok).below hb1w).fr y3 (fun b off e e2 => ?_)
              have := n1 b off e
              omega
            · refine (own_lies kS_ok t1 t2).fr y3 (fun b off e e2 => ?_)
              have := n2 b off e
              omega
            · obtain ⟨pj, cj, e1, e2, e3⟩ := t3 j hj
              refine ⟨pj, cj, e1, e2.l.fr y3 (fun b off e e4 => ?_), fun b o e => ?_⟩
              · have := e3 b off e
                omega
              · have := e3 b o e
                omega
        clear hTb h1 h2 hBr evR y2 y3 hF hT RW RD
        go_wp2_with fail
        refine bodyPost_ret (results_ct Tryz.results20 rfl rfl hlv) rfl ?_
        exact unhide HO
end
theorem scan_any {W : World} {q : Qy} {a : Qa} {pR : Option Addr} {cR : Nat} {R : List Ro} (h : ScIn W q a pR R) : Calls Tryz.prog 20 #[qV q a, .slice pR R.length cR] W (ScanOut W q R) := by
  cases hok : okQ q with
  | false => exact scan_bad h hok
  | true => exact scan_ok h hok
end Go.Proofs.YtbenciieenbmeaaGreatDoor
/- the law's scan 10: Scan of copies. -/
namespace Go.Proofs.YtbenciieenbmeaaGreatDoor
open Go Go.Shelf Go.ChangeShapes Go.WideShapes Go.ChangeAt Go.RowKit Go.Maps Go.Sort
set_option linter.unusedVariables false
set_option maxRecDepth 100000
set_option maxHeartbeats 4000000
theorem ScanOut.two {W : World} {q : Qy} {R : List Ro} {e : Ending} {w' : World} (h : ScanOut W q R e w') : ∃ x y E, e = .returned (.tuple #[.agg #[x, y], .int .i64 E]) ∧ x.oneCell' = true ∧ y.oneCell' = true := by
  obtain ⟨_, h1, h2, h3⟩ := h
  cases hok : okQ q with
  | false => exact ⟨_, _, _, h1 hok, rfl, rfl⟩
  | true =>
    cases hov : overB q (scF q) (scS q) R with
    | true => exact ⟨_, _, _, h2 hok hov, rfl, rfl⟩
    | false =>
      obtain ⟨v, LL, e1, _, _, pT, cT, pR, cR, ts, e2, _⟩ := h3 hok hov
      exact ⟨_, _, _, by rw [e1, e2], rfl, rfl⟩
theorem ScanOut.over {W w2 w3 Y : World} {q : Qy} {R : List Ro} {e : Ending} {g : Nat} (h : ScanOut w2 q R e w3) (hb : Below W.heap.size W w2) (hF : Fr w3 Y (fun j => j = g)) (h1 : W.heap.size ≤ g) (h2 : g < w2.heap.size) : ScanOut W q R e Y := by
  obtain ⟨g0, g1, g2, g3⟩ := h
  have b3 : Below W.heap.size W w3 := hb.trans (g0.mono hb.size)
  refine ⟨b3.trans (hF.below b3.size (fun j hj e => by omega)), g1, g2, fun hok hov => ?_⟩
  obtain ⟨v, LL, e1, e2, e3, e4⟩ := g3 hok hov
  exact ⟨v, LL, e1, e2, e3, (e4.fr hF (fun j e => by omega)).mono hb.size⟩
/-- a query and rows that the law's scan can take: it copies them -/
structure ScIq (W : World) (q : Qy) (a : Qa) (pR : Option Addr) (R : List Ro) : Prop where
  fl : Flds W
  mon : Mon W
  rc : Recs W
  mx : Mx W
  six : 6 ≤ W.heap.size
  qi : QIn W q a
  nn : q.nodes.length ≤ 4194304
  nb : q.by'.length ≤ 1048576
  ns : q.sh.length ≤ 1048576
  no : q.ords.length ≤ 1048576
  nd : ∀ x ∈ q.nodes, NdOk x
  sI : ∀ x ∈ q.sh, inI x.1 ∧ inI x.2
  lI : inI q.lim
  rl : Lies kR W pR R
  rn : R.length ≤ 2097152
  ro : ∀ r ∈ R, RoOk r
section
attribute [local go_sem ↓] ld32_is ld34_is st34_is
theorem lscan_any {W : World} {q : Qy} {a : Qa} {pR : Option Addr} {cR : Nat} {R : List Ro} (h : ScIq W q a pR R) (hc : QCp a) (hcR : pR = none → cR = 0) :
    Calls Tryz.prog 10 #[qV q a, .slice pR R.length cR] W (ScanOut W q R) := by
  obtain ⟨A, hA⟩ : ∃ A, A = (W.alloc (.cells (qC q a).toArray 27)).alloc (.cells #[.slice none 0 0, .slice none 0 0] 34) := ⟨_, rfl⟩
  have hAs : A.heap.size = W.heap.size + 2 := by rw [hA]; simp
  have hBA : Below W.heap.size W A := by rw [hA]; exact Below.a2 W _ _
  have b27 : Bk A W.heap.size 27 (qC q a) := by
    show A.heap[_]? = _
    rw [hA, Below.heap_alloc _ _ _ (by simp)]
    exact heap_new _ _
  have b34 : Bk A (W.heap.size + 1) 34 [.slice none 0 0, .slice none 0 0] := by
    show A.heap[_]? = _
    have := heap_new (W.alloc (.cells (qC q a).toArray 27)) (.cells #[.slice none 0 0, .slice none 0 0] 34)
    simp only [World.size_alloc] at this
    rw [hA]; exact this
  have l27 : (ld32 (.pointer (some ⟨W.heap.size, 0, none⟩))).run Tryz.prog A = .ok (.agg #[.slice a.pN q.nodes.length a.cN, .int .i64 q.wh, .slice a.pB q.by'.length a.cB, .slice a.pS q.sh.length a.cS, .slice a.pO q.ords.length a.cO, .int .i64 q.lim]) A := run_ld32 (fun j u hu => by rw [b27.cell, Nat.zero_add]; exact hu)
  have D13 := hide (copied_any (h.qi.below hBA) hc)
  have HW := hide h
  obtain ⟨nR, hnR⟩ : ∃ n, n = R.length := ⟨_, rfl⟩
  have NX : Hid (∀ w1 a', Twn A w1 q a' → ∃ p c w2, (Builtin.append_ #[28, 28] 28 #[.slice none 0 0, .slice pR nR cR]).run Tryz.prog w1 = .ok (.slice p nR c) w2 ∧ (Calls Tryz.prog 20 #[.agg #[.slice a'.pN q.nodes.length a'.cN, .int .i64 q.wh, .slice a'.pB q.by'.length a'.cB, .slice a'.pS q.sh.length a'.cS, .slice a'.pO q.ords.length a'.cO, .int .i64 q.lim], .slice p nR c] w2 fun e w3 => ∃ x y E Y, e = .returned (.tuple #[.agg #[x, y], .int .i64 E]) ∧ (st34 (.pointer (some ⟨W.heap.size + 1, 0, none⟩)) (.agg #[x, y])).run Tryz.prog w3 = .ok () Y ∧ (loadVar 34 ⟨W.heap.size + 1, 0, none⟩).run Tryz.prog Y = .ok (.agg #[x, y]) Y ∧ ScanOut W q R (.returned (.tuple #[.agg #[x, y], .int .i64 E])) Y)) := fun w1 a' ht => by
    have hb1 := ht.n.bel
    have hbW1 : Below W.heap.size W w1 := hBA.trans (hb1.mono hBA.size)
    obtain ⟨p, c, w2, r2, R2⟩ := Rw.copy kR_ok w1 R pR cR hcR (h.rl.below hbW1) 28 (by have := h.rn; omega) (nat_bound (c := 2097152) h.rn (by decide))
    rw [← hnR] at r2 R2
    have hbW2 : Below W.heap.size W w2 := hbW1.trans (R2.bel.mono hbW1.size)
    have hb2 := R2.bel
    have hS : ScIn w2 q a' p R := {
      fl := h.fl.below hbW2, mon := h.mon.below hbW2, rc := h.rc.below hbW2, mx := h.mx.below hbW2 (by have := h.six; omega), six := by have := h.six; have := hbW2.size; omega
      qi := ⟨(ht.n.lies kN_ok).below hb2, (ht.b.lies kI_ok).below hb2, (ht.s.lies kG_ok).below hb2, (ht.o.lies kO_ok).below hb2, h.qi.nn, h.qi.nb, h.qi.ns, h.qi.no⟩
      np := fun b o e => by
        have := (row_block ht.n.row (g := b) (by rw [e]; rfl)).2.1
        have := hb2.size
        omega
      nn := h.nn, nb := h.nb, ns := h.ns, no := h.no, nd := h.nd, sI := h.sI, lI := h.lI
      rl := R2.lies kR_ok, rn := h.rn, ro := h.ro }
    refine ⟨p, c, w2, r2, ?_⟩
    have D := scan_any (cR := c) hS
    rw [← hnR] at D
    refine Calls.mono (show Calls Tryz.prog 20 _ w2 _ from D) fun e w3 ho => ?_
    obtain ⟨x, y, E, he, hx, hy⟩ := ho.two
    subst he
    have hbA2 : Below A.heap.size A w2 := hb1.trans (hb2.mono hb1.size)
    have hbA3 : Below A.heap.size A w3 := hbA2.trans (ho.1.mono hbA2.size)
    obtain ⟨Y, y1, y2, y3⟩ := (b34.same (hbA3.block _ b34.lt)).st34 x y hx hy
    exact ⟨x, y, E, Y, rfl, y1, lv34 y2, ho.over hbW2 y3 (by omega) (by have := hbA2.size; omega)⟩
  have HA : Hid (A = (W.alloc (.cells #[.slice a.pN q.nodes.length a.cN, .int .i64 q.wh, .slice a.pB q.by'.length a.cB, .slice a.pS q.sh.length a.cS, .slice a.pO q.ords.length a.cO, .int .i64 q.lim] 27)).alloc (.cells #[.slice none 0 0, .slice none 0 0] 34)) := hA
  rw [← hnR]
  show Calls Tryz.prog 10 #[.agg #[.slice a.pN q.nodes.length a.cN, .int .i64 q.wh, .slice a.pB q.by'.length a.cB, .slice a.pS q.sh.length a.cS, .slice a.pO q.ords.length a.cO, .int .i64 q.lim], .slice pR nR cR] W _
  clear h hc hcR hA hAs hBA b27 b34 hnR HW
  go_enter Tryz.func10, Tryz.ntmps10
  go_upto_region 1 with fail
  rw [← unhide HA]
  go_wp2_with fail
  refine (unhide D13).mono ?_
  rintro e w1 ⟨a', rfl, ht⟩
  obtain ⟨p, c, w2, r2, D20⟩ := unhide NX w1 a' ht
  have HR2 := hide r2
  have HD := hide D20
  clear ht r2 D20 D13 NX l27
  unfold qV
  go_wp2_with (at_builtin; refine wpList_append_run rfl _ _ 28 rfl _ _ _ _ rfl rfl (unhide HR2) ?_)
  refine (unhide HD).mono ?_
  rintro e w3 ⟨x, y, E, Y, rfl, y1, y2, y3⟩
  have HO := hide y3
  clear y3 HD HR2
  go_wp2_with fail
  refine bodyPost_ret (results_ct Tryz.results10 rfl rfl y2) rfl ?_
  exact unhide HO
end
end Go.Proofs.YtbenciieenbmeaaGreatDoor
