/- typing: TypingTurned 6. -/
import Derived.Test.YtcelllihidkphaaDoorTyT
namespace Go.Proofs.YtcelllihidkphaaDoor
open Go Go.Shelf Go.ChangeShapes Go.WideShapes Go.ChangeAt Go.RowKit Go.Maps
set_option linter.unusedVariables false
set_option maxRecDepth 100000
set_option maxHeartbeats 8000000
theorem Twn.up {W X w' : World} {q : Qy} {a : Qa} (h : Twn X w' q a) (hb : Below W.heap.size W X) : Twn W w' q a := ⟨h.n.up hb, h.b.up hb, h.s.up hb, h.o.up hb⟩
theorem Twn.below {W X w' : World} {q : Qy} {a : Qa} (h : Twn W X q a) (hb : Below X.heap.size X w') : Twn W w' q a := ⟨h.n.below hb, h.b.below hb, h.s.below hb, h.o.below hb⟩
theorem Lw.ldq {W X : World} {q : Qy} {a : Qa} {N : List Nd} {b : Qa} {bq bp : Nat} (h : Lw W X q a N b bq bp) : (ld32 (.pointer (some ⟨bq, 0, none⟩))).run Tryd.prog X = .ok (qV q a) X :=
  run_ld32 (fun j u hu => by rw [Nat.zero_add, cell_at h.qb]; simpa using hu)
theorem Lw.ldp {W X : World} {q : Qy} {a : Qa} {N : List Nd} {b : Qa} {bq bp : Nat} (h : Lw W X q a N b bq bp) : (ld32 (.pointer (some ⟨bp, 0, none⟩))).run Tryd.prog X = .ok (qV (q.with N) b) X :=
  run_ld32 (fun j u hu => by rw [Nat.zero_add, cell_at h.pb]; simpa using hu)
theorem Lw.cq {W X : World} {q : Qy} {a : Qa} {N : List Nd} {b : Qa} {bq bp : Nat} (h : Lw W X q a N b bq bp) : X.cell? ⟨bq, 0, none⟩ = some (.slice a.pN q.nodes.length a.cN) := by rw [cell_at h.qb]; rfl
theorem Lw.cp {W X : World} {q : Qy} {a : Qa} {N : List Nd} {b : Qa} {bq bp : Nat} (h : Lw W X q a N b bq bp) : X.cell? ⟨bp, 0, none⟩ = some (.slice b.pN q.nodes.length b.cN) := by rw [cell_at h.pb]; show some (Value.slice b.pN N.length b.cN) = _; rw [h.len]
theorem Lw.q {W X : World} {q : Qy} {a : Qa} {N : List Nd} {b : Qa} {bq bp : Nat} (h : Lw W X q a N b bq bp) (hq : QIn W q a) : QIn X (q.with N) b := ⟨h.tw.n.lies kN_ok, h.tw.b.lies kI_ok, h.tw.s.lies kG_ok, h.tw.o.lies kO_ok, by show N.length ≤ _; rw [h.len]; exact hq.nn, hq.nb, hq.ns, hq.no⟩
/-- the law behind its twin: like at both -/
theorem Lw.like {W X : World} {q : Qy} {a : Qa} {N : List Nd} {b : Qa} {bq bp : Nat} (h : Lw W X q a N b bq bp) (hT : Tab W) (hq : QIn W q a) (hN : tyL N = tyL q.nodes) : Calls Tryd.prog 15 #[qV (q.with N) b, qV q a] X fun e w' => e = .returned (.bool true) ∧ Below X.heap.size X w' := by
  have := like_any (hT.below h.bel) (h.q hq) (hq.below h.bel)
  rw [lik_with hN] at this
  exact this
attribute [local go_sem ↓] ld32_is st32_is
theorem turned_walk {W : World} (hT : Tab W) {q : Qy} {a : Qa} (hq : QIn W q a) (hc : QCp a) (at' : Int) : Calls Tryd.prog 6 #[qV q a, .int .i64 at'] W fun e w' => e = .returned (.bool true) ∧ Below W.heap.size W w' := by
  obtain ⟨nN, hnN⟩ : ∃ n, n = q.nodes.length := ⟨_, rfl⟩
  obtain ⟨W1, hW1⟩ : ∃ X, X = W.alloc (.cells #[.slice a.pN nN a.cN, .int .i64 q.wh, .slice a.pB q.by'.length a.cB, .slice a.pS q.sh.length a.cS, .slice a.pO q.ords.length a.cO, .int .i64 q.lim] 32) := ⟨_, rfl⟩
  have hB1 : Below W.heap.size W W1 := by rw [hW1]; exact Below.a1 W _
  have hb1 : W1.heap[W.heap.size]? = some (.cells (qC q a).toArray 32 (0, 0)) := by rw [hW1, hnN]; exact heap_new _ _
  have d1 := hide (first_any (hT.below hB1))
  have HQV : Hid (qV q a = .agg #[.slice a.pN nN a.cN, .int .i64 q.wh, .slice a.pB q.by'.length a.cB, .slice a.pS q.sh.length a.cS, .slice a.pO q.ords.length a.cO, .int .i64 q.lim]) := by show _ = _; rw [hnN]; rfl
  have HT := hide hT; have HQ := hide hq; have HC := hide hc; have HB1 := hide hB1; have Hb1 := hide hb1; have HN := hide hnN
  have HLT : Hid (W.heap.size < W1.heap.size) := by rw [hW1]; simp [Hid]
  rw [unhide HQV]
  clear hT hq hc hB1 hb1 hnN
  go_enter Tryd.func6, Tryd.ntmps6
  go_upto_region 1 with fail
  rw [← hW1]
  clear hW1
  go_wp2_with fail
  refine (unhide d1).mono ?_
  rintro e w2 ⟨rfl, hw2⟩
  have HB2 := hide hw2
  have HBW : Hid (Below W.heap.size W w2) := (unhide HB1).trans (hw2.mono (unhide HB1).size)
  have hqb : w2.heap[W.heap.size]? = some (.cells (qC q a).toArray 32 (0, 0)) := (hw2.block _ (unhide HLT)).trans (unhide Hb1)
  have l2 := run_ld32 (w := w2) (b := W.heap.size) (o := 0) (q := q) (a := a) (fun j u hu => by rw [Nat.zero_add, cell_at hqb]; simpa using hu)
  have HQB := hide hqb
  have d2 := hide (twin_any ((unhide HQ).below (unhide HBW)) (unhide HC))
  obtain ⟨qq, hqq⟩ : ∃ v, v = qV q a := ⟨_, rfl⟩
  rw [← hqq] at l2 d2
  clear hw2 d1 hqb hqq
  go_wp2_with fail
  refine (unhide d2).mono ?_
  rintro e w3 ⟨b, rfl, ht3⟩
  obtain ⟨bp, hbp⟩ : ∃ n, n = w3.heap.size := ⟨_, rfl⟩
  have hqv2 : qV q b = .agg #[.slice b.pN nN b.cN, .int .i64 q.wh, .slice b.pB q.by'.length b.cB, .slice b.pS q.sh.length b.cS, .slice b.pO q.ords.length b.cO, .int .i64 q.lim] := by rw [unhide HN]; rfl
  obtain ⟨X1, hX1⟩ : ∃ X, X = w3.alloc (.cells #[.slice b.pN nN b.cN, .int .i64 q.wh, .slice b.pB q.by'.length b.cB, .slice b.pS q.sh.length b.cS, .slice b.pO q.ords.length b.cO, .int .i64 q.lim] 32) := ⟨_, rfl⟩
  have s3 := run_st32_new (w := w3) (v0 := .slice b.pN nN b.cN) (v1 := .int .i64 q.wh) (v2 := .slice b.pB q.by'.length b.cB) (v3 := .slice b.pS q.sh.length b.cS) (v4 := .slice b.pO q.ords.length b.cO) (v5 := .int .i64 q.lim) (fun u hu => by simp at hu; rcases hu with rfl | rfl | rfl | rfl | rfl | rfl <;> rfl)
  have HL1 : Hid (Lw W X1 q a q.nodes b W.heap.size bp) := by
    have hba : Below w3.heap.size w3 X1 := by rw [hX1]; exact Below.a1 w3 _
    refine ⟨?_, ?_, (ht3.up (unhide HBW)).below hba, rfl⟩
    · have hlt2 : W.heap.size < w2.heap.size := (Array.getElem?_eq_some_iff.1 (unhide HQB)).1
      exact (hba.block _ (Nat.lt_of_lt_of_le hlt2 ht3.bel.size)).trans ((ht3.bel.block _ hlt2).trans (unhide HQB))
    · rw [hX1, hbp, unhide HN]; exact heap_new _ _
  rw [hqv2]
  clear ht3 hqv2 d2 l2 HB2 HB1 Hb1 HLT HQB HBW
  go_upto_region 3 with fail
  rw [← hX1]
  clear hX1 s3
  rw [← hbp]
  have HBP := hide hbp
  clear hbp
  have cp := (unhide HL1).cp
  rw [← unhide HN] at cp
  by_cases h0 : at' < 0
  · go_wp2_with fail
    go_ret
    exact ⟨rfl, (unhide HL1).bel⟩
  by_cases h1 : at' ≥ (nN : Int)
  · go_wp2_with fail
    go_ret
    exact ⟨rfl, (unhide HL1).bel⟩
  obtain ⟨k, rfl⟩ : ∃ k : Nat, at' = k := ⟨at'.toNat, by omega⟩
  have hkn : (k : Int) < (nN : Int) := by omega
  have hk : k < q.nodes.length := by rw [← unhide HN]; omega
  obtain ⟨g, hg, hg1, hg2, cur, hgc⟩ := (unhide HL1).tw.n.start (by show 0 < q.nodes.length; omega)
  obtain ⟨bN, off, ha, hbl, hr⟩ := (unhide HQ).n.2 k hk
  obtain ⟨x, hx⟩ : ∃ x, x = q.nodes[k] := ⟨_, rfl⟩
  rw [← hx] at hr
  have HR : Hid (∀ X N, Lw W X q a N b W.heap.size bp → X.rangeAt bN (off + k * 6) x.vals) := fun X N h j u hu => (h.bel.cell (p := ⟨bN, off + k * 6 + j, none⟩) hbl).trans (hr j u hu)
  have HG := hide hg
  have hnr := (unhide HL1).tw.n
  rw [hg] at hnr
  have c0 := (hnr.cell kN_ok (k := k) (j := 0) hk (v := .int .i64 x.op) (by show ((q.nodes[k]).vals)[0]? = _; rw [← hx]; rfl)).1
  have c0 : X1.cell? ⟨g, k * 6, none⟩ = some (.int .i64 x.op) := c0
  rw [hg] at cp
  have dt := hide (turned_any x.op)
  obtain ⟨op', may, htr⟩ : ∃ o m, trnS x.op = (o, m) := ⟨_, _, rfl⟩
  rw [htr] at dt
  have HTR := hide htr
  have HX := hide hx
  have HA := hide ha
  clear hx htr hnr hr hbl hgc hg ha
  cases may with
  | false =>
    go_wp2_with fail
    refine (unhide dt _).mono ?_
    rintro e w4 ⟨rfl, hw⟩
    rw [hw]; clear hw w4
    go_wp2_with fail
    go_ret
    exact ⟨rfl, (unhide HL1).bel⟩
  | true =>
  have f0 : X1.frozen? ⟨g, k * 6, none⟩ = false := by
    have hnr := (unhide HL1).tw.n
    rw [unhide HG] at hnr
    exact (hnr.cell kN_ok (k := k) (j := 0) hk (v := .int .i64 x.op) (by show ((q.nodes[k]).vals)[0]? = _; rw [← unhide HX]; rfl)).2
  obtain ⟨X2, hX2⟩ : ∃ X, X = X1.setCell ⟨g, k * 6, none⟩ (.int .i64 op') := ⟨_, rfl⟩
  have HL2 : Hid (Lw W X2 q a (q.nodes.set k ⟨op', x.left, x.right, x.field, x.num, x.text⟩) b W.heap.size bp) := by
    rw [hX2]
    exact (unhide HL1).node (unhide HG) hk (j := 0) (by decide) (by rw [← unhide HX]; rfl)
  go_upto_region 8 with (first | (go_at_call 18; refine (unhide dt _).mono ?_; rintro e w4 ⟨rfl, hw⟩; rw [hw]; clear hw w4))
  go_upto_region 9 with fail
  rw [← hX2]
  clear hX2 f0 c0 cp dt
  have HF1 : Hid (∀ X, Lw W X q a (q.nodes.set k ⟨op', x.left, x.right, x.field, x.num, x.text⟩) b W.heap.size bp → X.frozen? ⟨g, k * 6 + 1, none⟩ = false ∧ X.cell? ⟨g, k * 6 + 1, none⟩ = some (.int .i64 x.left)) := fun X h => by
    have hnr := h.tw.n
    rw [unhide HG] at hnr
    have := hnr.cell kN_ok (k := k) (j := 1) (by simpa [Qy.with] using hk) (v := .int .i64 x.left) (by simp [Qy.with, kN, Nd.vals])
    exact ⟨this.2, this.1⟩
  have HF2 : Hid (∀ X, Lw W X q a ((q.nodes.set k ⟨op', x.left, x.right, x.field, x.num, x.text⟩).set k ⟨op', x.right, x.right, x.field, x.num, x.text⟩) b W.heap.size bp → X.frozen? ⟨g, k * 6 + 2, none⟩ = false ∧ X.cell? ⟨g, k * 6 + 2, none⟩ = some (.int .i64 x.right)) := fun X h => by
    have hnr := h.tw.n
    rw [unhide HG] at hnr
    have := hnr.cell kN_ok (k := k) (j := 2) (by simpa [Qy.with] using hk) (v := .int .i64 x.right) (by simp [Qy.with, kN, Nd.vals])
    exact ⟨this.2, this.1⟩
  have HS2 : Hid (∀ X N, Lw W X q a N b W.heap.size bp → (fun X => X.cell? ⟨W.heap.size, 0, none⟩ = some (.slice (some ⟨bN, off, none⟩) nN a.cN) ∧ X.cell? ⟨bp, 0, none⟩ = some (.slice (some ⟨g, 0, none⟩) nN b.cN) ∧ X.cell? ⟨bN, off + k * 6 + 2, none⟩ = some (.int .i64 x.right)) X) := fun X N h => ⟨by rw [h.cq, ← unhide HN, unhide HA], by rw [h.cp, ← unhide HN, unhide HG], by have := unhide HR X N h 2 (.int .i64 x.right) rfl; exact this⟩
  have HS1 : Hid (∀ X N, Lw W X q a N b W.heap.size bp → (fun X => X.cell? ⟨W.heap.size, 0, none⟩ = some (.slice (some ⟨bN, off, none⟩) nN a.cN) ∧ X.cell? ⟨bp, 0, none⟩ = some (.slice (some ⟨g, 0, none⟩) nN b.cN) ∧ X.cell? ⟨bN, off + k * 6 + 1, none⟩ = some (.int .i64 x.left)) X) := fun X N h => ⟨by rw [h.cq, ← unhide HN, unhide HA], by rw [h.cp, ← unhide HN, unhide HG], by have := unhide HR X N h 1 (.int .i64 x.left) rfl; exact this⟩
  have HK1 : Hid (k < (q.nodes.set k ⟨op', x.left, x.right, x.field, x.num, x.text⟩).length) := by show _ < _; simpa using hk
  have HK2 : Hid (k < ((q.nodes.set k ⟨op', x.left, x.right, x.field, x.num, x.text⟩).set k ⟨op', x.right, x.right, x.field, x.num, x.text⟩).length) := by show _ < _; simpa using hk
  have HX1 : Hid (Nd.vals ⟨op', x.right, x.right, x.field, x.num, x.text⟩ = ((q.nodes.set k ⟨op', x.left, x.right, x.field, x.num, x.text⟩)[k]'(unhide HK1)).vals.set 1 (.int .i64 x.right)) := by show _ = _; rw [List.getElem_set_self]; rfl
  have HX2 : Hid (Nd.vals ⟨op', x.right, x.left, x.field, x.num, x.text⟩ = (((q.nodes.set k ⟨op', x.left, x.right, x.field, x.num, x.text⟩).set k ⟨op', x.right, x.right, x.field, x.num, x.text⟩)[k]'(unhide HK2)).vals.set 2 (.int .i64 x.left)) := by show _ = _; rw [List.getElem_set_self]; rfl
  have HL2d : Hid (Lw W X2.drew q a (q.nodes.set k ⟨op', x.left, x.right, x.field, x.num, x.text⟩) b W.heap.size bp) := (unhide HL2).keep (Below.refl _ X2).drew
  obtain ⟨X3, hX3⟩ : ∃ X, X = (X2.setCell ⟨g, k * 6 + 1, none⟩ (.int .i64 x.right)).drew := ⟨_, rfl⟩
  have HL3 : Hid (Lw W X3 q a ((q.nodes.set k ⟨op', x.left, x.right, x.field, x.num, x.text⟩).set k ⟨op', x.right, x.right, x.field, x.num, x.text⟩) b W.heap.size bp) := by
    rw [hX3]
    refine Lw.keep ?_ (Below.refl _ _).drew
    exact (unhide HL2).node (unhide HG) (unhide (HK1)) (by decide) (unhide HX1)
  have fz1 := (unhide HF1) _ (unhide HL2d)
  go_upto_region 9 with fail
  refine wp_region_last (n := 12) (S := (fun X => X.cell? ⟨W.heap.size, 0, none⟩ = some (.slice (some ⟨bN, off, none⟩) nN a.cN) ∧ X.cell? ⟨bp, 0, none⟩ = some (.slice (some ⟨g, 0, none⟩) nN b.cN) ∧ X.cell? ⟨bN, off + k * 6 + 2, none⟩ = some (.int .i64 x.right))) (by kernel_rfl) (unhide HS2 _ _ (unhide HL2d)) (fun hHeld => ?_)
  refine tkW 0 ?_; refine tkN 1 ?_; refine tkW 2 ?_; refine tkW 3 ?_; refine tkN 4 ?_; refine tkW 5 ?_; refine tkW 6 ?_; refine tkW 7 ?_; refine tkN 8 ?_; refine tkW 9 ?_; refine tkW 10 ?_
  refine wpAnyL_one (i := 11) (by kernel_rfl) rfl (fun KK hK => ?_)
  go_simp
  rw [← hX3]
  clear hX3 fz1
  refine hK.out _ _ (unhide HS2 _ _ (unhide HL3)) (fun hHeld => ?_)
  clear hK KK
  refine wpAnyL_done (by kernel_rfl) ?_
  clear hHeld
  have HL3d : Hid (Lw W X3.drew q a ((q.nodes.set k ⟨op', x.left, x.right, x.field, x.num, x.text⟩).set k ⟨op', x.right, x.right, x.field, x.num, x.text⟩) b W.heap.size bp) := (unhide HL3).keep (Below.refl _ X3).drew
  obtain ⟨X4, hX4⟩ : ∃ X, X = (X3.setCell ⟨g, k * 6 + 2, none⟩ (.int .i64 x.left)).drew := ⟨_, rfl⟩
  have HL4 : Hid (Lw W X4 q a (((q.nodes.set k ⟨op', x.left, x.right, x.field, x.num, x.text⟩).set k ⟨op', x.right, x.right, x.field, x.num, x.text⟩).set k ⟨op', x.right, x.left, x.field, x.num, x.text⟩) b W.heap.size bp) := by
    rw [hX4]
    refine Lw.keep ?_ (Below.refl _ _).drew
    exact (unhide HL3).node (unhide HG) (unhide (HK2)) (by decide) (unhide HX2)
  have fz2 := (unhide HF2) _ (unhide HL3d)
  go_upto_region 10 with fail
  refine wp_region_last (n := 12) (S := (fun X => X.cell? ⟨W.heap.size, 0, none⟩ = some (.slice (some ⟨bN, off, none⟩) nN a.cN) ∧ X.cell? ⟨bp, 0, none⟩ = some (.slice (some ⟨g, 0, none⟩) nN b.cN) ∧ X.cell? ⟨bN, off + k * 6 + 1, none⟩ = some (.int .i64 x.left))) (by kernel_rfl) (unhide HS1 _ _ (unhide HL3d)) (fun hHeld => ?_)
  refine tkW 0 ?_; refine tkN 1 ?_; refine tkW 2 ?_; refine tkW 3 ?_; refine tkN 4 ?_; refine tkW 5 ?_; refine tkW 6 ?_; refine tkW 7 ?_; refine tkN 8 ?_; refine tkW 9 ?_; refine tkW 10 ?_
  refine wpAnyL_one (i := 11) (by kernel_rfl) rfl (fun KK hK => ?_)
  go_simp
  rw [← hX4]
  clear hX4 fz2
  refine hK.out _ _ (unhide HS1 _ _ (unhide HL4)) (fun hHeld => ?_)
  clear hK KK
  refine wpAnyL_done (by kernel_rfl) ?_
  clear hHeld
  obtain ⟨N4, hN4⟩ : ∃ N, N = ((q.nodes.set k ⟨op', x.left, x.right, x.field, x.num, x.text⟩).set k ⟨op', x.right, x.right, x.field, x.num, x.text⟩).set k ⟨op', x.right, x.left, x.field, x.num, x.text⟩ := ⟨_, rfl⟩
  rw [← hN4] at HL4
  have hty : tyL N4 = tyL q.nodes := by
    rw [hN4, List.set_set, List.set_set]
    refine tyL_set hk ?_
    rw [← unhide HX]
    exact nt_turn (unhide HTR) _
  have d9 := hide ((unhide HL4).like (unhide HT) (unhide HQ) hty)
  have l8 := (unhide HL4).ldp
  have l9 := (unhide HL4).ldq
  obtain ⟨v8, hv8⟩ : ∃ v, v = qV (q.with N4) b := ⟨_, rfl⟩
  obtain ⟨v9, hv9⟩ : ∃ v, v = qV q a := ⟨_, rfl⟩
  rw [← hv8] at d9 l8
  rw [← hv9] at d9 l9
  clear hv8 hv9 hty hN4 HS1 HS2 HF1 HF2 HK1 HK2 HX1 HX2 HL2 HL3 HL2d HL3d HR HQV
  go_wp2_with fail
  refine (unhide d9).mono ?_
  rintro e w9 ⟨rfl, hw⟩
  have HW := hide hw
  clear hw
  go_wp2_with fail
  go_ret
  exact ⟨rfl, (unhide HL4).bel.trans ((unhide HW).mono (unhide HL4).bel.size)⟩
end Go.Proofs.YtcelllihidkphaaDoor
