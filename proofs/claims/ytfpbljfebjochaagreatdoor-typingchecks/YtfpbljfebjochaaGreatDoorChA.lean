/- typing: the law's checks 4. -/
import Derived.Test.YtfpbljfebjochaaGreatDoorRpE
import Derived.Test.YtfpbljfebjochaaGreatDoorRmC
namespace Go.Proofs.YtfpbljfebjochaaGreatDoor
open Go Go.Shelf Go.ChangeShapes Go.WideShapes Go.ChangeAt Go.RowKit Go.Maps
set_option linter.unusedVariables false
set_option linter.unusedSimpArgs false
set_option maxRecDepth 100000
set_option maxHeartbeats 8000000
theorem Rmy.below {W X w' : World} {q : Qy} {c : Qa} (h : Rmy W X q c) (hb : Below X.heap.size X w') : Rmy W w' q c := ⟨h.n.below hb, h.b.below hb, h.s.below hb, h.o.below hb⟩
theorem eq55 (x : Int) (w : World) : (binOp .eql 55 (.int .i64 x) (.int .i64 x)).run Tryz.prog w = .ok (.bool true) w := by simp [binOp, go_sem, Tryz.underlying55]
attribute [local go_sem ↓] ld32_is st32_is
theorem checks_any {W : World} (hT : Tab W) {q : Qy} {a : Qa} (hq : QIn W q a) (hc : QCp a) : Calls Tryz.prog 4 #[qV q a] W fun e w' => ∃ p n c, e = .returned (.tuple #[.slice p n c, .bool true]) ∧ Rw kI W w' (.slice p n c) n (chkL q) := by
  obtain ⟨nN, hnN⟩ : ∃ n, n = q.nodes.length := ⟨_, rfl⟩
  obtain ⟨W1, hW1⟩ : ∃ X, X = W.alloc (.cells #[.slice a.pN nN a.cN, .int .i64 q.wh, .slice a.pB q.by'.length a.cB, .slice a.pS q.sh.length a.cS, .slice a.pO q.ords.length a.cO, .int .i64 q.lim] 27) := ⟨_, rfl⟩
  have hB1 : Below W.heap.size W W1 := by rw [hW1]; exact Below.a1 W _
  have hlt : W.heap.size < W1.heap.size := by rw [hW1]; simp
  have hb1 : W1.heap[W.heap.size]? = some (.cells (qC q a).toArray 27 (0, 0)) := by rw [hW1, hnN]; exact heap_new _ _
  have HLD : Hid (∀ X, Below W1.heap.size W1 X → (ld32 (.pointer (some ⟨W.heap.size, 0, none⟩))).run Tryz.prog X = .ok (qV q a) X) := fun X h => run_ld32 (fun j u hu => by rw [Nat.zero_add, cell_at ((h.block _ hlt).trans hb1)]; simpa using hu)
  have l1 := unhide HLD _ (Below.refl _ W1)
  have d1 := hide (roomy_any (hq.below hB1) hc)
  have hgo : qV q a = .agg #[.slice a.pN nN a.cN, .int .i64 q.wh, .slice a.pB q.by'.length a.cB, .slice a.pS q.sh.length a.cS, .slice a.pO q.ords.length a.cO, .int .i64 q.lim] := by rw [hnN]; rfl
  have HQ := hide (hq.below hB1); have HN := hide hnN; have HT := hide (hT.below hB1); have HB1 := hide hB1
  rw [hgo]
  obtain ⟨qq, hqq⟩ : ∃ v, v = qV q a := ⟨_, rfl⟩
  have HQQ := hide hqq
  rw [← hqq] at l1 d1 HLD
  clear hT hq hc hB1 hlt hb1 hgo hqq hnN
  go_enter Tryz.func4, Tryz.ntmps4
  go_upto_region 1 with fail
  rw [← hW1]
  clear hW1
  go_wp2_with fail
  refine (unhide d1).mono ?_
  rintro e w2 ⟨c, rfl, R2⟩
  obtain ⟨X1, hX1⟩ : ∃ X, X = w2.alloc (.cells #[.slice c.pN nN c.cN, .int .i64 q.wh, .slice c.pB q.by'.length c.cB, .slice c.pS q.sh.length c.cS, .slice c.pO q.ords.length c.cO, .int .i64 q.lim] 27) := ⟨_, rfl⟩
  obtain ⟨b3, hb3⟩ : ∃ n, n = w2.heap.size := ⟨_, rfl⟩
  have s3 := run_st32_new (w := w2) (v0 := .slice c.pN nN c.cN) (v1 := .int .i64 q.wh) (v2 := .slice c.pB q.by'.length c.cB) (v3 := .slice c.pS q.sh.length c.cS) (v4 := .slice c.pO q.ords.length c.cO) (v5 := .int .i64 q.lim) (fun u hu => by simp at hu; rcases hu with rfl | rfl | rfl | rfl | rfl | rfl <;> rfl)
  rw [← hX1, ← hb3] at s3
  have hBX : Below w2.heap.size w2 X1 := by rw [hX1]; exact Below.a1 w2 _
  have hXb : X1.heap[b3]? = some (.cells (qC q c).toArray 27 (0, 0)) := by rw [hX1, hb3, unhide HN]; exact heap_new _ _
  have hqv : qV q c = .agg #[.slice c.pN nN c.cN, .int .i64 q.wh, .slice c.pB q.by'.length c.cB, .slice c.pS q.sh.length c.cS, .slice c.pO q.ords.length c.cO, .int .i64 q.lim] := by rw [unhide HN]; rfl
  have HR := hide (R2.below hBX)
  have HBX : Hid (Below W1.heap.size W1 X1) := R2.bel.trans (hBX.mono R2.bel.size)
  have hl3 : b3 < X1.heap.size := (Array.getElem?_eq_some_iff.1 hXb).1
  have HL3 : Hid (∀ X, Below X1.heap.size X1 X → (ld32 (.pointer (some ⟨b3, 0, none⟩))).run Tryz.prog X = .ok (qV q c) X) := fun X h => run_ld32 (fun j u hu => by rw [Nat.zero_add, cell_at ((h.block _ hl3).trans hXb)]; simpa using hu)
  have HQC := hide ((unhide HR).q (unhide HQ))
  rw [hqv, ← unhide HN]
  clear d1 l1 R2 hBX hXb hqv hl3 hX1
  go_upto_region 2 with fail
  rw [← hb3, s3]
  clear s3 hb3
  have l3 := unhide HL3 _ (Below.refl _ X1)
  have hT1 := (unhide HT).below (unhide HBX)
  have d3 := check_any hT1.f hT1.m hT1.r (unhide HQC)
  obtain ⟨qc, hqc⟩ : ∃ v, v = qV q c := ⟨_, rfl⟩
  have HQV := hide hqc
  rw [← hqc] at l3 d3 HL3
  obtain ⟨ce, hce⟩ : ∃ v, v = chkE q := ⟨_, rfl⟩
  have HCE := hide hce
  rw [← hce] at d3
  have D3 := hide d3
  clear d3 hqc hce hT1
  go_upto_region 3 with (first | (go_at_call 11; refine (unhide D3).mono ?_; rintro e w3 ⟨p3, n3, c3, rfl, R3⟩))
  have HR3 := hide R3
  have HB3W : Hid (Below W1.heap.size W1 w3) := (unhide HBX).trans (R3.bel.mono (unhide HBX).size)
  have l5 := unhide HLD _ (unhide HB3W)
  have d4 := rcheck_any ((unhide HQ).below (unhide HB3W))
  rw [← unhide HQQ, ← unhide HCE] at d4
  have D4 := hide d4
  clear R3 D3 l3 d4
  go_upto_region 4 with (first | (go_at_call 8; refine (unhide D4).mono ?_; rintro e w4 ⟨p4, n4, c4, rfl, R4⟩))
  have HR4 := hide R4
  have HB4W : Hid (Below W1.heap.size W1 w4) := (unhide HB3W).trans (R4.bel.mono (unhide HB3W).size)
  have hlen := chkL_len (unhide HQ)
  have d5 := same_any (c1 := c3) (c2 := c4) (unhide HR3).len R4.len (((unhide HR3).below R4.bel).lies kI_ok) (R4.lies kI_ok) (by have := (unhide HR3).len; omega) (by have := R4.len; omega)
  rw [decide_eq_true rfl] at d5
  have D5 := hide d5
  clear R4 D4 l5 d5 hlen
  go_upto_region 5 with (first | (go_at_call 9; refine (unhide D5).mono ?_; rintro e w5 ⟨rfl, hw5⟩))
  have HB5 : Hid (Below w3.heap.size w3 w5) := (unhide HR4).bel.trans (hw5.mono (unhide HR4).bel.size)
  have HB5X : Hid (Below X1.heap.size X1 w5) := (unhide HR3).bel.trans ((unhide HB5).mono (unhide HR3).bel.size)
  have HB5W : Hid (Below W1.heap.size W1 w5) := (unhide HBX).trans ((unhide HB5X).mono (unhide HBX).size)
  have l6 := unhide HL3 _ (unhide HB5X)
  have l7 := unhide HLD _ (unhide HB5W)
  have d6 := stays_any ((unhide HR).below (unhide HB5X)) ((unhide HQ).below (unhide HB5W))
  rw [← unhide HQV, ← unhide HQQ, ← unhide HN] at d6
  have D6 := hide d6
  clear hw5 D5 d6
  go_upto_region 6 with (first | (go_at_call 13; refine (unhide D6).mono ?_; rintro e w6 ⟨rfl, hw6⟩))
  have HFIN : Hid (Rw kI W w6 (.slice p3 n3 c3) n3 (chkL q)) := ((((unhide HR3).below (unhide HB5)).below hw6).up (unhide HBX)).up (unhide HB1)
  have e55 := eq55 ce
  clear hw6 D6 l6 l7
  go_wp2_with fail
  exact bodyPost_ret (v := .tuple #[.slice p3 n3 c3, .bool true]) (by simp [results, Tryz.results4, go_sem, *]) rfl ⟨p3, n3, c3, rfl, unhide HFIN⟩
end Go.Proofs.YtfpbljfebjochaaGreatDoor
