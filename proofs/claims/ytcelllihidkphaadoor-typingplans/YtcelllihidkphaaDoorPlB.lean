/- typing: TypingPlans 8. -/
import Derived.Test.YtcelllihidkphaaDoorRpJ
import Derived.Test.YtcelllihidkphaaDoorRmC
import Derived.Test.YtcelllihidkphaaDoorPlA
namespace Go.Proofs.YtcelllihidkphaaDoor
open Go Go.Shelf Go.ChangeShapes Go.WideShapes Go.ChangeAt Go.RowKit Go.Maps
set_option linter.unusedVariables false
set_option linter.unusedSimpArgs false
set_option maxRecDepth 100000
set_option maxHeartbeats 8000000
theorem Rmy.below {W X w' : World} {q : Qy} {c : Qa} (h : Rmy W X q c) (hb : Below X.heap.size X w') : Rmy W w' q c := ⟨h.n.below hb, h.b.below hb, h.s.below hb, h.o.below hb⟩
attribute [local go_sem ↓] ld32_is st32_is
theorem plans_walk {W : World} (hT : Tab W) {q : Qy} {a : Qa} (hq : QIn W q a) (hc : QCp a) : Calls Tryd.prog 8 #[qV q a] W fun e w' => e = .returned (.bool true) ∧ Below W.heap.size W w' := by
  obtain ⟨nN, hnN⟩ : ∃ n, n = q.nodes.length := ⟨_, rfl⟩
  obtain ⟨W1, hW1⟩ : ∃ X, X = W.alloc (.cells #[.slice a.pN nN a.cN, .int .i64 q.wh, .slice a.pB q.by'.length a.cB, .slice a.pS q.sh.length a.cS, .slice a.pO q.ords.length a.cO, .int .i64 q.lim] 32) := ⟨_, rfl⟩
  have hB1 : Below W.heap.size W W1 := by rw [hW1]; exact Below.a1 W _
  have hlt : W.heap.size < W1.heap.size := by rw [hW1]; simp
  have hb1 : W1.heap[W.heap.size]? = some (.cells (qC q a).toArray 32 (0, 0)) := by rw [hW1, hnN]; exact heap_new _ _
  have HLD : Hid (∀ X, Below W1.heap.size W1 X → (ld32 (.pointer (some ⟨W.heap.size, 0, none⟩))).run Tryd.prog X = .ok (qV q a) X) := fun X h => run_ld32 (fun j u hu => by rw [Nat.zero_add, cell_at ((h.block _ hlt).trans hb1)]; simpa using hu)
  have HWB : Hid (∀ X, Below W1.heap.size W1 X → Below W.heap.size W X) := fun X h => hB1.trans (h.mono hB1.size)
  have l1 := unhide HLD _ (Below.refl _ W1)
  have d1 := hide (roomy_any (hq.below hB1) hc)
  have hgo : qV q a = .agg #[.slice a.pN nN a.cN, .int .i64 q.wh, .slice a.pB q.by'.length a.cB, .slice a.pS q.sh.length a.cS, .slice a.pO q.ords.length a.cO, .int .i64 q.lim] := by rw [hnN]; rfl
  have HQ := hide (hq.below hB1); have HN := hide hnN; have HT := hide (hT.below hB1)
  rw [hgo]
  obtain ⟨qq, hqq⟩ : ∃ v, v = qV q a := ⟨_, rfl⟩
  have HQQ := hide hqq
  rw [← hqq] at l1 d1 HLD
  clear hT hq hc hB1 hlt hb1 hgo hqq hnN
  go_enter Tryd.func8, Tryd.ntmps8
  go_upto_region 1 with fail
  rw [← hW1]
  clear hW1
  go_wp2_with fail
  refine (unhide d1).mono ?_
  rintro e w2 ⟨c, rfl, R2⟩
  obtain ⟨X1, hX1⟩ : ∃ X, X = w2.alloc (.cells #[.slice c.pN nN c.cN, .int .i64 q.wh, .slice c.pB q.by'.length c.cB, .slice c.pS q.sh.length c.cS, .slice c.pO q.ords.length c.cO, .int .i64 q.lim] 32) := ⟨_, rfl⟩
  obtain ⟨b3, hb3⟩ : ∃ n, n = w2.heap.size := ⟨_, rfl⟩
  have s3 := run_st32_new (w := w2) (v0 := .slice c.pN nN c.cN) (v1 := .int .i64 q.wh) (v2 := .slice c.pB q.by'.length c.cB) (v3 := .slice c.pS q.sh.length c.cS) (v4 := .slice c.pO q.ords.length c.cO) (v5 := .int .i64 q.lim) (fun u hu => by simp at hu; rcases hu with rfl | rfl | rfl | rfl | rfl | rfl <;> rfl)
  rw [← hX1, ← hb3] at s3
  have hBX : Below w2.heap.size w2 X1 := by rw [hX1]; exact Below.a1 w2 _
  have hXb : X1.heap[b3]? = some (.cells (qC q c).toArray 32 (0, 0)) := by rw [hX1, hb3, unhide HN]; exact heap_new _ _
  have hqv : qV q c = .agg #[.slice c.pN nN c.cN, .int .i64 q.wh, .slice c.pB q.by'.length c.cB, .slice c.pS q.sh.length c.cS, .slice c.pO q.ords.length c.cO, .int .i64 q.lim] := by rw [unhide HN]; rfl
  have HR := hide (R2.below hBX)
  have HBX : Hid (Below W1.heap.size W1 X1) := R2.bel.trans (hBX.mono R2.bel.size)
  have hl3 : b3 < X1.heap.size := (Array.getElem?_eq_some_iff.1 hXb).1
  have HL3 : Hid (∀ X, Below X1.heap.size X1 X → (ld32 (.pointer (some ⟨b3, 0, none⟩))).run Tryd.prog X = .ok (qV q c) X) := fun X h => run_ld32 (fun j u hu => by rw [Nat.zero_add, cell_at ((h.block _ hl3).trans hXb)]; simpa using hu)
  have HQC := hide ((unhide HR).q (unhide HQ))
  rw [hqv, ← unhide HN]
  clear d1 l1 R2 hBX hXb hqv hl3 hX1
  go_upto_region 2 with fail
  rw [← hb3, s3]
  clear s3 hb3
  have l3 := unhide HL3 _ (Below.refl _ X1)
  have d3 := plan_any ((unhide HT).below (unhide HBX)) (unhide HQC) (by have := (unhide HR).n.cap; omega)
  obtain ⟨qc, hqc⟩ : ∃ v, v = qV q c := ⟨_, rfl⟩
  have HQV := hide hqc
  rw [← hqc] at l3 d3 HL3
  obtain ⟨pl, hpl⟩ : ∃ v, v = planS q := ⟨_, rfl⟩
  have HPL := hide hpl
  rw [← hpl] at d3
  have D3 := hide d3
  clear d3 hqc hpl
  go_upto_region 3 with (first | (go_at_call 19; refine (unhide D3).mono ?_; rintro e w3 ⟨rfl, hw3⟩))
  have HB3 := hide hw3
  have HB3W : Hid (Below W1.heap.size W1 w3) := (unhide HBX).trans (hw3.mono (unhide HBX).size)
  have l4 := unhide HL3 _ hw3
  have l5 := unhide HLD _ (unhide HB3W)
  have d4 := stays_any ((unhide HR).below hw3) ((unhide HQ).below (unhide HB3W))
  rw [← unhide HQV, ← unhide HQQ, ← unhide HN] at d4
  have D4 := hide d4
  clear hw3 D3 l3 d4
  go_upto_region 4 with (first | (go_at_call 22; refine (unhide D4).mono ?_; rintro e w4 ⟨rfl, hw4⟩))
  have HB4W : Hid (Below W1.heap.size W1 w4) := (unhide HB3W).trans (hw4.mono (unhide HB3W).size)
  have l6 := unhide HLD _ (unhide HB4W)
  have d5 := rplan_any ((unhide HQ).below (unhide HB4W))
  rw [← unhide HQQ, ← unhide HPL] at d5
  have D5 := hide d5
  clear hw4 D4 l4 l5 d5
  go_wp2_with (first | (go_at_call 23; refine (unhide D5).mono ?_; rintro e w5 ⟨rfl, hw5⟩))
  have HB5 : Hid (Below W.heap.size W w5) := unhide HWB _ ((unhide HB4W).trans (hw5.mono (unhide HB4W).size))
  go_ret
  exact ⟨rfl, unhide HB5⟩
end Go.Proofs.YtcelllihidkphaaDoor
