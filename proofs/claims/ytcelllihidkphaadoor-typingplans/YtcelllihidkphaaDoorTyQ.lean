/- typing: the law's sameInts 17, like 15. -/
import Derived.Test.YtcelllihidkphaaDoorTyP
namespace Go.Proofs.YtcelllihidkphaaDoor
open Go Go.Shelf Go.ChangeShapes Go.WideShapes Go.ChangeAt Go.RowKit Go.Maps
set_option linter.unusedVariables false
set_option maxRecDepth 100000
set_option maxHeartbeats 4000000
theorem same_any {W : World} {p1 p2 : Option Addr} {n1 n2 c1 c2 : Nat} {A B : List Int} (h1 : A.length = n1) (h2 : B.length = n2) (hA : Lies kI W p1 A) (hB : Lies kI W p2 B) (hb : n1 ≤ 70000000000000) (hb2 : n2 ≤ 70000000000000) :
    Calls Tryd.prog 17 #[.slice p1 n1 c1, .slice p2 n2 c2] W fun e w' => e = .returned (.bool (decide (A = B))) ∧ Below W.heap.size W w' := by
  by_cases hn : n1 = n2
  · subst hn
    have HA := hide hA; have HB := hide hB; have H1 := hide h1; have H2 := hide h2
    clear hA hB h1 h2
    go_enter Tryd.func17, Tryd.ntmps17
    go_wp2_with fail
    go_loopw [5] (fun v wr => ∃ (k : Nat), v = .int .i64 k ∧ k ≤ n1 ∧ Hid (Below W.heap.size W wr ∧ A.take k = B.take k)) (fun v _ => n1 - (intOf v).toNat)
    case atStart => exact ⟨0, rfl, by omega, Below.refl _ _, by simp⟩
    case round =>
      obtain ⟨k, rfl, hk, hrel⟩ := hrel
      by_cases hlt : k < n1
      · have hka : k < A.length := by rw [unhide H1]; exact hlt
        have hkb : k < B.length := by rw [unhide H2]; exact hlt
        obtain ⟨b1, o1, e1, l1, r1⟩ := (unhide HA).2 k hka
        obtain ⟨b2, o2, e2, l2, r2⟩ := (unhide HB).2 k hkb
        obtain ⟨x, hx⟩ : ∃ x, x = A[k] := ⟨_, rfl⟩
        obtain ⟨y, hy⟩ : ∃ y, y = B[k] := ⟨_, rfl⟩
        rw [← hx] at r1
        rw [← hy] at r2
        have hc1 : wr.cell? ⟨b1, o1 + k, none⟩ = some (.int .i64 x) := by
          have := ((unhide hrel).1.cell (p := ⟨b1, o1 + k * kI.s + 0, none⟩) l1).trans (r1 0 (.int .i64 x) rfl)
          simpa [kI] using this
        have hc2 : wr.cell? ⟨b2, o2 + k, none⟩ = some (.int .i64 y) := by
          have := ((unhide hrel).1.cell (p := ⟨b2, o2 + k * kI.s + 0, none⟩) l2).trans (r2 0 (.int .i64 y) rfl)
          simpa [kI] using this
        have hstep : Hid (x = y → A.take (k + 1) = B.take (k + 1)) := fun e => by
          rw [List.take_succ_eq_append_getElem hka, List.take_succ_eq_append_getElem hkb, (unhide hrel).2, ← hx, ← hy, e]
        have hbad : Hid (¬ x = y → ¬ A = B) := fun e e' => e (by
          rw [hx, hy]
          subst e'
          rfl)
        have hkn : (k : Int) < (n1 : Int) := by omega
        subst e1 e2
        clear r1 r2 hx hy hka hkb l1 l2
        by_cases e : x = y
        · have hs := hide (unhide hstep e)
          subst e
          clear hstep hbad
          go_wp2_with fail
          go_quiet (fail)
          go_wp2_with fail
          exact ⟨⟨k + 1, by simp, by omega, below_drewN (unhide hrel).1 _, unhide hs⟩, by simp [intOf]; omega⟩
        · have hs := hide (unhide hbad e)
          have e' := beqF e
          have e'' : (x != y) = true := by simpa using e
          clear hstep hbad
          go_wp2_with fail
          go_quiet (fail)
          go_wp2_with fail
          go_ret
          refine ⟨by rw [decide_eq_false (unhide hs)]; rfl, ?_⟩
          exact below_drewN (unhide hrel).1 _
      · have hkn : k = n1 := by omega
        subst hkn
        have hf : Hid (A = B) := by
          have := (unhide hrel).2
          rwa [List.take_of_length_le (by rw [unhide H1]; exact Nat.le_refl _), List.take_of_length_le (by rw [unhide H2]; exact Nat.le_refl _)] at this
        go_wp2_with fail
        go_ret
        refine ⟨by rw [decide_eq_true (unhide hf)]; rfl, ?_⟩
        exact (unhide hrel).1
  · have hd : decide (A = B) = false := decide_eq_false (fun e => hn (by rw [← h1, ← h2, e]))
    have hn' : ¬ (n1 : Int) = (n2 : Int) := by omega
    have hn'' := beqF hn'
    have hn3 : ((n1 : Int) != (n2 : Int)) = true := by simpa using hn'
    rw [hd]
    clear hA hB h1 h2 hd
    go_enter Tryd.func17, Tryd.ntmps17
    go_wp2_with fail
    go_ret
    exact ⟨rfl, Below.refl _ _⟩
attribute [local go_sem ↓] ld32_is
/-- all tables lie there -/
structure Tab (W : World) : Prop where
  f : Flds W
  m : Mon W
  r : Recs W
theorem Tab.below {w w' : World} (h : Tab w) (hb : Below w.heap.size w w') : Tab w' := ⟨h.f.below hb, h.m.below hb, h.r.below hb⟩
/-- do two queries mean something alike? -/
def likS (q r : Qy) : Bool := (chkE q == chkE r) && decide (chkL q = chkL r)
theorem chkL_len {W : World} {q : Qy} {a : Qa} (hq : QIn W q a) : (chkL q).length ≤ 26400000000000 := by
  unfold chkL colS
  have := hq.nb
  have := hq.ns
  split
  · simp; omega
  · simp
theorem like_any {W : World} (hT : Tab W) {q r : Qy} {a b : Qa} (hq : QIn W q a) (hr : QIn W r b) : Calls Tryd.prog 15 #[qV q a, qV r b] W fun e w' => e = .returned (.bool (likS q r)) ∧ Below W.heap.size W w' := by
  obtain ⟨W2, hW2⟩ : ∃ X, X = (W.alloc (.cells (qC q a).toArray 32)).alloc (.cells (qC r b).toArray 32) := ⟨_, rfl⟩
  have hsz : W2.heap.size = W.heap.size + 2 := by rw [hW2]; simp
  have hB2 : Below W.heap.size W W2 := by rw [hW2]; exact Below.a2 W _ _
  have hx1 : W2.rangeAt W.heap.size 0 (qC q a) := fun j u hu => by rw [hW2, World.cell?_alloc_lt _ _ _ (by simp)]; exact new_range W (qC q a) 32 j u hu
  have hx2 : W2.rangeAt (W.heap.size + 1) 0 (qC r b) := fun j u hu => by have := new_range (W.alloc (.cells (qC q a).toArray 32)) (qC r b) 32 j u hu; rw [hW2]; rw [World.size_alloc] at this; exact this
  have l1 := run_ld32 hx1
  have L2 : Hid (∀ X, Below W2.heap.size W2 X → (ld32 (.pointer (some ⟨W.heap.size + 1, 0, none⟩))).run Tryd.prog X = .ok (qV r b) X) := fun X h => run_ld32 (fun j u hu => (h.cell (p := ⟨W.heap.size + 1, 0 + j, none⟩) (by simp; omega)).trans (hx2 j u hu))
  have d1 := hide (check_any (hT.below hB2).f (hT.below hB2).m (hT.below hB2).r (hq.below hB2))
  have d2 : Hid (∀ X, Below W2.heap.size W2 X → Calls Tryd.prog 16 #[qV r b] X fun e w' => ∃ p n c, e = .returned (.tuple #[.slice p n c, .int .i64 (chkE r)]) ∧ Rw kI X w' (.slice p n c) n (chkL r)) := fun X h => check_any ((hT.below hB2).below h).f ((hT.below hB2).below h).m ((hT.below hB2).below h).r ((hr.below hB2).below h)
  have c1 := hide (chkL_len hq)
  have c2 := hide (chkL_len hr)
  have hgo1 : qV q a = .agg #[.slice a.pN q.nodes.length a.cN, .int .i64 q.wh, .slice a.pB q.by'.length a.cB, .slice a.pS q.sh.length a.cS, .slice a.pO q.ords.length a.cO, .int .i64 q.lim] := rfl
  have hgo2 : qV r b = .agg #[.slice b.pN r.nodes.length b.cN, .int .i64 r.wh, .slice b.pB r.by'.length b.cB, .slice b.pS r.sh.length b.cS, .slice b.pO r.ords.length b.cO, .int .i64 r.lim] := rfl
  have hW2' : W2 = (W.alloc (.cells #[.slice a.pN q.nodes.length a.cN, .int .i64 q.wh, .slice a.pB q.by'.length a.cB, .slice a.pS q.sh.length a.cS, .slice a.pO q.ords.length a.cO, .int .i64 q.lim] 32)).alloc (.cells #[.slice b.pN r.nodes.length b.cN, .int .i64 r.wh, .slice b.pB r.by'.length b.cB, .slice b.pS r.sh.length b.cS, .slice b.pO r.ords.length b.cO, .int .i64 r.lim] 32) := hW2
  have HB2 := hide hB2
  have HLK : Hid (likS q r = ((chkE q == chkE r) && decide (chkL q = chkL r))) := rfl
  obtain ⟨q1, hq1⟩ : ∃ v, v = qV q a := ⟨_, rfl⟩
  obtain ⟨q2, hq2⟩ : ∃ v, v = qV r b := ⟨_, rfl⟩
  rw [← hq1] at d1 l1
  rw [← hq2] at d2 L2
  obtain ⟨E1, hE1⟩ : ∃ v, v = chkE q := ⟨_, rfl⟩
  obtain ⟨E2, hE2⟩ : ∃ v, v = chkE r := ⟨_, rfl⟩
  rw [← hE1] at d1 HLK
  rw [← hE2] at d2 HLK
  rw [hgo1, hgo2]
  clear hT hq hr hx1 hx2 hB2 hgo1 hgo2 hq1 hq2 hW2 hE1 hE2
  go_enter Tryd.func15, Tryd.ntmps15
  go_upto_region 1 with fail
  rw [← hW2']
  clear hW2'
  go_wp2_with fail
  refine (unhide d1).mono ?_
  rintro e w1 ⟨p1, n1, k1, rfl, hr1⟩
  have HR1 := hide hr1
  have l2 := unhide L2 _ hr1.bel
  clear hr1
  go_wp2_with fail
  refine (unhide d2 _ (unhide HR1).bel).mono ?_
  rintro e w2 ⟨p2, n2, k2, rfl, hr2⟩
  have HR2 := hide hr2
  have HR1' := hide ((unhide HR1).below hr2.bel)
  have d3 := hide (same_any (c1 := k1) (c2 := k2) ((unhide HR1').len) hr2.len ((unhide HR1').lies kI_ok) (hr2.lies kI_ok) (by have := unhide c1; have := (unhide HR1').len; omega) (by have := unhide c2; have := hr2.len; omega))
  have HBW : Hid (Below W.heap.size W w2) := (unhide HB2).trans ((unhide HR1').bel.mono (unhide HB2).size)
  clear hr2
  by_cases he : E1 = E2
  · subst he
    go_wp2_with fail
    refine (unhide d3).mono ?_
    rintro e w3 ⟨rfl, hw⟩
    have HW := hide hw
    clear hw
    go_wp2_with fail
    go_ret
    refine ⟨?_, (unhide HBW).trans ((unhide HW).mono (unhide HBW).size)⟩
    rw [unhide HLK]
    simp
  · have he' := beqF he
    go_wp2_with fail
    go_ret
    refine ⟨?_, unhide HBW⟩
    rw [unhide HLK, he']
    rfl
end Go.Proofs.YtcelllihidkphaaDoor
