import Derived.Test.YtbenciieenbmeaaGreatDoorW17
import Derived.Test.YtbenciieenbmeaaGreatDoorW06
/- typing: the law's twin 14. -/
namespace Go.Proofs.YtbenciieenbmeaaGreatDoor
open Go Go.Shelf Go.ChangeShapes Go.WideShapes Go.ChangeAt Go.RowKit Go.Maps
set_option linter.unusedVariables false
set_option maxRecDepth 100000
set_option maxHeartbeats 4000000
section
variable {α : Type} {K : Kd α}
/-- a list copied to none -/
theorem Rw.copy (hK : KdOK K) (X : World) (M : List α) (pu : Option Addr) (cu : Nat) (hcu : pu = none → cu = 0) (hu : Lies K X pu M) (ty : TypeId) (hl : M.length ≤ 70000000000000) (hb : (M.length + M.length / 4 + 192) * K.by' ≤ 281474976710656) :
    ∃ p c w', (Builtin.append_ #[K.t, K.t] ty #[.slice none 0 0, .slice pu M.length cu]).run Tryz.prog X = .ok (.slice p M.length c) w' ∧ Rw K X w' (.slice p M.length c) M.length M := by
  have h0 : X.ownsRow X.heap.size K.e K.s (.slice none 0 0) 0 (K.flat []) := ⟨by simp [Kd.flat], .inl ⟨rfl, rfl⟩⟩
  obtain ⟨p8, c8, w8, r8, o8, b8⟩ := run_appW hK ty (W := X) (M := M) (B := X.heap.size) (L := []) (n := 0) h0 (Nat.le_refl _) pu cu hcu hu (by omega) (by rw [Nat.zero_add]; exact hb)
  rw [Nat.zero_add] at r8 o8
  exact ⟨p8, c8, w8, r8, o8, b8, rfl⟩
theorem Rw.set {W wr : World} {v : Value} {n j : Nat} {L : List α} {cs : Array Value} (h : Rw K W wr v n L) (hj : wr.heap[j]? = some (.cells cs 27 (0, 0))) (hK : K.e ≠ 27) (hlo : W.heap.size ≤ j) (i : Nat) (u : Value) : Rw K W (wr.setCell ⟨j, i, none⟩ u) v n L := by
  refine ⟨row_keep h.row (fun g hg => Below.heap_setCell _ _ _ _ (fun e => ?_)), h.bel.setCell (p := ⟨j, i, none⟩) hlo _, h.len⟩
  obtain ⟨cur, hc⟩ := row_type h hg
  have e' : g = j := e
  rw [e', hj] at hc
  injection hc with hc
  injection hc with h1 h2
  exact hK h2.symm
end
theorem heap_set {w : World} {b i : Nat} {cs : Array Value} {y : Value} {t : TypeId} (h : w.heap[b]? = some (.cells cs t (0, 0))) : (w.setCell ⟨b, i, none⟩ y).heap[b]? = some (.cells (cs.setIfInBounds i y) t (0, 0)) := by
  simp [World.setCell, Array.getElem?_modify, h]
/-- the empty lists of a query have no room -/
structure QCp (a : Qa) : Prop where
  n : a.pN = none → a.cN = 0
  b : a.pB = none → a.cB = 0
  s : a.pS = none → a.cS = 0
  o : a.pO = none → a.cO = 0
/-- a query that shares no list with another -/
structure Twn (W w' : World) (q : Qy) (a : Qa) : Prop where
  n : Rw kN W w' (.slice a.pN q.nodes.length a.cN) q.nodes.length q.nodes
  b : Rw kI W w' (.slice a.pB q.by'.length a.cB) q.by'.length q.by'
  s : Rw kG W w' (.slice a.pS q.sh.length a.cS) q.sh.length q.sh
  o : Rw kO W w' (.slice a.pO q.ords.length a.cO) q.ords.length q.ords
theorem cell_at {W : World} {b i : Nat} {xs : Array Value} {t : TypeId} {f : Nat × Nat} (h : W.heap[b]? = some (.cells xs t f)) : W.cell? ⟨b, i, none⟩ = xs[i]? := by simp [World.cell?, h]
theorem froz_at {W : World} {b i : Nat} {xs : Array Value} {t : TypeId} (h : W.heap[b]? = some (.cells xs t (0, 0))) : W.frozen? ⟨b, i, none⟩ = false := by simp [World.frozen?, h]

/-- how far twin has come -/
structure St (W X : World) (src cs : Array Value) : Prop where
  b0 : X.heap[W.heap.size]? = some (.cells src 27 (0, 0))
  b1 : X.heap[W.heap.size + 1]? = some (.cells #[.slice none 0 0, .int .i64 0, .slice none 0 0, .slice none 0 0, .slice none 0 0, .int .i64 0] 27 (0, 0))
  b2 : X.heap[W.heap.size + 2]? = some (.cells cs 27 (0, 0))
  bel : Below W.heap.size W X
theorem St.lt {W X : World} {src cs : Array Value} (h : St W X src cs) : W.heap.size + 2 < X.heap.size := (Array.getElem?_eq_some_iff.1 h.b2).1
theorem St.step {W X w' : World} {src cs : Array Value} (h : St W X src cs) (hb : Below X.heap.size X w') (i : Nat) (u : Value) : St W (w'.setCell ⟨W.heap.size + 2, i, none⟩ u) src (cs.setIfInBounds i u) := by
  have hl := h.lt
  refine ⟨?_, ?_, heap_set ((hb.block _ (by omega)).trans h.b2), ((h.bel.trans (hb.mono h.bel.size))).setCell (p := ⟨W.heap.size + 2, i, none⟩) (by simp) _⟩
  · exact (Below.heap_setCell _ _ _ _ (by simp)).trans ((hb.block _ (by omega)).trans h.b0)
  · exact (Below.heap_setCell _ _ _ _ (by simp)).trans ((hb.block _ (by omega)).trans h.b1)
theorem St.row {α : Type} {K : Kd α} {W X w' : World} {src cs : Array Value} (h : St W X src cs) (hb : Below X.heap.size X w') {v : Value} {n : Nat} {L : List α} (hR : Rw K W X v n L) (hK : K.e ≠ 27) (i : Nat) (u : Value) : Rw K W (w'.setCell ⟨W.heap.size + 2, i, none⟩ u) v n L :=
  (hR.below hb).set ((hb.block _ h.lt).trans h.b2) hK (by omega) i u
theorem St.new {α : Type} {K : Kd α} {W X w' : World} {src cs : Array Value} (h : St W X src cs) {v : Value} {n : Nat} {L : List α} (hR : Rw K X w' v n L) (hK : K.e ≠ 27) (i : Nat) (u : Value) : Rw K W (w'.setCell ⟨W.heap.size + 2, i, none⟩ u) v n L :=
  (hR.up h.bel).set ((hR.bel.block _ h.lt).trans h.b2) hK (by omega) i u

def st32 (x y : Value) : Sem Unit := Instr.storeAt 27 x y
theorem st32_is (x y : Value) : Instr.storeAt 27 x y = st32 x y := rfl
theorem run_st32 {w : World} {b : Nat} {cs : Array Value} (h : w.heap[b]? = some (.cells cs 27 (0, 0))) (hs : cs.size = 6) {v0 v1 v2 v3 v4 v5 : Value} (ho : ∀ u ∈ [v0, v1, v2, v3, v4, v5], u.oneCell' = true) : (st32 (.pointer (some ⟨b, 0, none⟩)) (.agg #[v0, v1, v2, v3, v4, v5])).run Tryz.prog w = .ok () (w.setCells b 0 [v0, v1, v2, v3, v4, v5]) :=
  run_storeAt_mid (P := Tryz.prog) w b 0 27 #[v0, v1, v2, v3, v4, v5] (fun j hj => by
    have hj' : j < cs.size := by rw [hs]; exact hj
    simp [World.cell?, World.frozen?, h, hj']) size32 (by simpa using ho)
theorem below_setCells {B b : Nat} (hb : B ≤ b) (l : List Value) : ∀ (o : Nat) (a w : World), Below B a w → Below B a (w.setCells b o l) := by
  induction l with
  | nil => exact fun o a w h => h
  | cons v l ih => exact fun o a w h => ih (o + 1) a _ (h.setCell hb v)
theorem Rw.setCells {α : Type} {K : Kd α} {W : World} {v : Value} {n j : Nat} {L : List α} (hK : K.e ≠ 27) (hlo : W.heap.size ≤ j) (vs : List Value) : ∀ (wr : World) (o : Nat) (cs : Array Value), Rw K W wr v n L → wr.heap[j]? = some (.cells cs 27 (0, 0)) → Rw K W (wr.setCells j o vs) v n L := by
  induction vs with
  | nil => exact fun wr o cs h _ => h
  | cons x vs ih => exact fun wr o cs h hj => ih _ (o + 1) _ (h.set hj hK hlo o x) (heap_set hj)
theorem heap_setCells6 {w : World} {b : Nat} {x0 x1 x2 x3 x4 x5 v0 v1 v2 v3 v4 v5 : Value} (h : w.heap[b]? = some (.cells #[x0, x1, x2, x3, x4, x5] 27 (0, 0))) : (w.setCells b 0 [v0, v1, v2, v3, v4, v5]).heap[b]? = some (.cells #[v0, v1, v2, v3, v4, v5] 27 (0, 0)) := by
  show ((((((w.setCell ⟨b, 0, none⟩ _).setCell ⟨b, 0 + 1, none⟩ _).setCell ⟨b, 0 + 1 + 1, none⟩ _).setCell ⟨b, 0 + 1 + 1 + 1, none⟩ _).setCell ⟨b, 0 + 1 + 1 + 1 + 1, none⟩ _).setCell ⟨b, 0 + 1 + 1 + 1 + 1 + 1, none⟩ _).heap[b]? = _
  rw [heap_set (heap_set (heap_set (heap_set (heap_set (heap_set h)))))]
  rfl
theorem setCells_new (w : World) {x0 x1 x2 x3 x4 x5 v0 v1 v2 v3 v4 v5 : Value} : (w.alloc (.cells #[x0, x1, x2, x3, x4, x5] 27)).setCells w.heap.size 0 [v0, v1, v2, v3, v4, v5] = w.alloc (.cells #[v0, v1, v2, v3, v4, v5] 27) := by
  unfold World.setCells World.setCells World.setCells World.setCells World.setCells World.setCells World.setCells
  rw [World.setCell_alloc_new, World.setCell_alloc_new, World.setCell_alloc_new, World.setCell_alloc_new, World.setCell_alloc_new, World.setCell_alloc_new]
  simp
theorem run_st32_new {w : World} {v0 v1 v2 v3 v4 v5 : Value} (ho : ∀ u ∈ [v0, v1, v2, v3, v4, v5], u.oneCell' = true) : (st32 (.pointer (some ⟨w.heap.size, 0, none⟩)) (.agg #[v0, v1, v2, v3, v4, v5])).run Tryz.prog (w.alloc (.cells #[.slice none 0 0, .int .i64 0, .slice none 0 0, .slice none 0 0, .slice none 0 0, .int .i64 0] 27)) = .ok () (w.alloc (.cells #[v0, v1, v2, v3, v4, v5] 27)) := by
  have h := run_st32 (w := w.alloc (.cells #[.slice none 0 0, .int .i64 0, .slice none 0 0, .slice none 0 0, .slice none 0 0, .int .i64 0] 27)) (b := w.heap.size) (heap_new _ _) rfl ho
  rw [setCells_new] at h
  exact h
attribute [local go_sem ↓] ld32_is st32_is
theorem copied_any {W : World} {q : Qy} {a : Qa} (hq : QIn W q a) (hc : QCp a) : Calls Tryz.prog 13 #[qV q a] W fun e w' => ∃ a', e = .returned (qV q a') ∧ Twn W w' q a' := by
  obtain ⟨nN, hnN⟩ : ∃ n, n = q.nodes.length := ⟨_, rfl⟩
  obtain ⟨nB, hnB⟩ : ∃ n, n = q.by'.length := ⟨_, rfl⟩
  obtain ⟨nS, hnS⟩ : ∃ n, n = q.sh.length := ⟨_, rfl⟩
  obtain ⟨nO, hnO⟩ : ∃ n, n = q.ords.length := ⟨_, rfl⟩
  obtain ⟨W1, hW1⟩ : ∃ X, X = (W.alloc (.cells #[.slice a.pN nN a.cN, .int .i64 q.wh, .slice a.pB nB a.cB, .slice a.pS nS a.cS, .slice a.pO nO a.cO, .int .i64 q.lim] 27)).alloc (.cells #[.slice none 0 0, .int .i64 0, .slice none 0 0, .slice none 0 0, .slice none 0 0, .int .i64 0] 27) := ⟨_, rfl⟩
  obtain ⟨W3, hW3⟩ : ∃ X, X = W1.alloc (.cells #[.slice a.pN nN a.cN, .int .i64 q.wh, .slice a.pB nB a.cB, .slice a.pS nS a.cS, .slice a.pO nO a.cO, .int .i64 q.lim] 27) := ⟨_, rfl⟩
  have hs1 : W1.heap.size = W.heap.size + 2 := by rw [hW1]; simp
  have hs3 : W3.heap.size = W.heap.size + 3 := by rw [hW3]; simp; omega
  have hB3 : Below W.heap.size W W3 := by rw [hW3, hW1]; exact (Below.a2 W _ _).alloc (by simp; omega) _
  have b0 : W3.heap[W.heap.size]? = some (.cells #[.slice a.pN nN a.cN, .int .i64 q.wh, .slice a.pB nB a.cB, .slice a.pS nS a.cS, .slice a.pO nO a.cO, .int .i64 q.lim] 27 (0, 0)) := by
    rw [hW3, Below.heap_alloc _ _ _ (by omega), hW1, Below.heap_alloc _ _ _ (by simp)]; exact heap_new _ _
  have b2 : W3.heap[W.heap.size + 2]? = some (.cells #[.slice a.pN nN a.cN, .int .i64 q.wh, .slice a.pB nB a.cB, .slice a.pS nS a.cS, .slice a.pO nO a.cO, .int .i64 q.lim] 27 (0, 0)) := by
    rw [hW3, show W.heap.size + 2 = W1.heap.size by omega]; exact heap_new _ _
  have b1 : W3.heap[W.heap.size + 1]? = some (.cells #[.slice none 0 0, .int .i64 0, .slice none 0 0, .slice none 0 0, .slice none 0 0, .int .i64 0] 27 (0, 0)) := by
    rw [hW3, Below.heap_alloc _ _ _ (by omega), hW1]
    have := heap_new (W.alloc (.cells #[.slice a.pN nN a.cN, .int .i64 q.wh, .slice a.pB nB a.cB, .slice a.pS nS a.cS, .slice a.pO nO a.cO, .int .i64 q.lim] 27)) (.cells #[.slice none 0 0, .int .i64 0, .slice none 0 0, .slice none 0 0, .slice none 0 0, .int .i64 0] 27)
    rw [World.size_alloc] at this
    exact this
  have l1 : (ld32 (.pointer (some ⟨W.heap.size, 0, none⟩))).run Tryz.prog W1 = .ok (.agg #[.slice a.pN nN a.cN, .int .i64 q.wh, .slice a.pB nB a.cB, .slice a.pS nS a.cS, .slice a.pO nO a.cO, .int .i64 q.lim]) W1 := by
    have hb : W1.heap[W.heap.size]? = some (.cells #[.slice a.pN nN a.cN, .int .i64 q.wh, .slice a.pB nB a.cB, .slice a.pS nS a.cS, .slice a.pO nO a.cO, .int .i64 q.lim] 27 (0, 0)) := by rw [hW1, Below.heap_alloc _ _ _ (by simp)]; exact heap_new _ _
    have := run_ld32 (w := W1) (b := W.heap.size) (o := 0) (q := q) (a := a) (fun j u hu => by rw [Nat.zero_add, cell_at hb, hnN, hnB, hnS, hnO]; simpa [qC] using hu)
    rw [this, hnN, hnB, hnS, hnO]
    rfl
  have S0 : Hid (St W W3 #[.slice a.pN nN a.cN, .int .i64 q.wh, .slice a.pB nB a.cB, .slice a.pS nS a.cS, .slice a.pO nO a.cO, .int .i64 q.lim] #[.slice a.pN nN a.cN, .int .i64 q.wh, .slice a.pB nB a.cB, .slice a.pS nS a.cS, .slice a.pO nO a.cO, .int .i64 q.lim]) := ⟨b0, b1, b2, hB3⟩
  have HQ := hide hq; have HC := hide hc
  have HN := hide hnN; have HBn := hide hnB; have HSn := hide hnS; have HOn := hide hnO
  have hgo : qV q a = .agg #[.slice a.pN nN a.cN, .int .i64 q.wh, .slice a.pB nB a.cB, .slice a.pS nS a.cS, .slice a.pO nO a.cO, .int .i64 q.lim] := by rw [hnN, hnB, hnS, hnO]; rfl
  rw [hgo]
  have s1 := run_st32_new (w := W1) (v0 := .slice a.pN nN a.cN) (v1 := .int .i64 q.wh) (v2 := .slice a.pB nB a.cB) (v3 := .slice a.pS nS a.cS) (v4 := .slice a.pO nO a.cO) (v5 := .int .i64 q.lim) (fun u hu => by simp at hu; rcases hu with rfl | rfl | rfl | rfl | rfl | rfl <;> rfl)
  rw [hs1] at s1
  clear hq hc hnN hnB hnS hnO b0 b1 b2 hB3 hgo hs3
  go_enter Tryz.func13, Tryz.ntmps13
  go_upto_region 1 with fail
  rw [← hW1]
  clear hW1
  go_upto_region 2 with fail
  rw [← hW3]
  clear hW3 l1 s1
  obtain ⟨p1, c1, w1, r1, R1⟩ := Rw.copy kN_ok W3 q.nodes a.pN a.cN (unhide HC).n ((unhide HQ).n.below (unhide S0).bel) 22 (by have := (unhide HQ).nn; omega) (nat_bound (c := 2600000000000) (unhide HQ).nn (by decide))
  rw [← unhide HN] at r1 R1
  have rr1 : (Builtin.append_ #[22, 22] 22 #[.slice none 0 0, .slice a.pN nN a.cN]).run Tryz.prog W3 = .ok (.slice p1 nN c1) w1 := r1
  have y1 : W3.cell? ⟨W.heap.size, 0, none⟩ = some (.slice a.pN nN a.cN) := by rw [cell_at (unhide S0).b0]; rfl
  have z1 : w1.cell? ⟨W.heap.size + 2, 0, none⟩ = some (.slice a.pN nN a.cN) := by rw [R1.bel.cell (p := ⟨W.heap.size + 2, 0, none⟩) (unhide S0).lt, cell_at (unhide S0).b2]; rfl
  have v1 : w1.frozen? ⟨W.heap.size + 2, 0, none⟩ = false := by rw [R1.bel.frozen (p := ⟨W.heap.size + 2, 0, none⟩) (unhide S0).lt, froz_at (unhide S0).b2]
  obtain ⟨X1, hX1⟩ : ∃ X, X = w1.setCell ⟨W.heap.size + 2, 0, none⟩ (.slice p1 nN c1) := ⟨_, rfl⟩
  have S1 : Hid (St W X1 #[.slice a.pN nN a.cN, .int .i64 q.wh, .slice a.pB nB a.cB, .slice a.pS nS a.cS, .slice a.pO nO a.cO, .int .i64 q.lim] #[.slice p1 nN c1, .int .i64 q.wh, .slice a.pB nB a.cB, .slice a.pS nS a.cS, .slice a.pO nO a.cO, .int .i64 q.lim]) := by rw [hX1]; exact (unhide S0).step R1.bel 0 _
  have Q1 : Hid (Rw kN W X1 (.slice p1 nN c1) nN q.nodes) := by rw [hX1]; exact (unhide S0).new R1 (by decide) 0 _
  have HR1 := hide rr1
  clear r1 rr1 R1
  go_upto_region 3 with (at_builtin; refine wpList_append_run rfl _ _ 22 rfl _ _ _ _ rfl rfl (unhide HR1) ?_)
  rw [← hX1]
  clear hX1 y1 z1 v1 HR1 w1
  obtain ⟨p2, c2, w2, r2, R2⟩ := Rw.copy kI_ok X1 q.by' a.pB a.cB (unhide HC).b ((unhide HQ).b.below (unhide S1).bel) 23 (by have := (unhide HQ).nb; omega) (nat_bound (c := 17600000000000) (unhide HQ).nb (by decide))
  rw [← unhide HBn] at r2 R2
  have rr2 : (Builtin.append_ #[23, 23] 23 #[.slice none 0 0, .slice a.pB nB a.cB]).run Tryz.prog X1 = .ok (.slice p2 nB c2) w2 := r2
  have y2 : X1.cell? ⟨W.heap.size, 2, none⟩ = some (.slice a.pB nB a.cB) := by rw [cell_at (unhide S1).b0]; rfl
  have z2 : w2.cell? ⟨W.heap.size + 2, 2, none⟩ = some (.slice a.pB nB a.cB) := by rw [R2.bel.cell (p := ⟨W.heap.size + 2, 2, none⟩) (unhide S1).lt, cell_at (unhide S1).b2]; rfl
  have v2 : w2.frozen? ⟨W.heap.size + 2, 2, none⟩ = false := by rw [R2.bel.frozen (p := ⟨W.heap.size + 2, 2, none⟩) (unhide S1).lt, froz_at (unhide S1).b2]
  obtain ⟨X2, hX2⟩ : ∃ X, X = w2.setCell ⟨W.heap.size + 2, 2, none⟩ (.slice p2 nB c2) := ⟨_, rfl⟩
  have S2 : Hid (St W X2 #[.slice a.pN nN a.cN, .int .i64 q.wh, .slice a.pB nB a.cB, .slice a.pS nS a.cS, .slice a.pO nO a.cO, .int .i64 q.lim] #[.slice p1 nN c1, .int .i64 q.wh, .slice p2 nB c2, .slice a.pS nS a.cS, .slice a.pO nO a.cO, .int .i64 q.lim]) := by rw [hX2]; exact (unhide S1).step R2.bel 2 _
  have Q1 : Hid (Rw kN W X2 (.slice p1 nN c1) nN q.nodes) := by rw [hX2]; exact (unhide S1).row R2.bel (unhide Q1) (by decide) 2 _
  have Q2 : Hid (Rw kI W X2 (.slice p2 nB c2) nB q.by') := by rw [hX2]; exact (unhide S1).new R2 (by decide) 2 _
  have HR2 := hide rr2
  clear r2 rr2 R2
  go_upto_region 4 with (at_builtin; refine wpList_append_run rfl _ _ 23 rfl _ _ _ _ rfl rfl (unhide HR2) ?_)
  rw [← hX2]
  clear hX2 y2 z2 v2 HR2 w2
  obtain ⟨p3, c3, w3, r3, R3⟩ := Rw.copy kG_ok X2 q.sh a.pS a.cS (unhide HC).s ((unhide HQ).s.below (unhide S2).bel) 24 (by have := (unhide HQ).ns; omega) (nat_bound (c := 8800000000000) (unhide HQ).ns (by decide))
  rw [← unhide HSn] at r3 R3
  have rr3 : (Builtin.append_ #[24, 24] 24 #[.slice none 0 0, .slice a.pS nS a.cS]).run Tryz.prog X2 = .ok (.slice p3 nS c3) w3 := r3
  have y3 : X2.cell? ⟨W.heap.size, 3, none⟩ = some (.slice a.pS nS a.cS) := by rw [cell_at (unhide S2).b0]; rfl
  have z3 : w3.cell? ⟨W.heap.size + 2, 3, none⟩ = some (.slice a.pS nS a.cS) := by rw [R3.bel.cell (p := ⟨W.heap.size + 2, 3, none⟩) (unhide S2).lt, cell_at (unhide S2).b2]; rfl
  have v3 : w3.frozen? ⟨W.heap.size + 2, 3, none⟩ = false := by rw [R3.bel.frozen (p := ⟨W.heap.size + 2, 3, none⟩) (unhide S2).lt, froz_at (unhide S2).b2]
  obtain ⟨X3, hX3⟩ : ∃ X, X = w3.setCell ⟨W.heap.size + 2, 3, none⟩ (.slice p3 nS c3) := ⟨_, rfl⟩
  have S3 : Hid (St W X3 #[.slice a.pN nN a.cN, .int .i64 q.wh, .slice a.pB nB a.cB, .slice a.pS nS a.cS, .slice a.pO nO a.cO, .int .i64 q.lim] #[.slice p1 nN c1, .int .i64 q.wh, .slice p2 nB c2, .slice p3 nS c3, .slice a.pO nO a.cO, .int .i64 q.lim]) := by rw [hX3]; exact (unhide S2).step R3.bel 3 _
  have Q1 : Hid (Rw kN W X3 (.slice p1 nN c1) nN q.nodes) := by rw [hX3]; exact (unhide S2).row R3.bel (unhide Q1) (by decide) 3 _
  have Q2 : Hid (Rw kI W X3 (.slice p2 nB c2) nB q.by') := by rw [hX3]; exact (unhide S2).row R3.bel (unhide Q2) (by decide) 3 _
  have Q3 : Hid (Rw kG W X3 (.slice p3 nS c3) nS q.sh) := by rw [hX3]; exact (unhide S2).new R3 (by decide) 3 _
  have HR3 := hide rr3
  clear r3 rr3 R3
  go_upto_region 5 with (at_builtin; refine wpList_append_run rfl _ _ 24 rfl _ _ _ _ rfl rfl (unhide HR3) ?_)
  rw [← hX3]
  clear hX3 y3 z3 v3 HR3 w3
  obtain ⟨p4, c4, w4, r4, R4⟩ := Rw.copy kO_ok X3 q.ords a.pO a.cO (unhide HC).o ((unhide HQ).o.below (unhide S3).bel) 25 (by have := (unhide HQ).no; omega) (nat_bound (c := 8800000000000) (unhide HQ).no (by decide))
  rw [← unhide HOn] at r4 R4
  have rr4 : (Builtin.append_ #[25, 25] 25 #[.slice none 0 0, .slice a.pO nO a.cO]).run Tryz.prog X3 = .ok (.slice p4 nO c4) w4 := r4
  have y4 : X3.cell? ⟨W.heap.size, 4, none⟩ = some (.slice a.pO nO a.cO) := by rw [cell_at (unhide S3).b0]; rfl
  have z4 : w4.cell? ⟨W.heap.size + 2, 4, none⟩ = some (.slice a.pO nO a.cO) := by rw [R4.bel.cell (p := ⟨W.heap.size + 2, 4, none⟩) (unhide S3).lt, cell_at (unhide S3).b2]; rfl
  have v4 : w4.frozen? ⟨W.heap.size + 2, 4, none⟩ = false := by rw [R4.bel.frozen (p := ⟨W.heap.size + 2, 4, none⟩) (unhide S3).lt, froz_at (unhide S3).b2]
  obtain ⟨X4, hX4⟩ : ∃ X, X = w4.setCell ⟨W.heap.size + 2, 4, none⟩ (.slice p4 nO c4) := ⟨_, rfl⟩
  have S4 : Hid (St W X4 #[.slice a.pN nN a.cN, .int .i64 q.wh, .slice a.pB nB a.cB, .slice a.pS nS a.cS, .slice a.pO nO a.cO, .int .i64 q.lim] #[.slice p1 nN c1, .int .i64 q.wh, .slice p2 nB c2, .slice p3 nS c3, .slice p4 nO c4, .int .i64 q.lim]) := by rw [hX4]; exact (unhide S3).step R4.bel 4 _
  have Q1 : Hid (Rw kN W X4 (.slice p1 nN c1) nN q.nodes) := by rw [hX4]; exact (unhide S3).row R4.bel (unhide Q1) (by decide) 4 _
  have Q2 : Hid (Rw kI W X4 (.slice p2 nB c2) nB q.by') := by rw [hX4]; exact (unhide S3).row R4.bel (unhide Q2) (by decide) 4 _
  have Q3 : Hid (Rw kG W X4 (.slice p3 nS c3) nS q.sh) := by rw [hX4]; exact (unhide S3).row R4.bel (unhide Q3) (by decide) 4 _
  have Q4 : Hid (Rw kO W X4 (.slice p4 nO c4) nO q.ords) := by rw [hX4]; exact (unhide S3).new R4 (by decide) 4 _
  have HR4 := hide rr4
  clear r4 rr4 R4
  go_upto_region 6 with (at_builtin; refine wpList_append_run rfl _ _ 25 rfl _ _ _ _ rfl rfl (unhide HR4) ?_)
  rw [← hX4]
  clear hX4 y4 z4 v4 HR4 w4
  have l4 : (ld32 (.pointer (some ⟨W.heap.size + 2, 0, none⟩))).run Tryz.prog X4 = .ok (.agg #[.slice p1 nN c1, .int .i64 q.wh, .slice p2 nB c2, .slice p3 nS c3, .slice p4 nO c4, .int .i64 q.lim]) X4 :=
    run_loadAt_mid (P := Tryz.prog) X4 (W.heap.size + 2) 0 27 [.slice p1 nN c1, .int .i64 q.wh, .slice p2 nB c2, .slice p3 nS c3, .slice p4 nO c4, .int .i64 q.lim] _ (fun j u hu => by rw [Nat.zero_add, cell_at (unhide S4).b2]; simpa using hu) Tryz.underlying27 rfl size32
  have s4 := run_st32 (unhide S4).b1 rfl (v0 := .slice p1 nN c1) (v1 := .int .i64 q.wh) (v2 := .slice p2 nB c2) (v3 := .slice p3 nS c3) (v4 := .slice p4 nO c4) (v5 := .int .i64 q.lim) (fun u hu => by simp at hu; rcases hu with rfl | rfl | rfl | rfl | rfl | rfl <;> rfl)
  have hY := heap_setCells6 (v0 := .slice p1 nN c1) (v1 := .int .i64 q.wh) (v2 := .slice p2 nB c2) (v3 := .slice p3 nS c3) (v4 := .slice p4 nO c4) (v5 := .int .i64 q.lim) (unhide S4).b1
  have T1 := hide ((unhide Q1).setCells (j := W.heap.size + 1) (by decide) (by omega) [.slice p1 nN c1, .int .i64 q.wh, .slice p2 nB c2, .slice p3 nS c3, .slice p4 nO c4, .int .i64 q.lim] X4 0 _ (unhide S4).b1)
  have T2 := hide ((unhide Q2).setCells (j := W.heap.size + 1) (by decide) (by omega) [.slice p1 nN c1, .int .i64 q.wh, .slice p2 nB c2, .slice p3 nS c3, .slice p4 nO c4, .int .i64 q.lim] X4 0 _ (unhide S4).b1)
  have T3 := hide ((unhide Q3).setCells (j := W.heap.size + 1) (by decide) (by omega) [.slice p1 nN c1, .int .i64 q.wh, .slice p2 nB c2, .slice p3 nS c3, .slice p4 nO c4, .int .i64 q.lim] X4 0 _ (unhide S4).b1)
  have T4 := hide ((unhide Q4).setCells (j := W.heap.size + 1) (by decide) (by omega) [.slice p1 nN c1, .int .i64 q.wh, .slice p2 nB c2, .slice p3 nS c3, .slice p4 nO c4, .int .i64 q.lim] X4 0 _ (unhide S4).b1)
  obtain ⟨Y, hYY⟩ : ∃ Y, Y = X4.setCells (W.heap.size + 1) 0 [.slice p1 nN c1, .int .i64 q.wh, .slice p2 nB c2, .slice p3 nS c3, .slice p4 nO c4, .int .i64 q.lim] := ⟨_, rfl⟩
  rw [← hYY] at s4 hY T1 T2 T3 T4
  have y0 : Y.cell? ⟨W.heap.size + 1, 0, none⟩ = some (.slice p1 nN c1) := by rw [cell_at hY]; rfl
  have y1 : Y.cell? ⟨W.heap.size + 1, 1, none⟩ = some (.int .i64 q.wh) := by rw [cell_at hY]; rfl
  have y2 : Y.cell? ⟨W.heap.size + 1, 2, none⟩ = some (.slice p2 nB c2) := by rw [cell_at hY]; rfl
  have y3 : Y.cell? ⟨W.heap.size + 1, 3, none⟩ = some (.slice p3 nS c3) := by rw [cell_at hY]; rfl
  have y4 : Y.cell? ⟨W.heap.size + 1, 4, none⟩ = some (.slice p4 nO c4) := by rw [cell_at hY]; rfl
  have y5 : Y.cell? ⟨W.heap.size + 1, 5, none⟩ = some (.int .i64 q.lim) := by rw [cell_at hY]; rfl
  clear hY hYY Q1 Q2 Q3 Q4 S0 S1 S2 S3 S4 HQ HC
  go_wp2_with fail
  have HT : Hid (Twn W Y q ⟨p1, c1, p2, c2, p3, c3, p4, c4⟩) := by
    rw [unhide HN] at T1
    rw [unhide HBn] at T2
    rw [unhide HSn] at T3
    rw [unhide HOn] at T4
    exact ⟨unhide T1, unhide T2, unhide T3, unhide T4⟩
  have HV : Hid (qV q ⟨p1, c1, p2, c2, p3, c3, p4, c4⟩ = .agg #[.slice p1 nN c1, .int .i64 q.wh, .slice p2 nB c2, .slice p3 nS c3, .slice p4 nO c4, .int .i64 q.lim]) := by
    show _ = _
    rw [unhide HN, unhide HBn, unhide HSn, unhide HOn]; rfl
  refine bodyPost_ret (v := .agg #[.slice p1 nN c1, .int .i64 q.wh, .slice p2 nB c2, .slice p3 nS c3, .slice p4 nO c4, .int .i64 q.lim]) (by simp [results, Tryz.results13, go_sem, *]) rfl ⟨⟨p1, c1, p2, c2, p3, c3, p4, c4⟩, by rw [unhide HV], unhide HT⟩
theorem Twn.bel {W w' : World} {q : Qy} {a : Qa} (h : Twn W w' q a) : Below W.heap.size W w' := h.n.bel
theorem Twn.q {W w' : World} {q : Qy} {a b : Qa} (h : Twn W w' q a) (hq : QIn W q b) : QIn w' q a := ⟨h.n.lies kN_ok, h.b.lies kI_ok, h.s.lies kG_ok, h.o.lies kO_ok, hq.nn, hq.nb, hq.ns, hq.no⟩
end Go.Proofs.YtbenciieenbmeaaGreatDoor
/- typing: the law's sameInts 17, like 15. -/
namespace Go.Proofs.YtbenciieenbmeaaGreatDoor
open Go Go.Shelf Go.ChangeShapes Go.WideShapes Go.ChangeAt Go.RowKit Go.Maps
set_option linter.unusedVariables false
set_option maxRecDepth 100000
set_option maxHeartbeats 4000000
attribute [local go_sem ↓] ld32_is
/-- all tables lie there -/
structure Tab (W : World) : Prop where
  f : Flds W
  m : Mon W
  r : Recs W
theorem Tab.below {w w' : World} (h : Tab w) (hb : Below w.heap.size w w') : Tab w' := ⟨h.f.below hb, h.m.below hb, h.r.below hb⟩
/-- do two queries mean something alike? -/
def likS (q r : Qy) : Bool := (chkE q == chkE r) && decide (chkL q = chkL r)
theorem chkL_len {W : World} {q : Qy} {a : Qa} (hq : QIn W q a) : (chkL q).length ≤ 26400000000000 := by
  unfold chkL colS
  have := hq.nb
  have := hq.ns
  split
  · simp; omega
  · simp
end Go.Proofs.YtbenciieenbmeaaGreatDoor
/- typing: first 13. -/
namespace Go.Proofs.YtbenciieenbmeaaGreatDoor
open Go Go.Shelf Go.ChangeShapes Go.WideShapes Go.ChangeAt Go.RowKit Go.Maps
set_option linter.unusedVariables false
set_option maxRecDepth 100000
set_option maxHeartbeats 4000000
/-- the operation that says the same turned about -/
def trnS (op : Int) : Int × Bool := if op = 4 ∨ op = 5 ∨ op = 1 ∨ op = 2 ∨ op = 12 ∨ op = 14 then (op, true) else if op = 6 then (8, true) else if op = 8 then (6, true) else if op = 7 then (9, true) else if op = 9 then (7, true) else (op, false)
end Go.Proofs.YtbenciieenbmeaaGreatDoor
/- typing: plain theory of types; a query with one node turned. -/
namespace Go.Proofs.YtbenciieenbmeaaGreatDoor
open Go Go.Shelf Go.ChangeShapes Go.WideShapes Go.ChangeAt Go.RowKit Go.Maps
set_option linter.unusedVariables false
set_option maxRecDepth 100000
theorem tyL_parts (A B : List Nd) : tyL (A ++ B) = B.foldl (fun T x => T ++ [ntS x T]) (tyL A) := by unfold tyL; rw [List.foldl_append]
theorem tyL_set {L : List Nd} {k : Nat} (hk : k < L.length) {x : Nd} (h : ntS x (tyL (L.take k)) = ntS L[k] (tyL (L.take k))) : tyL (L.set k x) = tyL L := by
  have e1 : L.set k x = L.take k ++ (x :: L.drop (k + 1)) := List.set_eq_take_append_cons_drop.trans (by rw [if_pos hk])
  have e2 : L = L.take k ++ (L[k] :: L.drop (k + 1)) := by rw [List.getElem_cons_drop, List.take_append_drop]
  rw [e1, tyL_parts]
  conv => rhs; rw [e2, tyL_parts]
  rw [List.foldl_cons, List.foldl_cons, h]
def Qy.with (q : Qy) (N : List Nd) : Qy := ⟨N, q.wh, q.by', q.sh, q.ords, q.lim⟩
theorem lik_with {q : Qy} {N : List Nd} (h : tyL N = tyL q.nodes) : likS (q.with N) q = true := by
  have e1 : okQ (q.with N) = okQ q := by unfold okQ; show (ptsS q (tyL N)).all id = _; rw [h]
  have e2 : chkE (q.with N) = chkE q := by unfold chkE; rw [e1]
  have e3 : chkL (q.with N) = chkL q := by unfold chkL; rw [e1]; show (if _ then colS q (tyL N) else _) = _; rw [h]
  unfold likS
  rw [e2, e3]
  simp
theorem alike_comm (a b : Int) : alike a b = alike b a := by
  unfold alike
  by_cases h : a = b
  · rw [if_pos h, if_pos h.symm, h]
  · rw [if_neg h, if_neg (fun e => h e.symm), Bool.or_comm, Bool.and_comm, Bool.and_comm (x := a == 5)]
theorem alike_four {a b : Int} (h : alike a b = true) : (a == 4) = (b == 4) := by
  unfold alike at h
  by_cases e : a = b
  · rw [e]
  · rw [if_neg e] at h
    simp only [Bool.or_eq_true, Bool.and_eq_true, beq_iff_eq] at h
    rcases h with ⟨rfl, rfl⟩ | ⟨rfl, rfl⟩ <;> rfl
theorem range11 : List.range 11 = [0, 1, 2, 3, 4, 5, 6, 7, 8, 9, 10] := by decide
theorem rec12 (a b : Int) : recS 12 a b = recS 12 b a := by
  unfold recS
  rw [range11]
  simp only [List.find?_cons, rB, rc, recL, List.getD_cons_zero, List.getD_cons_succ]
  generalize ((1 : Int) == a) = x1
  generalize ((3 : Int) == a) = x3
  generalize ((5 : Int) == a) = x5
  generalize ((1 : Int) == b) = y1
  generalize ((3 : Int) == b) = y3
  generalize ((5 : Int) == b) = y5
  cases x1 <;> cases x3 <;> cases x5 <;> cases y1 <;> cases y3 <;> cases y5 <;> rfl
theorem rec14 (a b : Int) : recS 14 a b = recS 14 b a := by
  unfold recS
  rw [range11]
  simp only [List.find?_cons, rB, rc, recL, List.getD_cons_zero, List.getD_cons_succ]
  generalize ((1 : Int) == a) = x1
  generalize ((3 : Int) == a) = x3
  generalize ((5 : Int) == a) = x5
  generalize ((1 : Int) == b) = y1
  generalize ((3 : Int) == b) = y3
  generalize ((5 : Int) == b) = y5
  cases x1 <;> cases x3 <;> cases x5 <;> cases y1 <;> cases y3 <;> cases y5 <;> rfl
/-- an operation turned about makes the same of its parts' types -/
theorem pr_turn {op op' a b : Int} (h : trnS op = (op', true)) : prS op' b a = prS op a b := by
  unfold trnS at h
  by_cases h1 : op = 4 ∨ op = 5 ∨ op = 1 ∨ op = 2 ∨ op = 12 ∨ op = 14
  · rw [if_pos h1] at h
    have e : op = op' := congrArg Prod.fst h
    subst e
    rcases h1 with rfl | rfl | rfl | rfl | rfl | rfl
    · show tif (alike b a) 4 = tif (alike a b) 4
      rw [alike_comm]
    · show tif (alike b a) 4 = tif (alike a b) 4
      rw [alike_comm]
    · show tif (b == 4 && a == 4) 4 = tif (a == 4 && b == 4) 4
      rw [Bool.and_comm]
    · show tif (b == 4 && a == 4) 4 = tif (a == 4 && b == 4) 4
      rw [Bool.and_comm]
    · exact (rec12 a b).symm
    · exact (rec14 a b).symm
  · rw [if_neg h1] at h
    have lt : tif (alike b a && !(b == 4)) 4 = tif (alike a b && !(a == 4)) 4 := by
      rw [alike_comm b a]
      by_cases hc : alike a b = true
      · rw [alike_four hc]
      · have hc' : alike a b = false := by simpa using hc
        rw [hc']; rfl
    by_cases h6 : op = 6
    · rw [if_pos h6] at h
      have e : 8 = op' := congrArg Prod.fst h
      subst h6 e
      exact lt
    · rw [if_neg h6] at h
      by_cases h8 : op = 8
      · rw [if_pos h8] at h
        have e : 6 = op' := congrArg Prod.fst h
        subst h8 e
        exact lt
      · rw [if_neg h8] at h
        by_cases h7 : op = 7
        · rw [if_pos h7] at h
          have e : 9 = op' := congrArg Prod.fst h
          subst h7 e
          exact lt
        · rw [if_neg h7] at h
          by_cases h9 : op = 9
          · rw [if_pos h9] at h
            have e : 7 = op' := congrArg Prod.fst h
            subst h9 e
            exact lt
          · rw [if_neg h9] at h
            have := congrArg Prod.snd h
            cases this
theorem trn_pair {op op' : Int} (h : trnS op = (op', true)) : (1 ≤ op ∧ op ≤ 14 ∧ op ≠ 3) ∧ (1 ≤ op' ∧ op' ≤ 14 ∧ op' ≠ 3) := by
  unfold trnS at h
  split at h
  · have e : op = op' := congrArg Prod.fst h
    omega
  · split at h
    · have e : 8 = op' := congrArg Prod.fst h
      omega
    · split at h
      · have e : 6 = op' := congrArg Prod.fst h
        omega
      · split at h
        · have e : 9 = op' := congrArg Prod.fst h
          omega
        · split at h
          · have e : 7 = op' := congrArg Prod.fst h
            omega
          · have := congrArg Prod.snd h
            cases this
theorem nar_pair {x : Nd} (h : 1 ≤ x.op ∧ x.op ≤ 14 ∧ x.op ≠ 3) : narS x = .pair x.op x.left x.right := by
  unfold narS
  rw [if_neg (by omega), if_neg (by omega), if_neg (by omega), if_neg (by omega), if_neg (by omega), if_neg (by omega), if_pos (by omega)]
/-- a node's parts changed about -/
theorem nt_turn {x : Nd} {op' : Int} (h : trnS x.op = (op', true)) (T : List Int) : ntS ⟨op', x.right, x.left, x.field, x.num, x.text⟩ T = ntS x T := by
  obtain ⟨h1, h2⟩ := trn_pair h
  unfold ntS
  rw [nar_pair h1, nar_pair (x := ⟨op', x.right, x.left, x.field, x.num, x.text⟩) h2]
  exact pr_turn h
/-- another number, text, day, field of the same type -/
theorem nt_num {x : Nd} (h : x.op = 17) (m : Int) (T : List Int) : ntS ⟨x.op, x.left, x.right, x.field, m, x.text⟩ T = ntS x T := by
  unfold ntS narS
  simp only [h]
  rfl
theorem nt_text {x : Nd} (h : x.op = 18) (s : ByteArray) (T : List Int) : ntS ⟨x.op, x.left, x.right, x.field, x.num, s⟩ T = ntS x T := by
  unfold ntS narS
  simp only [h]
theorem nt_day {x : Nd} (h : x.op = 19) {m : Int} (h1 : dayB x.num = true) (h2 : dayB m = true) (T : List Int) : ntS ⟨x.op, x.left, x.right, x.field, m, x.text⟩ T = ntS x T := by
  unfold ntS narS
  simp only [h, h1, h2]
  rfl
theorem nt_field {x : Nd} (h : x.op = 16) {f : Int} (h1 : (fldS f).2 = (fldS x.field).2) (T : List Int) : ntS ⟨x.op, x.left, x.right, f, x.num, x.text⟩ T = ntS x T := by
  unfold ntS narS
  simp only [h, h1]
section
variable {α : Type} {K : Kd α}
theorem flat_set (h : KdOK K) : ∀ (L : List α) (k : Nat) (hk : k < L.length) (j : Nat), j < K.s → ∀ (x : α) (u : Value), K.enc x = (K.enc L[k]).set j u → (K.flat L).set (k * K.s + j) u = K.flat (L.set k x)
  | [], k, hk, _, _, _, _, _ => by simp at hk
  | r :: R, 0, _, j, hj, x, u, hx => by
    have e : K.flat (r :: R) = K.enc r ++ K.flat R := by simp [Kd.flat]
    rw [e, List.set_append_left _ _ (by rw [h.len]; omega)]
    simp only [List.set_cons_zero, Nat.zero_mul, Nat.zero_add]
    have e2 : K.flat (x :: R) = K.enc x ++ K.flat R := by simp [Kd.flat]
    rw [e2, hx]; rfl
  | r :: R, k + 1, hk, j, hj, x, u, hx => by
    have e : K.flat (r :: R) = K.enc r ++ K.flat R := by simp [Kd.flat]
    have e2 : (k + 1) * K.s + j - (K.enc r).length = k * K.s + j := by rw [h.len, Nat.add_mul, Nat.one_mul]; omega
    rw [e, List.set_append_right _ _ (by rw [h.len, Nat.add_mul, Nat.one_mul]; omega), e2, flat_set h R k (by simpa using hk) j hj x u (by simpa using hx)]
    simp only [List.set_cons_succ]
    simp [Kd.flat]
theorem row_set {w : World} {B g n cap size : Nat} {e : TypeId} {xs : List Value} (h : w.ownsRow B e size (.slice (some ⟨g, 0, none⟩) n cap) n xs) (j : Nat) (u : Value) : (w.setCell ⟨g, j, none⟩ u).ownsRow B e size (.slice (some ⟨g, 0, none⟩) n cap) n (xs.set j u) := by
  refine ⟨by rw [List.length_set]; exact h.1, ?_⟩
  rcases h.2 with ⟨h1, _⟩ | ⟨g', cap', cur, h1, hB, h2, h3, h4, h5, h6⟩
  · cases h1
  · injection h1 with h1 _ h1c
    injection h1 with h1
    injection h1 with h1
    subst h1 h1c
    refine .inr ⟨g, cap, _, rfl, hB, Go.heap_setCell_same w g j cur e u h2, h3, h4, ?_, ?_⟩
    · simpa using h5
    · rw [← h6]
      simp [List.take_set]
/-- one cell of an element written -/
theorem Rw.node (hK : KdOK K) {W wr : World} {g c n : Nat} {L : List α} (h : Rw K W wr (.slice (some ⟨g, 0, none⟩) n c) n L) {k : Nat} (hk : k < L.length) {j : Nat} (hj : j < K.s) {x : α} {u : Value} (hx : K.enc x = (K.enc L[k]).set j u) : Rw K W (wr.setCell ⟨g, k * K.s + j, none⟩ u) (.slice (some ⟨g, 0, none⟩) n c) n (L.set k x) := by
  have hr := row_set h.row (k * K.s + j) u
  rw [flat_set hK L k hk j hj x u hx] at hr
  obtain ⟨q, cc, e1, _, e3⟩ := row_slice h.row
  cases e1
  exact ⟨hr, h.bel.setCell (p := ⟨g, k * K.s + j, none⟩) (e3 _ rfl).2.2.1 _, by rw [List.length_set]; exact h.len⟩
theorem Rw.cell (hK : KdOK K) {W wr : World} {g c n : Nat} {L : List α} (h : Rw K W wr (.slice (some ⟨g, 0, none⟩) n c) n L) {k : Nat} (hk : k < L.length) {j : Nat} {v : Value} (hv : (K.enc L[k])[j]? = some v) : wr.cell? ⟨g, k * K.s + j, none⟩ = some v ∧ wr.frozen? ⟨g, k * K.s + j, none⟩ = false := by
  obtain ⟨b, o, e, _, hr⟩ := (h.lies hK).2 k hk
  cases e
  refine ⟨by have := hr j v hv; simpa using this, ?_⟩
  obtain ⟨cur, hc⟩ := row_type h (g := g) rfl
  exact froz_at hc
theorem Rw.start {W wr : World} {p : Option Addr} {c n : Nat} {L : List α} (h : Rw K W wr (.slice p n c) n L) (hn : 0 < n) : ∃ g, p = some ⟨g, 0, none⟩ ∧ W.heap.size ≤ g ∧ g < wr.heap.size ∧ ∃ cur, wr.heap[g]? = some (.cells cur K.e (0, 0)) := by
  obtain ⟨q, cc, e1, e2, e3⟩ := row_slice h.row
  cases e1
  cases p with
  | none => have := (e2 rfl).1; omega
  | some a =>
    obtain ⟨h1, h2, h3, h4⟩ := e3 a rfl
    obtain ⟨g, o, s⟩ := a
    simp only at h1 h2 h3
    subst h1 h2
    obtain ⟨cur, hc⟩ := row_type h (g := g) rfl
    exact ⟨g, rfl, h3, (Array.getElem?_eq_some_iff.1 hc).1, cur, hc⟩
/-- a row of another kind is not that block -/
theorem Rw.setT {W wr : World} {v : Value} {n j : Nat} {L : List α} {t : TypeId} {cs : Array Value} (h : Rw K W wr v n L) (hj : wr.heap[j]? = some (.cells cs t (0, 0))) (hK : K.e ≠ t) (hlo : W.heap.size ≤ j) (i : Nat) (u : Value) : Rw K W (wr.setCell ⟨j, i, none⟩ u) v n L := by
  refine ⟨row_keep h.row (fun g hg => Below.heap_setCell _ _ _ _ (fun e => ?_)), h.bel.setCell (p := ⟨j, i, none⟩) hlo _, h.len⟩
  obtain ⟨cur, hc⟩ := row_type h hg
  have e' : g = j := e
  rw [e', hj] at hc
  injection hc with hc
  injection hc with h1 h2
  exact hK h2.symm
end
/-- what a law holds: its query in a box, and a twin of it in another, perhaps with other nodes -/
structure Lw (W X : World) (q : Qy) (a : Qa) (N : List Nd) (b : Qa) (bq bp : Nat) : Prop where
  qb : X.heap[bq]? = some (.cells (qC q a).toArray 27 (0, 0))
  pb : X.heap[bp]? = some (.cells (qC (q.with N) b).toArray 27 (0, 0))
  tw : Twn W X (q.with N) b
  len : N.length = q.nodes.length
theorem Lw.bel {W X : World} {q : Qy} {a : Qa} {N : List Nd} {b : Qa} {bq bp : Nat} (h : Lw W X q a N b bq bp) : Below W.heap.size W X := h.tw.bel
theorem Lw.keep {W X X' : World} {q : Qy} {a : Qa} {N : List Nd} {b : Qa} {bq bp : Nat} (h : Lw W X q a N b bq bp) (hb : Below X.heap.size X X') : Lw W X' q a N b bq bp :=
  ⟨(hb.block _ (Array.getElem?_eq_some_iff.1 h.qb).1).trans h.qb, (hb.block _ (Array.getElem?_eq_some_iff.1 h.pb).1).trans h.pb, ⟨h.tw.n.below hb, h.tw.b.below hb, h.tw.s.below hb, h.tw.o.below hb⟩, h.len⟩
/-- a cell of the twin's node k written -/
theorem Lw.node {W X : World} {q : Qy} {a : Qa} {N : List Nd} {b : Qa} {bq bp g : Nat} (h : Lw W X q a N b bq bp) (hg : b.pN = some ⟨g, 0, none⟩) {k : Nat} (hk : k < N.length) {j : Nat} (hj : j < 6) {x : Nd} {u : Value} (hx : x.vals = (N[k]).vals.set j u) : Lw W (X.setCell ⟨g, k * 6 + j, none⟩ u) q a (N.set k x) b bq bp := by
  have hn := h.tw.n
  rw [hg] at hn
  obtain ⟨cur, hc⟩ := row_type hn (g := g) rfl
  have hlo : W.heap.size ≤ g := (row_block hn.row rfl).1
  have hne : ∀ {j' : Nat} {cs : Array Value}, X.heap[j']? = some (.cells cs 27 (0, 0)) → j' ≠ g := fun {j' cs} h1 e => by
    rw [e, hc] at h1
    injection h1 with h1
    injection h1 with h2 h3
    exact absurd h3 (by decide)
  have hL : (N.set k x).length = N.length := List.length_set
  refine ⟨(Below.heap_setCell _ _ _ _ (hne h.qb)).trans h.qb, ?_, ⟨?_, ?_, ?_, ?_⟩, by rw [hL]; exact h.len⟩
  · rw [Below.heap_setCell _ _ _ _ (hne h.pb), h.pb]
    show some (Obj.cells #[.slice b.pN N.length b.cN, _, _, _, _, _] 27 (0, 0)) = some (Obj.cells #[.slice b.pN (N.set k x).length b.cN, _, _, _, _, _] 27 (0, 0))
    rw [hL]
    rfl
  · have h9 := hn.node kN_ok hk (j := j) (x := x) (u := u) hj hx
    rw [← hg] at h9
    show Rw kN W _ (.slice b.pN (N.set k x).length b.cN) (N.set k x).length (N.set k x)
    rw [hL]
    exact h9
  · exact h.tw.b.setT hc (by decide) hlo _ _
  · exact h.tw.s.setT hc (by decide) hlo _ _
  · exact h.tw.o.setT hc (by decide) hlo _ _
end Go.Proofs.YtbenciieenbmeaaGreatDoor
