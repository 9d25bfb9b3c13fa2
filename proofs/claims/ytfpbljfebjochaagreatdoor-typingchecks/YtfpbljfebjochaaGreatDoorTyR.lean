/- typing: the law's twin 14. -/
import Derived.Test.YtfpbljfebjochaaGreatDoorTyQ
namespace Go.Proofs.YtfpbljfebjochaaGreatDoor
open Go Go.Shelf Go.ChangeShapes Go.WideShapes Go.ChangeAt Go.RowKit Go.Maps
set_option linter.unusedVariables false
set_option maxRecDepth 100000
set_option maxHeartbeats 4000000
section
variable {α : Type} {K : Kd α}
/-- a list copied to an empty one -/
theorem Rw.copy (hK : KdOK K) (X : World) (M : List α) (pu : Option Addr) (cu : Nat) (hcu : pu = none → cu = 0) (hu : Lies K X pu M) (ty : TypeId) (hl : M.length ≤ 70000000000000) (hb : (M.length + M.length / 4 + 192) * K.by' ≤ 281474976710656) :
    ∃ p c w', (Builtin.append_ #[K.t, K.t] ty #[.slice (some ⟨X.heap.size, 0, none⟩) 0 0, .slice pu M.length cu]).run Tryz.prog (X.alloc (.cells #[] K.e)) = .ok (.slice p M.length c) w' ∧ Rw K X w' (.slice p M.length c) M.length M := by
  have h0 : (X.alloc (.cells #[] K.e)).ownsRow X.heap.size K.e K.s (.slice (some ⟨X.heap.size, 0, none⟩) 0 0) 0 (K.flat []) := World.ownsRow_made X #[] 0 (Nat.le_refl _) (Nat.zero_le _) (by simp)
  obtain ⟨p8, c8, w8, r8, o8, b8⟩ := run_appW hK ty (W := X.alloc (.cells #[] K.e)) (M := M) (B := X.heap.size) (L := []) (n := 0) h0 (by simp) pu cu hcu (hu.below (Below.a1 X _)) (by omega) (by rw [Nat.zero_add]; exact hb)
  rw [Nat.zero_add] at r8 o8
  exact ⟨p8, c8, w8, r8, o8, (Below.a1 X _).trans b8, rfl⟩
theorem Rw.set {W wr : World} {v : Value} {n j : Nat} {L : List α} {cs : Array Value} (h : Rw K W wr v n L) (hj : wr.heap[j]? = some (.cells cs 27 (0, 0))) (hK : K.e ≠ 27) (hlo : W.heap.size ≤ j) (i : Nat) (u : Value) : Rw K W (wr.setCell ⟨j, i, none⟩ u) v n L := by
  refine ⟨row_keep h.row (fun g hg => Below.heap_setCell _ _ _ _ (fun e => ?_)), h.bel.setCell (p := ⟨j, i, none⟩) hlo _, h.len⟩
  obtain ⟨cur, hc⟩ := row_type h hg
  have e' : g = j := e
  rw [e', hj] at hc
  injection hc with hc
  injection hc with h1 h2
  exact hK h2.symm
end
theorem heap_set {w : World} {b i : Nat} {cs : Array Value} {y : Value} {t : TypeId} (h : w.heap[b]? = some (.cells cs t (0, 0))) : (w.setCell ⟨b, i, none⟩ y).heap[b]? = some (.cells (cs.setIfInBounds i y) t (0, 0)) := by
  simp [World.setCell, Array.getElem?_modify, h]
/-- the empty lists of a query have no room -/
structure QCp (a : Qa) : Prop where
  n : a.pN = none → a.cN = 0
  b : a.pB = none → a.cB = 0
  s : a.pS = none → a.cS = 0
  o : a.pO = none → a.cO = 0
/-- a query that shares no list with another -/
structure Twn (W w' : World) (q : Qy) (a : Qa) : Prop where
  n : Rw kN W w' (.slice a.pN q.nodes.length a.cN) q.nodes.length q.nodes
  b : Rw kI W w' (.slice a.pB q.by'.length a.cB) q.by'.length q.by'
  s : Rw kG W w' (.slice a.pS q.sh.length a.cS) q.sh.length q.sh
  o : Rw kO W w' (.slice a.pO q.ords.length a.cO) q.ords.length q.ords
theorem bs27 (w : World) : (Instr.buildSlice 22 0 #[]).run Tryz.prog w = .ok (.slice (some ⟨w.heap.size, 0, none⟩) 0 0) (w.alloc (.cells #[] 61)) := by kernel_rfl
theorem bs28 (w : World) : (Instr.buildSlice 23 0 #[]).run Tryz.prog w = .ok (.slice (some ⟨w.heap.size, 0, none⟩) 0 0) (w.alloc (.cells #[] 3)) := by kernel_rfl
theorem bs29 (w : World) : (Instr.buildSlice 24 0 #[]).run Tryz.prog w = .ok (.slice (some ⟨w.heap.size, 0, none⟩) 0 0) (w.alloc (.cells #[] 75)) := by kernel_rfl
theorem bs30 (w : World) : (Instr.buildSlice 25 0 #[]).run Tryz.prog w = .ok (.slice (some ⟨w.heap.size, 0, none⟩) 0 0) (w.alloc (.cells #[] 77)) := by kernel_rfl
theorem cell_at {W : World} {b i : Nat} {xs : Array Value} {t : TypeId} {f : Nat × Nat} (h : W.heap[b]? = some (.cells xs t f)) : W.cell? ⟨b, i, none⟩ = xs[i]? := by simp [World.cell?, h]
theorem froz_at {W : World} {b i : Nat} {xs : Array Value} {t : TypeId} (h : W.heap[b]? = some (.cells xs t (0, 0))) : W.frozen? ⟨b, i, none⟩ = false := by simp [World.frozen?, h]

/-- how far twin has come -/
structure St (W X : World) (src cs : Array Value) : Prop where
  b0 : X.heap[W.heap.size]? = some (.cells src 27 (0, 0))
  b1 : X.heap[W.heap.size + 1]? = some (.cells #[.slice none 0 0, .int .i64 0, .slice none 0 0, .slice none 0 0, .slice none 0 0, .int .i64 0] 27 (0, 0))
  b2 : X.heap[W.heap.size + 2]? = some (.cells cs 27 (0, 0))
  bel : Below W.heap.size W X
theorem St.lt {W X : World} {src cs : Array Value} (h : St W X src cs) : W.heap.size + 2 < X.heap.size := (Array.getElem?_eq_some_iff.1 h.b2).1
theorem St.step {W X w' : World} {src cs : Array Value} (h : St W X src cs) (hb : Below X.heap.size X w') (i : Nat) (u : Value) : St W (w'.setCell ⟨W.heap.size + 2, i, none⟩ u) src (cs.setIfInBounds i u) := by
  have hl := h.lt
  refine ⟨?_, ?_, heap_set ((hb.block _ (by omega)).trans h.b2), ((h.bel.trans (hb.mono h.bel.size))).setCell (p := ⟨W.heap.size + 2, i, none⟩) (by simp) _⟩
  · exact (Below.heap_setCell _ _ _ _ (by simp)).trans ((hb.block _ (by omega)).trans h.b0)
  · exact (Below.heap_setCell _ _ _ _ (by simp)).trans ((hb.block _ (by omega)).trans h.b1)
theorem St.row {α : Type} {K : Kd α} {W X w' : World} {src cs : Array Value} (h : St W X src cs) (hb : Below X.heap.size X w') {v : Value} {n : Nat} {L : List α} (hR : Rw K W X v n L) (hK : K.e ≠ 27) (i : Nat) (u : Value) : Rw K W (w'.setCell ⟨W.heap.size + 2, i, none⟩ u) v n L :=
  (hR.below hb).set ((hb.block _ h.lt).trans h.b2) hK (by omega) i u
theorem St.new {α : Type} {K : Kd α} {W X w' : World} {src cs : Array Value} (h : St W X src cs) {v : Value} {n : Nat} {L : List α} (hR : Rw K X w' v n L) (hK : K.e ≠ 27) (i : Nat) (u : Value) : Rw K W (w'.setCell ⟨W.heap.size + 2, i, none⟩ u) v n L :=
  (hR.up h.bel).set ((hR.bel.block _ h.lt).trans h.b2) hK (by omega) i u

def st32 (x y : Value) : Sem Unit := Instr.storeAt 27 x y
theorem st32_is (x y : Value) : Instr.storeAt 27 x y = st32 x y := rfl
theorem run_st32 {w : World} {b : Nat} {cs : Array Value} (h : w.heap[b]? = some (.cells cs 27 (0, 0))) (hs : cs.size = 6) {v0 v1 v2 v3 v4 v5 : Value} (ho : ∀ u ∈ [v0, v1, v2, v3, v4, v5], u.oneCell' = true) : (st32 (.pointer (some ⟨b, 0, none⟩)) (.agg #[v0, v1, v2, v3, v4, v5])).run Tryz.prog w = .ok () (w.setCells b 0 [v0, v1, v2, v3, v4, v5]) :=
  run_storeAt_mid (P := Tryz.prog) w b 0 27 #[v0, v1, v2, v3, v4, v5] (fun j hj => by
    have hj' : j < cs.size := by rw [hs]; exact hj
    simp [World.cell?, World.frozen?, h, hj']) size32 (by simpa using ho)
theorem below_setCells {B b : Nat} (hb : B ≤ b) (l : List Value) : ∀ (o : Nat) (a w : World), Below B a w → Below B a (w.setCells b o l) := by
  induction l with
  | nil => exact fun o a w h => h
  | cons v l ih => exact fun o a w h => ih (o + 1) a _ (h.setCell hb v)
theorem Rw.setCells {α : Type} {K : Kd α} {W : World} {v : Value} {n j : Nat} {L : List α} (hK : K.e ≠ 27) (hlo : W.heap.size ≤ j) (vs : List Value) : ∀ (wr : World) (o : Nat) (cs : Array Value), Rw K W wr v n L → wr.heap[j]? = some (.cells cs 27 (0, 0)) → Rw K W (wr.setCells j o vs) v n L := by
  induction vs with
  | nil => exact fun wr o cs h _ => h
  | cons x vs ih => exact fun wr o cs h hj => ih _ (o + 1) _ (h.set hj hK hlo o x) (heap_set hj)
theorem heap_setCells6 {w : World} {b : Nat} {x0 x1 x2 x3 x4 x5 v0 v1 v2 v3 v4 v5 : Value} (h : w.heap[b]? = some (.cells #[x0, x1, x2, x3, x4, x5] 27 (0, 0))) : (w.setCells b 0 [v0, v1, v2, v3, v4, v5]).heap[b]? = some (.cells #[v0, v1, v2, v3, v4, v5] 27 (0, 0)) := by
  show ((((((w.setCell ⟨b, 0, none⟩ _).setCell ⟨b, 0 + 1, none⟩ _).setCell ⟨b, 0 + 1 + 1, none⟩ _).setCell ⟨b, 0 + 1 + 1 + 1, none⟩ _).setCell ⟨b, 0 + 1 + 1 + 1 + 1, none⟩ _).setCell ⟨b, 0 + 1 + 1 + 1 + 1 + 1, none⟩ _).heap[b]? = _
  rw [heap_set (heap_set (heap_set (heap_set (heap_set (heap_set h)))))]
  rfl
theorem setCells_new (w : World) {x0 x1 x2 x3 x4 x5 v0 v1 v2 v3 v4 v5 : Value} : (w.alloc (.cells #[x0, x1, x2, x3, x4, x5] 27)).setCells w.heap.size 0 [v0, v1, v2, v3, v4, v5] = w.alloc (.cells #[v0, v1, v2, v3, v4, v5] 27) := by
  unfold World.setCells World.setCells World.setCells World.setCells World.setCells World.setCells World.setCells
  rw [World.setCell_alloc_new, World.setCell_alloc_new, World.setCell_alloc_new, World.setCell_alloc_new, World.setCell_alloc_new, World.setCell_alloc_new]
  simp
theorem run_st32_new {w : World} {v0 v1 v2 v3 v4 v5 : Value} (ho : ∀ u ∈ [v0, v1, v2, v3, v4, v5], u.oneCell' = true) : (st32 (.pointer (some ⟨w.heap.size, 0, none⟩)) (.agg #[v0, v1, v2, v3, v4, v5])).run Tryz.prog (w.alloc (.cells #[.slice none 0 0, .int .i64 0, .slice none 0 0, .slice none 0 0, .slice none 0 0, .int .i64 0] 27)) = .ok () (w.alloc (.cells #[v0, v1, v2, v3, v4, v5] 27)) := by
  have h := run_st32 (w := w.alloc (.cells #[.slice none 0 0, .int .i64 0, .slice none 0 0, .slice none 0 0, .slice none 0 0, .int .i64 0] 27)) (b := w.heap.size) (heap_new _ _) rfl ho
  rw [setCells_new] at h
  exact h
attribute [local go_sem ↓] ld32_is st32_is
theorem twin_any {W : World} {q : Qy} {a : Qa} (hq : QIn W q a) (hc : QCp a) : Calls Tryz.prog 10 #[qV q a] W fun e w' => ∃ a', e = .returned (qV q a') ∧ Twn W w' q a' := by
  obtain ⟨nN, hnN⟩ : ∃ n, n = q.nodes.length := ⟨_, rfl⟩
  obtain ⟨nB, hnB⟩ : ∃ n, n = q.by'.length := ⟨_, rfl⟩
  obtain ⟨nS, hnS⟩ : ∃ n, n = q.sh.length := ⟨_, rfl⟩
  obtain ⟨nO, hnO⟩ : ∃ n, n = q.ords.length := ⟨_, rfl⟩
  obtain ⟨W1, hW1⟩ : ∃ X, X = (W.alloc (.cells #[.slice a.pN nN a.cN, .int .i64 q.wh, .slice a.pB nB a.cB, .slice a.pS nS a.cS, .slice a.pO nO a.cO, .int .i64 q.lim] 27)).alloc (.cells #[.slice none 0 0, .int .i64 0, .slice none 0 0, .slice none 0 0, .slice none 0 0, .int .i64 0] 27) := ⟨_, rfl⟩
  obtain ⟨W3, hW3⟩ : ∃ X, X = W1.alloc (.cells #[.slice a.pN nN a.cN, .int .i64 q.wh, .slice a.pB nB a.cB, .slice a.pS nS a.cS, .slice a.pO nO a.cO, .int .i64 q.lim] 27) := ⟨_, rfl⟩
  have hs1 : W1.heap.size = W.heap.size + 2 := by rw [hW1]; simp
  have hs3 : W3.heap.size = W.heap.size + 3 := by rw [hW3]; simp; omega
  have hB3 : Below W.heap.size W W3 := by rw [hW3, hW1]; exact (Below.a2 W _ _).alloc (by simp; omega) _
  have b0 : W3.heap[W.heap.size]? = some (.cells #[.slice a.pN nN a.cN, .int .i64 q.wh, .slice a.pB nB a.cB, .slice a.pS nS a.cS, .slice a.pO nO a.cO, .int .i64 q.lim] 27 (0, 0)) := by
    rw [hW3, Below.heap_alloc _ _ _ (by omega), hW1, Below.heap_alloc _ _ _ (by simp)]; exact heap_new _ _
  have b2 : W3.heap[W.heap.size + 2]? = some (.cells #[.slice a.pN nN a.cN, .int .i64 q.wh, .slice a.pB nB a.cB, .slice a.pS nS a.cS, .slice a.pO nO a.cO, .int .i64 q.lim] 27 (0, 0)) := by
    rw [hW3, show W.heap.size + 2 = W1.heap.size by omega]; exact heap_new _ _
  have b1 : W3.heap[W.heap.size + 1]? = some (.cells #[.slice none 0 0, .int .i64 0, .slice none 0 0, .slice none 0 0, .slice none 0 0, .int .i64 0] 27 (0, 0)) := by
    rw [hW3, Below.heap_alloc _ _ _ (by omega), hW1]
    have := heap_new (W.alloc (.cells #[.slice a.pN nN a.cN, .int .i64 q.wh, .slice a.pB nB a.cB, .slice a.pS nS a.cS, .slice a.pO nO a.cO, .int .i64 q.lim] 27)) (.cells #[.slice none 0 0, .int .i64 0, .slice none 0 0, .slice none 0 0, .slice none 0 0, .int .i64 0] 27)
    rw [World.size_alloc] at this
    exact this
  have l1 : (ld32 (.pointer (some ⟨W.heap.size, 0, none⟩))).run Tryz.prog W1 = .ok (.agg #[.slice a.pN nN a.cN, .int .i64 q.wh, .slice a.pB nB a.cB, .slice a.pS nS a.cS, .slice a.pO nO a.cO, .int .i64 q.lim]) W1 := by
    have hb : W1.heap[W.heap.size]? = some (.cells #[.slice a.pN nN a.cN, .int .i64 q.wh, .slice a.pB nB a.cB, .slice a.pS nS a.cS, .slice a.pO nO a.cO, .int .i64 q.lim] 27 (0, 0)) := by rw [hW1, Below.heap_alloc _ _ _ (by simp)]; exact heap_new _ _
    have := run_ld32 (w := W1) (b := W.heap.size) (o := 0) (q := q) (a := a) (fun j u hu => by rw [Nat.zero_add, cell_at hb, hnN, hnB, hnS, hnO]; simpa [qC] using hu)
    rw [this, hnN, hnB, hnS, hnO]
    rfl
  have S0 : Hid (St W W3 #[.slice a.pN nN a.cN, .int .i64 q.wh, .slice a.pB nB a.cB, .slice a.pS nS a.cS, .slice a.pO nO a.cO, .int .i64 q.lim] #[.slice a.pN nN a.cN, .int .i64 q.wh, .slice a.pB nB a.cB, .slice a.pS nS a.cS, .slice a.pO nO a.cO, .int .i64 q.lim]) := ⟨b0, b1, b2, hB3⟩
  have HQ := hide hq; have HC := hide hc
  have HN := hide hnN; have HBn := hide hnB; have HSn := hide hnS; have HOn := hide hnO
  have hgo : qV q a = .agg #[.slice a.pN nN a.cN, .int .i64 q.wh, .slice a.pB nB a.cB, .slice a.pS nS a.cS, .slice a.pO nO a.cO, .int .i64 q.lim] := by rw [hnN, hnB, hnS, hnO]; rfl
  rw [hgo]
  have s1 := run_st32_new (w := W1) (v0 := .slice a.pN nN a.cN) (v1 := .int .i64 q.wh) (v2 := .slice a.pB nB a.cB) (v3 := .slice a.pS nS a.cS) (v4 := .slice a.pO nO a.cO) (v5 := .int .i64 q.lim) (fun u hu => by simp at hu; rcases hu with rfl | rfl | rfl | rfl | rfl | rfl <;> rfl)
  rw [hs1] at s1
  have g7 := bs27; have g8 := bs28; have g9 := bs29; have g10 := bs30
  clear hq hc hnN hnB hnS hnO b0 b1 b2 hB3 hgo hs3
  go_enter Tryz.func10, Tryz.ntmps10
  go_upto_region 1 with fail
  rw [← hW1]
  clear hW1
  go_upto_region 2 with fail
  rw [← hW3]
  clear hW3 l1 s1
  obtain ⟨p1, c1, w1, r1, R1⟩ := Rw.copy kN_ok W3 q.nodes a.pN a.cN (unhide HC).n ((unhide HQ).n.below (unhide S0).bel) 22 (by have := (unhide HQ).nn; omega) (nat_bound (c := 2600000000000) (unhide HQ).nn (by decide))
  rw [← unhide HN] at r1 R1
  have rr1 : (Builtin.append_ #[22, 22] 22 #[.slice (some ⟨W3.heap.size, 0, none⟩) 0 0, .slice a.pN nN a.cN]).run Tryz.prog (W3.alloc (.cells #[] kN.e)) = .ok (.slice p1 nN c1) w1 := r1
  have y1 : ∀ o, (W3.alloc o).cell? ⟨W.heap.size, 0, none⟩ = some (.slice a.pN nN a.cN) := fun o => by rw [World.cell?_alloc_lt _ _ _ (by have := (unhide S0).lt; simp; omega), cell_at (unhide S0).b0]; rfl
  have z1 : w1.cell? ⟨W.heap.size + 2, 0, none⟩ = some (.slice a.pN nN a.cN) := by rw [R1.bel.cell (p := ⟨W.heap.size + 2, 0, none⟩) (unhide S0).lt, cell_at (unhide S0).b2]; rfl
  have v1 : w1.frozen? ⟨W.heap.size + 2, 0, none⟩ = false := by rw [R1.bel.frozen (p := ⟨W.heap.size + 2, 0, none⟩) (unhide S0).lt, froz_at (unhide S0).b2]
  obtain ⟨X1, hX1⟩ : ∃ X, X = w1.setCell ⟨W.heap.size + 2, 0, none⟩ (.slice p1 nN c1) := ⟨_, rfl⟩
  have S1 : Hid (St W X1 #[.slice a.pN nN a.cN, .int .i64 q.wh, .slice a.pB nB a.cB, .slice a.pS nS a.cS, .slice a.pO nO a.cO, .int .i64 q.lim] #[.slice p1 nN c1, .int .i64 q.wh, .slice a.pB nB a.cB, .slice a.pS nS a.cS, .slice a.pO nO a.cO, .int .i64 q.lim]) := by rw [hX1]; exact (unhide S0).step R1.bel 0 _
  have Q1 : Hid (Rw kN W X1 (.slice p1 nN c1) nN q.nodes) := by rw [hX1]; exact (unhide S0).new R1 (by decide) 0 _
  have HR1 := hide rr1
  clear r1 rr1 R1
  go_upto_region 3 with (at_builtin; refine wpList_append_run rfl _ _ 22 rfl _ _ _ _ rfl rfl (unhide HR1) ?_)
  rw [← hX1]
  clear hX1 y1 z1 v1 HR1 w1
  obtain ⟨p2, c2, w2, r2, R2⟩ := Rw.copy kI_ok X1 q.by' a.pB a.cB (unhide HC).b ((unhide HQ).b.below (unhide S1).bel) 23 (by have := (unhide HQ).nb; omega) (nat_bound (c := 17600000000000) (unhide HQ).nb (by decide))
  rw [← unhide HBn] at r2 R2
  have rr2 : (Builtin.append_ #[23, 23] 23 #[.slice (some ⟨X1.heap.size, 0, none⟩) 0 0, .slice a.pB nB a.cB]).run Tryz.prog (X1.alloc (.cells #[] kI.e)) = .ok (.slice p2 nB c2) w2 := r2
  have y2 : ∀ o, (X1.alloc o).cell? ⟨W.heap.size, 2, none⟩ = some (.slice a.pB nB a.cB) := fun o => by rw [World.cell?_alloc_lt _ _ _ (by have := (unhide S1).lt; simp; omega), cell_at (unhide S1).b0]; rfl
  have z2 : w2.cell? ⟨W.heap.size + 2, 2, none⟩ = some (.slice a.pB nB a.cB) := by rw [R2.bel.cell (p := ⟨W.heap.size + 2, 2, none⟩) (unhide S1).lt, cell_at (unhide S1).b2]; rfl
  have v2 : w2.frozen? ⟨W.heap.size + 2, 2, none⟩ = false := by rw [R2.bel.frozen (p := ⟨W.heap.size + 2, 2, none⟩) (unhide S1).lt, froz_at (unhide S1).b2]
  obtain ⟨X2, hX2⟩ : ∃ X, X = w2.setCell ⟨W.heap.size + 2, 2, none⟩ (.slice p2 nB c2) := ⟨_, rfl⟩
  have S2 : Hid (St W X2 #[.slice a.pN nN a.cN, .int .i64 q.wh, .slice a.pB nB a.cB, .slice a.pS nS a.cS, .slice a.pO nO a.cO, .int .i64 q.lim] #[.slice p1 nN c1, .int .i64 q.wh, .slice p2 nB c2, .slice a.pS nS a.cS, .slice a.pO nO a.cO, .int .i64 q.lim]) := by rw [hX2]; exact (unhide S1).step R2.bel 2 _
  have Q1 : Hid (Rw kN W X2 (.slice p1 nN c1) nN q.nodes) := by rw [hX2]; exact (unhide S1).row R2.bel (unhide Q1) (by decide) 2 _
  have Q2 : Hid (Rw kI W X2 (.slice p2 nB c2) nB q.by') := by rw [hX2]; exact (unhide S1).new R2 (by decide) 2 _
  have HR2 := hide rr2
  clear r2 rr2 R2
  go_upto_region 4 with (at_builtin; refine wpList_append_run rfl _ _ 23 rfl _ _ _ _ rfl rfl (unhide HR2) ?_)
  rw [← hX2]
  clear hX2 y2 z2 v2 HR2 w2
  obtain ⟨p3, c3, w3, r3, R3⟩ := Rw.copy kG_ok X2 q.sh a.pS a.cS (unhide HC).s ((unhide HQ).s.below (unhide S2).bel) 24 (by have := (unhide HQ).ns; omega) (nat_bound (c := 8800000000000) (unhide HQ).ns (by decide))
  rw [← unhide HSn] at r3 R3
  have rr3 : (Builtin.append_ #[24, 24] 24 #[.slice (some ⟨X2.heap.size, 0, none⟩) 0 0, .slice a.pS nS a.cS]).run Tryz.prog (X2.alloc (.cells #[] kG.e)) = .ok (.slice p3 nS c3) w3 := r3
  have y3 : ∀ o, (X2.alloc o).cell? ⟨W.heap.size, 3, none⟩ = some (.slice a.pS nS a.cS) := fun o => by rw [World.cell?_alloc_lt _ _ _ (by have := (unhide S2).lt; simp; omega), cell_at (unhide S2).b0]; rfl
  have z3 : w3.cell? ⟨W.heap.size + 2, 3, none⟩ = some (.slice a.pS nS a.cS) := by rw [R3.bel.cell (p := ⟨W.heap.size + 2, 3, none⟩) (unhide S2).lt, cell_at (unhide S2).b2]; rfl
  have v3 : w3.frozen? ⟨W.heap.size + 2, 3, none⟩ = false := by rw [R3.bel.frozen (p := ⟨W.heap.size + 2, 3, none⟩) (unhide S2).lt, froz_at (unhide S2).b2]
  obtain ⟨X3, hX3⟩ : ∃ X, X = w3.setCell ⟨W.heap.size + 2, 3, none⟩ (.slice p3 nS c3) := ⟨_, rfl⟩
  have S3 : Hid (St W X3 #[.slice a.pN nN a.cN, .int .i64 q.wh, .slice a.pB nB a.cB, .slice a.pS nS a.cS, .slice a.pO nO a.cO, .int .i64 q.lim] #[.slice p1 nN c1, .int .i64 q.wh, .slice p2 nB c2, .slice p3 nS c3, .slice a.pO nO a.cO, .int .i64 q.lim]) := by rw [hX3]; exact (unhide S2).step R3.bel 3 _
  have Q1 : Hid (Rw kN W X3 (.slice p1 nN c1) nN q.nodes) := by rw [hX3]; exact (unhide S2).row R3.bel (unhide Q1) (by decide) 3 _
  have Q2 : Hid (Rw kI W X3 (.slice p2 nB c2) nB q.by') := by rw [hX3]; exact (unhide S2).row R3.bel (unhide Q2) (by decide) 3 _
  have Q3 : Hid (Rw kG W X3 (.slice p3 nS c3) nS q.sh) := by rw [hX3]; exact (unhide S2).new R3 (by decide) 3 _
  have HR3 := hide rr3
  clear r3 rr3 R3
  go_upto_region 5 with (at_builtin; refine wpList_append_run rfl _ _ 24 rfl _ _ _ _ rfl rfl (unhide HR3) ?_)
  rw [← hX3]
  clear hX3 y3 z3 v3 HR3 w3
  obtain ⟨p4, c4, w4, r4, R4⟩ := Rw.copy kO_ok X3 q.ords a.pO a.cO (unhide HC).o ((unhide HQ).o.below (unhide S3).bel) 25 (by have := (unhide HQ).no; omega) (nat_bound (c := 8800000000000) (unhide HQ).no (by decide))
  rw [← unhide HOn] at r4 R4
  have rr4 : (Builtin.append_ #[25, 25] 25 #[.slice (some ⟨X3.heap.size, 0, none⟩) 0 0, .slice a.pO nO a.cO]).run Tryz.prog (X3.alloc (.cells #[] kO.e)) = .ok (.slice p4 nO c4) w4 := r4
  have y4 : ∀ o, (X3.alloc o).cell? ⟨W.heap.size, 4, none⟩ = some (.slice a.pO nO a.cO) := fun o => by rw [World.cell?_alloc_lt _ _ _ (by have := (unhide S3).lt; simp; omega), cell_at (unhide S3).b0]; rfl
  have z4 : w4.cell? ⟨W.heap.size + 2, 4, none⟩ = some (.slice a.pO nO a.cO) := by rw [R4.bel.cell (p := ⟨W.heap.size + 2, 4, none⟩) (unhide S3).lt, cell_at (unhide S3).b2]; rfl
  have v4 : w4.frozen? ⟨W.heap.size + 2, 4, none⟩ = false := by rw [R4.bel.frozen (p := ⟨W.heap.size + 2, 4, none⟩) (unhide S3).lt, froz_at (unhide S3).b2]
  obtain ⟨X4, hX4⟩ : ∃ X, X = w4.setCell ⟨W.heap.size + 2, 4, none⟩ (.slice p4 nO c4) := ⟨_, rfl⟩
  have S4 : Hid (St W X4 #[.slice a.pN nN a.cN, .int .i64 q.wh, .slice a.pB nB a.cB, .slice a.pS nS a.cS, .slice a.pO nO a.cO, .int .i64 q.lim] #[.slice p1 nN c1, .int .i64 q.wh, .slice p2 nB c2, .slice p3 nS c3, .slice p4 nO c4, .int .i64 q.lim]) := by rw [hX4]; exact (unhide S3).step R4.bel 4 _
  have Q1 : Hid (Rw kN W X4 (.slice p1 nN c1) nN q.nodes) := by rw [hX4]; exact (unhide S3).row R4.bel (unhide Q1) (by decide) 4 _
  have Q2 : Hid (Rw kI W X4 (.slice p2 nB c2) nB q.by') := by rw [hX4]; exact (unhide S3).row R4.bel (unhide Q2) (by decide) 4 _
  have Q3 : Hid (Rw kG W X4 (.slice p3 nS c3) nS q.sh) := by rw [hX4]; exact (unhide S3).row R4.bel (unhide Q3) (by decide) 4 _
  have Q4 : Hid (Rw kO W X4 (.slice p4 nO c4) nO q.ords) := by rw [hX4]; exact (unhide S3).new R4 (by decide) 4 _
  have HR4 := hide rr4
  clear r4 rr4 R4
  go_upto_region 6 with (at_builtin; refine wpList_append_run rfl _ _ 25 rfl _ _ _ _ rfl rfl (unhide HR4) ?_)
  rw [← hX4]
  clear hX4 y4 z4 v4 HR4 w4
  have l4 : (ld32 (.pointer (some ⟨W.heap.size + 2, 0, none⟩))).run Tryz.prog X4 = .ok (.agg #[.slice p1 nN c1, .int .i64 q.wh, .slice p2 nB c2, .slice p3 nS c3, .slice p4 nO c4, .int .i64 q.lim]) X4 :=
    run_loadAt_mid (P := Tryz.prog) X4 (W.heap.size + 2) 0 27 [.slice p1 nN c1, .int .i64 q.wh, .slice p2 nB c2, .slice p3 nS c3, .slice p4 nO c4, .int .i64 q.lim] _ (fun j u hu => by rw [Nat.zero_add, cell_at (unhide S4).b2]; simpa using hu) Tryz.underlying27 rfl size32
  have s4 := run_st32 (unhide S4).b1 rfl (v0 := .slice p1 nN c1) (v1 := .int .i64 q.wh) (v2 := .slice p2 nB c2) (v3 := .slice p3 nS c3) (v4 := .slice p4 nO c4) (v5 := .int .i64 q.lim) (fun u hu => by simp at hu; rcases hu with rfl | rfl | rfl | rfl | rfl | rfl <;> rfl)
  have hY := heap_setCells6 (v0 := .slice p1 nN c1) (v1 := .int .i64 q.wh) (v2 := .slice p2 nB c2) (v3 := .slice p3 nS c3) (v4 := .slice p4 nO c4) (v5 := .int .i64 q.lim) (unhide S4).b1
  have T1 := hide ((unhide Q1).setCells (j := W.heap.size + 1) (by decide) (by omega) [.slice p1 nN c1, .int .i64 q.wh, .slice p2 nB c2, .slice p3 nS c3, .slice p4 nO c4, .int .i64 q.lim] X4 0 _ (unhide S4).b1)
  have T2 := hide ((unhide Q2).setCells (j := W.heap.size + 1) (by decide) (by omega) [.slice p1 nN c1, .int .i64 q.wh, .slice p2 nB c2, .slice p3 nS c3, .slice p4 nO c4, .int .i64 q.lim] X4 0 _ (unhide S4).b1)
  have T3 := hide ((unhide Q3).setCells (j := W.heap.size + 1) (by decide) (by omega) [.slice p1 nN c1, .int .i64 q.wh, .slice p2 nB c2, .slice p3 nS c3, .slice p4 nO c4, .int .i64 q.lim] X4 0 _ (unhide S4).b1)
  have T4 := hide ((unhide Q4).setCells (j := W.heap.size + 1) (by decide) (by omega) [.slice p1 nN c1, .int .i64 q.wh, .slice p2 nB c2, .slice p3 nS c3, .slice p4 nO c4, .int .i64 q.lim] X4 0 _ (unhide S4).b1)
  obtain ⟨Y, hYY⟩ : ∃ Y, Y = X4.setCells (W.heap.size + 1) 0 [.slice p1 nN c1, .int .i64 q.wh, .slice p2 nB c2, .slice p3 nS c3, .slice p4 nO c4, .int .i64 q.lim] := ⟨_, rfl⟩
  rw [← hYY] at s4 hY T1 T2 T3 T4
  have y0 : Y.cell? ⟨W.heap.size + 1, 0, none⟩ = some (.slice p1 nN c1) := by rw [cell_at hY]; rfl
  have y1 : Y.cell? ⟨W.heap.size + 1, 1, none⟩ = some (.int .i64 q.wh) := by rw [cell_at hY]; rfl
  have y2 : Y.cell? ⟨W.heap.size + 1, 2, none⟩ = some (.slice p2 nB c2) := by rw [cell_at hY]; rfl
  have y3 : Y.cell? ⟨W.heap.size + 1, 3, none⟩ = some (.slice p3 nS c3) := by rw [cell_at hY]; rfl
  have y4 : Y.cell? ⟨W.heap.size + 1, 4, none⟩ = some (.slice p4 nO c4) := by rw [cell_at hY]; rfl
  have y5 : Y.cell? ⟨W.heap.size + 1, 5, none⟩ = some (.int .i64 q.lim) := by rw [cell_at hY]; rfl
  clear hY hYY Q1 Q2 Q3 Q4 S0 S1 S2 S3 S4 HQ HC g7 g8 g9 g10
  go_wp2_with fail
  have HT : Hid (Twn W Y q ⟨p1, c1, p2, c2, p3, c3, p4, c4⟩) := by
    rw [unhide HN] at T1
    rw [unhide HBn] at T2
    rw [unhide HSn] at T3
    rw [unhide HOn] at T4
    exact ⟨unhide T1, unhide T2, unhide T3, unhide T4⟩
  have HV : Hid (qV q ⟨p1, c1, p2, c2, p3, c3, p4, c4⟩ = .agg #[.slice p1 nN c1, .int .i64 q.wh, .slice p2 nB c2, .slice p3 nS c3, .slice p4 nO c4, .int .i64 q.lim]) := by
    show _ = _
    rw [unhide HN, unhide HBn, unhide HSn, unhide HOn]; rfl
  refine bodyPost_ret (v := .agg #[.slice p1 nN c1, .int .i64 q.wh, .slice p2 nB c2, .slice p3 nS c3, .slice p4 nO c4, .int .i64 q.lim]) (by simp [results, Tryz.results10, go_sem, *]) rfl ⟨⟨p1, c1, p2, c2, p3, c3, p4, c4⟩, by rw [unhide HV], unhide HT⟩
theorem Twn.bel {W w' : World} {q : Qy} {a : Qa} (h : Twn W w' q a) : Below W.heap.size W w' := h.n.bel
theorem Twn.q {W w' : World} {q : Qy} {a b : Qa} (h : Twn W w' q a) (hq : QIn W q b) : QIn w' q a := ⟨h.n.lies kN_ok, h.b.lies kI_ok, h.s.lies kG_ok, h.o.lies kO_ok, hq.nn, hq.nb, hq.ns, hq.no⟩
end Go.Proofs.YtfpbljfebjochaaGreatDoor
