/- typing: plain theory of types; a query with one node turned. -/
import Derived.Test.YtfpbljfebjochaaGreatDoorTyS
namespace Go.Proofs.YtfpbljfebjochaaGreatDoor
open Go Go.Shelf Go.ChangeShapes Go.WideShapes Go.ChangeAt Go.RowKit Go.Maps
set_option linter.unusedVariables false
set_option maxRecDepth 100000
theorem tyL_parts (A B : List Nd) : tyL (A ++ B) = B.foldl (fun T x => T ++ [ntS x T]) (tyL A) := by unfold tyL; rw [List.foldl_append]
theorem tyL_set {L : List Nd} {k : Nat} (hk : k < L.length) {x : Nd} (h : ntS x (tyL (L.take k)) = ntS L[k] (tyL (L.take k))) : tyL (L.set k x) = tyL L := by
  have e1 : L.set k x = L.take k ++ (x :: L.drop (k + 1)) := List.set_eq_take_append_cons_drop.trans (by rw [if_pos hk])
  have e2 : L = L.take k ++ (L[k] :: L.drop (k + 1)) := by rw [List.getElem_cons_drop, List.take_append_drop]
  rw [e1, tyL_parts]
  conv => rhs; rw [e2, tyL_parts]
  rw [List.foldl_cons, List.foldl_cons, h]
def Qy.with (q : Qy) (N : List Nd) : Qy := ⟨N, q.wh, q.by', q.sh, q.ords, q.lim⟩
theorem lik_with {q : Qy} {N : List Nd} (h : tyL N = tyL q.nodes) : likS (q.with N) q = true := by
  have e1 : okQ (q.with N) = okQ q := by unfold okQ; show (ptsS q (tyL N)).all id = _; rw [h]
  have e2 : chkE (q.with N) = chkE q := by unfold chkE; rw [e1]
  have e3 : chkL (q.with N) = chkL q := by unfold chkL; rw [e1]; show (if _ then colS q (tyL N) else _) = _; rw [h]
  unfold likS
  rw [e2, e3]
  simp
theorem alike_comm (a b : Int) : alike a b = alike b a := by
  unfold alike
  by_cases h : a = b
  · rw [if_pos h, if_pos h.symm, h]
  · rw [if_neg h, if_neg (fun e => h e.symm), Bool.or_comm, Bool.and_comm, Bool.and_comm (x := a == 5)]
theorem alike_four {a b : Int} (h : alike a b = true) : (a == 4) = (b == 4) := by
  unfold alike at h
  by_cases e : a = b
  · rw [e]
  · rw [if_neg e] at h
    simp only [Bool.or_eq_true, Bool.and_eq_true, beq_iff_eq] at h
    rcases h with ⟨rfl, rfl⟩ | ⟨rfl, rfl⟩ <;> rfl
theorem range11 : List.range 11 = [0, 1, 2, 3, 4, 5, 6, 7, 8, 9, 10] := by decide
theorem rec12 (a b : Int) : recS 12 a b = recS 12 b a := by
  unfold recS
  rw [range11]
  simp only [List.find?_cons, rB, rc, recL, List.getD_cons_zero, List.getD_cons_succ]
  generalize ((1 : Int) == a) = x1
  generalize ((3 : Int) == a) = x3
  generalize ((5 : Int) == a) = x5
  generalize ((1 : Int) == b) = y1
  generalize ((3 : Int) == b) = y3
  generalize ((5 : Int) == b) = y5
  cases x1 <;> cases x3 <;> cases x5 <;> cases y1 <;> cases y3 <;> cases y5 <;> rfl
theorem rec14 (a b : Int) : recS 14 a b = recS 14 b a := by
  unfold recS
  rw [range11]
  simp only [List.find?_cons, rB, rc, recL, List.getD_cons_zero, List.getD_cons_succ]
  generalize ((1 : Int) == a) = x1
  generalize ((3 : Int) == a) = x3
  generalize ((5 : Int) == a) = x5
  generalize ((1 : Int) == b) = y1
  generalize ((3 : Int) == b) = y3
  generalize ((5 : Int) == b) = y5
  cases x1 <;> cases x3 <;> cases x5 <;> cases y1 <;> cases y3 <;> cases y5 <;> rfl
/-- an operation turned about makes the same of its parts' types -/
theorem pr_turn {op op' a b : Int} (h : trnS op = (op', true)) : prS op' b a = prS op a b := by
  unfold trnS at h
  by_cases h1 : op = 4 ∨ op = 5 ∨ op = 1 ∨ op = 2 ∨ op = 12 ∨ op = 14
  · rw [if_pos h1] at h
    have e : op = op' := congrArg Prod.fst h
    subst e
    rcases h1 with rfl | rfl | rfl | rfl | rfl | rfl
    · show tif (alike b a) 4 = tif (alike a b) 4
      rw [alike_comm]
    · show tif (alike b a) 4 = tif (alike a b) 4
      rw [alike_comm]
    · show tif (b == 4 && a == 4) 4 = tif (a == 4 && b == 4) 4
      rw [Bool.and_comm]
    · show tif (b == 4 && a == 4) 4 = tif (a == 4 && b == 4) 4
      rw [Bool.and_comm]
    · exact (rec12 a b).symm
    · exact (rec14 a b).symm
  · rw [if_neg h1] at h
    have lt : tif (alike b a && !(b == 4)) 4 = tif (alike a b && !(a == 4)) 4 := by
      rw [alike_comm b a]
      by_cases hc : alike a b = true
      · rw [alike_four hc]
      · have hc' : alike a b = false := by simpa using hc
        rw [hc']; rfl
    by_cases h6 : op = 6
    · rw [if_pos h6] at h
      have e : 8 = op' := congrArg Prod.fst h
      subst h6 e
      exact lt
    · rw [if_neg h6] at h
      by_cases h8 : op = 8
      · rw [if_pos h8] at h
        have e : 6 = op' := congrArg Prod.fst h
        subst h8 e
        exact lt
      · rw [if_neg h8] at h
        by_cases h7 : op = 7
        · rw [if_pos h7] at h
          have e : 9 = op' := congrArg Prod.fst h
          subst h7 e
          exact lt
        · rw [if_neg h7] at h
          by_cases h9 : op = 9
          · rw [if_pos h9] at h
            have e : 7 = op' := congrArg Prod.fst h
            subst h9 e
            exact lt
          · rw [if_neg h9] at h
            have := congrArg Prod.snd h
            cases this
theorem trn_pair {op op' : Int} (h : trnS op = (op', true)) : (1 ≤ op ∧ op ≤ 14 ∧ op ≠ 3) ∧ (1 ≤ op' ∧ op' ≤ 14 ∧ op' ≠ 3) := by
  unfold trnS at h
  split at h
  · have e : op = op' := congrArg Prod.fst h
    omega
  · split at h
    · have e : 8 = op' := congrArg Prod.fst h
      omega
    · split at h
      · have e : 6 = op' := congrArg Prod.fst h
        omega
      · split at h
        · have e : 9 = op' := congrArg Prod.fst h
          omega
        · split at h
          · have e : 7 = op' := congrArg Prod.fst h
            omega
          · have := congrArg Prod.snd h
            cases this
theorem nar_pair {x : Nd} (h : 1 ≤ x.op ∧ x.op ≤ 14 ∧ x.op ≠ 3) : narS x = .pair x.op x.left x.right := by
  unfold narS
  rw [if_neg (by omega), if_neg (by omega), if_neg (by omega), if_neg (by omega), if_neg (by omega), if_neg (by omega), if_pos (by omega)]
/-- a node's parts changed about -/
theorem nt_turn {x : Nd} {op' : Int} (h : trnS x.op = (op', true)) (T : List Int) : ntS ⟨op', x.right, x.left, x.field, x.num, x.text⟩ T = ntS x T := by
  obtain ⟨h1, h2⟩ := trn_pair h
  unfold ntS
  rw [nar_pair h1, nar_pair (x := ⟨op', x.right, x.left, x.field, x.num, x.text⟩) h2]
  exact pr_turn h
/-- another number, text, day, field of the same type -/
theorem nt_num {x : Nd} (h : x.op = 17) (m : Int) (T : List Int) : ntS ⟨x.op, x.left, x.right, x.field, m, x.text⟩ T = ntS x T := by
  unfold ntS narS
  simp only [h]
  rfl
theorem nt_text {x : Nd} (h : x.op = 18) (s : ByteArray) (T : List Int) : ntS ⟨x.op, x.left, x.right, x.field, x.num, s⟩ T = ntS x T := by
  unfold ntS narS
  simp only [h]
theorem nt_day {x : Nd} (h : x.op = 19) {m : Int} (h1 : dayB x.num = true) (h2 : dayB m = true) (T : List Int) : ntS ⟨x.op, x.left, x.right, x.field, m, x.text⟩ T = ntS x T := by
  unfold ntS narS
  simp only [h, h1, h2]
  rfl
theorem nt_field {x : Nd} (h : x.op = 16) {f : Int} (h1 : (fldS f).2 = (fldS x.field).2) (T : List Int) : ntS ⟨x.op, x.left, x.right, f, x.num, x.text⟩ T = ntS x T := by
  unfold ntS narS
  simp only [h, h1]
section
variable {α : Type} {K : Kd α}
theorem flat_set (h : KdOK K) : ∀ (L : List α) (k : Nat) (hk : k < L.length) (j : Nat), j < K.s → ∀ (x : α) (u : Value), K.enc x = (K.enc L[k]).set j u → (K.flat L).set (k * K.s + j) u = K.flat (L.set k x)
  | [], k, hk, _, _, _, _, _ => by simp at hk
  | r :: R, 0, _, j, hj, x, u, hx => by
    have e : K.flat (r :: R) = K.enc r ++ K.flat R := by simp [Kd.flat]
    rw [e, List.set_append_left _ _ (by rw [h.len]; omega)]
    simp only [List.set_cons_zero, Nat.zero_mul, Nat.zero_add]
    have e2 : K.flat (x :: R) = K.enc x ++ K.flat R := by simp [Kd.flat]
    rw [e2, hx]; rfl
  | r :: R, k + 1, hk, j, hj, x, u, hx => by
    have e : K.flat (r :: R) = K.enc r ++ K.flat R := by simp [Kd.flat]
    have e2 : (k + 1) * K.s + j - (K.enc r).length = k * K.s + j := by rw [h.len, Nat.add_mul, Nat.one_mul]; omega
    rw [e, List.set_append_right _ _ (by rw [h.len, Nat.add_mul, Nat.one_mul]; omega), e2, flat_set h R k (by simpa using hk) j hj x u (by simpa using hx)]
    simp only [List.set_cons_succ]
    simp [Kd.flat]
theorem row_set {w : World} {B g n cap size : Nat} {e : TypeId} {xs : List Value} (h : w.ownsRow B e size (.slice (some ⟨g, 0, none⟩) n cap) n xs) (j : Nat) (u : Value) : (w.setCell ⟨g, j, none⟩ u).ownsRow B e size (.slice (some ⟨g, 0, none⟩) n cap) n (xs.set j u) := by
  refine ⟨by rw [List.length_set]; exact h.1, ?_⟩
  rcases h.2 with ⟨h1, _⟩ | ⟨g', cap', cur, h1, hB, h2, h3, h4, h5, h6⟩
  · cases h1
  · injection h1 with h1 _ h1c
    injection h1 with h1
    injection h1 with h1
    subst h1 h1c
    refine .inr ⟨g, cap, _, rfl, hB, Go.heap_setCell_same w g j cur e u h2, h3, h4, ?_, ?_⟩
    · simpa using h5
    · rw [← h6]
      simp [List.take_set]
/-- one cell of an element written -/
theorem Rw.node (hK : KdOK K) {W wr : World} {g c n : Nat} {L : List α} (h : Rw K W wr (.slice (some ⟨g, 0, none⟩) n c) n L) {k : Nat} (hk : k < L.length) {j : Nat} (hj : j < K.s) {x : α} {u : Value} (hx : K.enc x = (K.enc L[k]).set j u) : Rw K W (wr.setCell ⟨g, k * K.s + j, none⟩ u) (.slice (some ⟨g, 0, none⟩) n c) n (L.set k x) := by
  have hr := row_set h.row (k * K.s + j) u
  rw [flat_set hK L k hk j hj x u hx] at hr
  obtain ⟨q, cc, e1, _, e3⟩ := row_slice h.row
  cases e1
  exact ⟨hr, h.bel.setCell (p := ⟨g, k * K.s + j, none⟩) (e3 _ rfl).2.2.1 _, by rw [List.length_set]; exact h.len⟩
theorem Rw.cell (hK : KdOK K) {W wr : World} {g c n : Nat} {L : List α} (h : Rw K W wr (.slice (some ⟨g, 0, none⟩) n c) n L) {k : Nat} (hk : k < L.length) {j : Nat} {v : Value} (hv : (K.enc L[k])[j]? = some v) : wr.cell? ⟨g, k * K.s + j, none⟩ = some v ∧ wr.frozen? ⟨g, k * K.s + j, none⟩ = false := by
  obtain ⟨b, o, e, _, hr⟩ := (h.lies hK).2 k hk
  cases e
  refine ⟨by have := hr j v hv; simpa using this, ?_⟩
  obtain ⟨cur, hc⟩ := row_type h (g := g) rfl
  exact froz_at hc
theorem Rw.start {W wr : World} {p : Option Addr} {c n : Nat} {L : List α} (h : Rw K W wr (.slice p n c) n L) (hn : 0 < n) : ∃ g, p = some ⟨g, 0, none⟩ ∧ W.heap.size ≤ g ∧ g < wr.heap.size ∧ ∃ cur, wr.heap[g]? = some (.cells cur K.e (0, 0)) := by
  obtain ⟨q, cc, e1, e2, e3⟩ := row_slice h.row
  cases e1
  cases p with
  | none => have := (e2 rfl).1; omega
  | some a =>
    obtain ⟨h1, h2, h3, h4⟩ := e3 a rfl
    obtain ⟨g, o, s⟩ := a
    simp only at h1 h2 h3
    subst h1 h2
    obtain ⟨cur, hc⟩ := row_type h (g := g) rfl
    exact ⟨g, rfl, h3, (Array.getElem?_eq_some_iff.1 hc).1, cur, hc⟩
/-- a row of another kind is not that block -/
theorem Rw.setT {W wr : World} {v : Value} {n j : Nat} {L : List α} {t : TypeId} {cs : Array Value} (h : Rw K W wr v n L) (hj : wr.heap[j]? = some (.cells cs t (0, 0))) (hK : K.e ≠ t) (hlo : W.heap.size ≤ j) (i : Nat) (u : Value) : Rw K W (wr.setCell ⟨j, i, none⟩ u) v n L := by
  refine ⟨row_keep h.row (fun g hg => Below.heap_setCell _ _ _ _ (fun e => ?_)), h.bel.setCell (p := ⟨j, i, none⟩) hlo _, h.len⟩
  obtain ⟨cur, hc⟩ := row_type h hg
  have e' : g = j := e
  rw [e', hj] at hc
  injection hc with hc
  injection hc with h1 h2
  exact hK h2.symm
end
/-- what a law holds: its query in a box, and a twin of it in another, perhaps with other nodes -/
structure Lw (W X : World) (q : Qy) (a : Qa) (N : List Nd) (b : Qa) (bq bp : Nat) : Prop where
  qb : X.heap[bq]? = some (.cells (qC q a).toArray 27 (0, 0))
  pb : X.heap[bp]? = some (.cells (qC (q.with N) b).toArray 27 (0, 0))
  tw : Twn W X (q.with N) b
  len : N.length = q.nodes.length
theorem Lw.bel {W X : World} {q : Qy} {a : Qa} {N : List Nd} {b : Qa} {bq bp : Nat} (h : Lw W X q a N b bq bp) : Below W.heap.size W X := h.tw.bel
theorem Lw.keep {W X X' : World} {q : Qy} {a : Qa} {N : List Nd} {b : Qa} {bq bp : Nat} (h : Lw W X q a N b bq bp) (hb : Below X.heap.size X X') : Lw W X' q a N b bq bp :=
  ⟨(hb.block _ (Array.getElem?_eq_some_iff.1 h.qb).1).trans h.qb, (hb.block _ (Array.getElem?_eq_some_iff.1 h.pb).1).trans h.pb, ⟨h.tw.n.below hb, h.tw.b.below hb, h.tw.s.below hb, h.tw.o.below hb⟩, h.len⟩
/-- a cell of the twin's node k written -/
theorem Lw.node {W X : World} {q : Qy} {a : Qa} {N : List Nd} {b : Qa} {bq bp g : Nat} (h : Lw W X q a N b bq bp) (hg : b.pN = some ⟨g, 0, none⟩) {k : Nat} (hk : k < N.length) {j : Nat} (hj : j < 6) {x : Nd} {u : Value} (hx : x.vals = (N[k]).vals.set j u) : Lw W (X.setCell ⟨g, k * 6 + j, none⟩ u) q a (N.set k x) b bq bp := by
  have hn := h.tw.n
  rw [hg] at hn
  obtain ⟨cur, hc⟩ := row_type hn (g := g) rfl
  have hlo : W.heap.size ≤ g := (row_block hn.row rfl).1
  have hne : ∀ {j' : Nat} {cs : Array Value}, X.heap[j']? = some (.cells cs 27 (0, 0)) → j' ≠ g := fun {j' cs} h1 e => by
    rw [e, hc] at h1
    injection h1 with h1
    injection h1 with h2 h3
    exact absurd h3 (by decide)
  have hL : (N.set k x).length = N.length := List.length_set
  refine ⟨(Below.heap_setCell _ _ _ _ (hne h.qb)).trans h.qb, ?_, ⟨?_, ?_, ?_, ?_⟩, by rw [hL]; exact h.len⟩
  · rw [Below.heap_setCell _ _ _ _ (hne h.pb), h.pb]
    show some (Obj.cells #[.slice b.pN N.length b.cN, _, _, _, _, _] 27 (0, 0)) = some (Obj.cells #[.slice b.pN (N.set k x).length b.cN, _, _, _, _, _] 27 (0, 0))
    rw [hL]
    rfl
  · have h9 := hn.node kN_ok hk (j := j) (x := x) (u := u) hj hx
    rw [← hg] at h9
    show Rw kN W _ (.slice b.pN (N.set k x).length b.cN) (N.set k x).length (N.set k x)
    rw [hL]
    exact h9
  · exact h.tw.b.setT hc (by decide) hlo _ _
  · exact h.tw.s.setT hc (by decide) hlo _ _
  · exact h.tw.o.setT hc (by decide) hlo _ _
end Go.Proofs.YtfpbljfebjochaaGreatDoor
