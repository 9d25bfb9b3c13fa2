import Derived.Test.YtpeohbkigkfcgaaGreatDoorGAD
set_option linter.unusedVariables false
set_option linter.unusedSimpArgs false
set_option maxRecDepth 100000
set_option maxHeartbeats 16000000
namespace Go.Proofs.YtpeohbkigkfcgaaGreatDoor
open Go Go.Shelf Go.ChangeShapes Go.WideShapes Go.ChangeAt Go.RowKit Go.Maps Go.Sort
def NoteC (W : World) (U : Nat -> Prop) (l : Fs) (xs : List Value) : Prop :=
 ∀ (i : Nat) (k : List UInt8) (x : Fl), l[i]? = some (k, x) -> ∃ p c, xs[i * 3]? = some (encStr k) /\ xs[i * 3 + 1]? = some (.slice p x.bs.length c) /\ xs[i * 3 + 2]? = some (.int .i64 (x.sy : Int)) /\ W.ownsRow 0 5 1 (.slice p x.bs.length c) x.bs.length (bcs x.bs) /\ ∀ q, (Value.slice p x.bs.length c).ownBlock = some q -> U q
structure BookIs (W : World) (U : Nat -> Prop) (v : Value) (l : Fs) (xs : List Value) : Prop where
 row : W.ownsRow 0 82 3 v l.length xs
 cs : NoteC W U l xs
 own : ∀ q, v.ownBlock = some q -> U q
 lt : ∀ q, U q -> q < W.heap.size
def BookAt (W : World) (U : Nat -> Prop) (v : Value) (l : Fs) : Prop := ∃ xs, BookIs W U v l xs
theorem BookIs.far {W W' : World} {U : Nat -> Prop} {v : Value} {l : Fs} {xs : List Value} (h : BookIs W U v l xs) (hq : ∀ q, U q -> W'.heap[q]? = W.heap[q]?) (hz : W.heap.size <= W'.heap.size) : BookIs W' U v l xs :=
 ⟨row_far h.row (fun q hq' => hq q (h.own q hq')), fun i k x hi => by
  obtain ⟨p, c, h1, h2, h3, h4, h5⟩ := h.cs i k x hi
  exact ⟨p, c, h1, h2, h3, row_far h4 (fun q hq' => hq q (h5 q hq')), h5⟩, h.own, fun q hq' => Nat.lt_of_lt_of_le (h.lt q hq') hz⟩
theorem BookAt.far {W W' : World} {U : Nat -> Prop} {v : Value} {l : Fs} (h : BookAt W U v l) (hq : ∀ q, U q -> W'.heap[q]? = W.heap[q]?) (hz : W.heap.size <= W'.heap.size) : BookAt W' U v l := by
 obtain ⟨xs, h⟩ := h
 exact ⟨xs, h.far hq hz⟩
theorem BookAt.lt {W : World} {U : Nat -> Prop} {v : Value} {l : Fs} (h : BookAt W U v l) : ∀ q, U q -> q < W.heap.size := by
 obtain ⟨xs, h⟩ := h
 exact h.lt
theorem BookAt.below {W W' : World} {U : Nat -> Prop} {v : Value} {l : Fs} (h : BookAt W U v l) (hb : Below W.heap.size W W') : BookAt W' U v l := h.far (fun q hq => hb.block q (h.lt q hq)) hb.size
theorem BookAt.form {W : World} {U : Nat -> Prop} {v : Value} {l : Fs} (h : BookAt W U v l) : ∃ p c, v = .slice p l.length c := by
 obtain ⟨xs, h⟩ := h
 rcases h.row.2 with ⟨h1, h2⟩ | ⟨g, cap, cur, h1, _⟩
 ·exact ⟨none, 0, by rw [h1, h2]⟩
 ·exact ⟨_, _, h1⟩
theorem BookAt.at {W : World} {U : Nat -> Prop} {v : Value} {l : Fs} (h : BookAt W U v l) {i : Nat} {k : List UInt8} {x : Fl} (hi : l[i]? = some (k, x)) : ∃ g cap p c, v = .slice (some ⟨g, 0, none⟩) l.length cap /\ U g /\ g < W.heap.size /\ W.cell? ⟨g, i * 3, none⟩ = some (encStr k) /\ W.cell? ⟨g, i * 3 + 1, none⟩ = some (.slice p x.bs.length c) /\ W.cell? ⟨g, i * 3 + 2, none⟩ = some (.int .i64 (x.sy : Int)) /\ (∀ j, W.frozen? ⟨g, j, none⟩ = false) /\ W.ownsRow 0 5 1 (.slice p x.bs.length c) x.bs.length (bcs x.bs) /\ (∀ q, (Value.slice p x.bs.length c).ownBlock = some q -> U q) := by
 obtain ⟨xs, h⟩ := h
 obtain ⟨p, c, h1, h2, h3, h4, h5⟩ := h.cs i k x hi
 have hpos : 0 < l.length := by
  rw [List.getElem?_eq_some_iff] at hi
  obtain ⟨hi, _⟩ := hi
  omega
 obtain ⟨g, cap, rfl⟩ := own_open h.row hpos
 have hfz : ∀ j, W.frozen? ⟨g, j, none⟩ = false := fun j => by
  rcases h.row.2 with ⟨h6, _⟩ | ⟨g', cap', cur, h6, _, h7, _⟩
  ·cases h6
  ·injection h6 with h6
   injection h6 with h6
   injection h6 with h6
   subst h6
   exact frozen_of_own h7 _
 refine ⟨g, cap, p, c, rfl, h.own g rfl, (h.row.lt g rfl).2, ?_, ?_, ?_, hfz, h4, h5⟩
 ·have := h.row.cells (g := g) rfl _ _ h1
  rw [Addr.add_mid, Nat.zero_add] at this
  exact this
 ·have := h.row.cells (g := g) rfl _ _ h2
  rw [Addr.add_mid, Nat.zero_add] at this
  exact this
 ·have := h.row.cells (g := g) rfl _ _ h3
  rw [Addr.add_mid, Nat.zero_add] at this
  exact this
def idxF (k : List UInt8) : Fs -> Nat -> Int
 | [], _ => -1
 | p :: l, i => if p.1 = k then (i : Int) else idxF k l (i + 1)
theorem idx_step {k : List UInt8} {l : Fs} {i : Nat} {p : List UInt8 × Fl} (h : l[i]? = some p) (hne : p.1 ≠ k) : idxF k (l.drop (i + 1)) (i + 1) = idxF k (l.drop i) i := by
 have hi : i < l.length := (List.getElem?_eq_some_iff.1 h).1
 rw [List.drop_eq_getElem_cons hi]
 have hp : l[i] = p := (List.getElem?_eq_some_iff.1 h).2
 rw [hp]
 rw [idxF, if_neg hne]
theorem idx_hit {k : List UInt8} {l : Fs} {i : Nat} {p : List UInt8 × Fl} (h : l[i]? = some p) (he : p.1 = k) : idxF k (l.drop i) i = (i : Int) := by
 have hi : i < l.length := (List.getElem?_eq_some_iff.1 h).1
 rw [List.drop_eq_getElem_cons hi]
 have hp : l[i] = p := (List.getElem?_eq_some_iff.1 h).2
 rw [hp]
 rw [idxF, if_pos he]
theorem info82 : (Tryz.prog.info? 82).map (fun i => (i.zero, i.size, i.bytes)) = some (some (.agg #[.string ⟨#[]⟩, .slice none 0 0, .int .i64 0]), 3, 48) := by kernel_rfl
theorem rows_apart {W : World} {b b' e e' s s' n n' : Nat} {v v' : Value} {xs xs' : List Value} (h : W.ownsRow b e s v n xs) (h' : W.ownsRow b' e' s' v' n' xs') (hne : e ≠ e') {q : Nat} (hq : v.ownBlock = some q) : v'.ownBlock ≠ some q := fun hq' => by
 rcases h.2 with ⟨rfl, _⟩ | ⟨g, cap, cur, rfl, _, h1, _⟩
 ·cases hq
 ·rcases h'.2 with ⟨rfl, _⟩ | ⟨g', cap', cur', rfl, _, h2, _⟩
  ·cases hq'
  ·simp only [Value.ownBlock, Option.some.injEq] at hq hq'
   subst hq hq'
   rw [h1] at h2
   injection h2 with h2
   injection h2 with _ h2 _
   exact hne h2
theorem NoteC.snoc {W : World} {U : Nat -> Prop} {l : Fs} {xs : List Value} (h : NoteC W U l xs) (hl : xs.length = l.length * 3) {k : List UInt8} {y : Fl} {p : Option Addr} {c : Nat} (hr : W.ownsRow 0 5 1 (.slice p y.bs.length c) y.bs.length (bcs y.bs)) (hU : ∀ q, (Value.slice p y.bs.length c).ownBlock = some q -> U q) : NoteC W U (l ++ [(k, y)]) (xs ++ [encStr k, .slice p y.bs.length c, .int .i64 (y.sy : Int)]) := by
 intro i k' x hi
 rcases Nat.lt_or_ge i l.length with hlt | hge
 ·rw [List.getElem?_append_left hlt] at hi
  obtain ⟨p1, c1, h1, h2, h3, h4⟩ := h i k' x hi
  refine ⟨p1, c1, ?_, ?_, ?_, h4⟩
  ·rw [List.getElem?_append_left (by omega)]; exact h1
  ·rw [List.getElem?_append_left (by omega)]; exact h2
  ·rw [List.getElem?_append_left (by omega)]; exact h3
 ·have hi' : i = l.length := by
   have := (List.getElem?_eq_some_iff.1 hi).1
   simp at this
   omega
  subst hi'
  rw [List.getElem?_append_right (Nat.le_refl _), Nat.sub_self] at hi
  simp only [List.getElem?_cons_zero, Option.some.injEq, Prod.mk.injEq] at hi
  obtain ⟨rfl, rfl⟩ := hi
  refine ⟨p, c, ?_, ?_, ?_, hr, hU⟩
  ·rw [List.getElem?_append_right (by omega), hl, Nat.sub_self]; rfl
  ·rw [List.getElem?_append_right (by omega), hl, show l.length * 3 + 1 - l.length * 3 = 1 by omega]; rfl
  ·rw [List.getElem?_append_right (by omega), hl, show l.length * 3 + 2 - l.length * 3 = 2 by omega]; rfl
theorem one3k (k : List UInt8) (p : Option Addr) (m c : Nat) (y : Int) : ∀ u ∈ [encStr k, .slice p m c, .int .i64 y], u.oneCell' = true := by
 intro u hu
 simp only [List.mem_cons, List.not_mem_nil, or_false] at hu
 rcases hu with rfl | rfl | rfl <;> rfl
theorem wpList_append_note {w : World} {ops : Array Oper} {rest : List Oper} {o : Oper} {a : Act} {Q : Exit -> Act -> World -> Prop} (hgd : o.guard = none) (s x : Operand)
  (ho : o.op = .call { callee := .builtin .append, args := #[s, x], argTypes := #[57, 57] })
  (v : Value) (U : Nat -> Prop) (l : Fs) (hs : a.eval s = v) (hbk : BookAt w U v l) (hl : l.length <= 100) (B c0 : Nat) (hx : a.eval x = .slice (some ⟨B, 0, none⟩) 1 c0) (k : List UInt8) (y : Fl) (p : Option Addr) (c : Nat)
  (n0 : w.cell? ⟨B, 0, none⟩ = some (encStr k)) (n1 : w.cell? ⟨B, 1, none⟩ = some (.slice p y.bs.length c)) (n2 : w.cell? ⟨B, 2, none⟩ = some (.int .i64 (y.sy : Int)))
  (hr : w.ownsRow 0 5 1 (.slice p y.bs.length c) y.bs.length (bcs y.bs)) (hU : ∀ q, (Value.slice p y.bs.length c).ownBlock = some q -> U q)
  (h : ∀ p' c' w', BookAt w' (fun q => U q \/ (Value.slice p' (l.length + 1) c').ownBlock = some q) (.slice p' (l.length + 1) c') (l ++ [(k, y)]) -> w.grownBy w' v.ownBlock -> ((Value.slice p' (l.length + 1) c').ownBlock = v.ownBlock \/ (Value.slice p' (l.length + 1) c').ownBlock = some w.heap.size) -> wpList Tryz.prog ops Q rest (a.put o.dst (.slice p' (l.length + 1) c')) w') :
  wpList Tryz.prog ops Q (o :: rest) a w := by
 obtain ⟨i0, hi, hz, hz1, hz2⟩ := info_parts info82
 obtain ⟨xs, hb⟩ := hbk
 refine wpList_append_own_at _ hgd s x 57 ho 0 82 i0 _ 3 48 Tryz.underlying57 hi hz hz1 hz2 rfl (by decide) v l.length xs hs hb.row ⟨B, 0, none⟩ 1 c0 [encStr k, .slice p y.bs.length c, .int .i64 (y.sy : Int)] hx rfl (fun j u hj => ?_) (one3k _ _ _ _ _) (by unfold maxLen; omega) (by omega) (Nat.zero_le _) (fun v' w' h4 h5 _ h6 => ?_)
 ·rw [Addr.add_mid, Nat.zero_add]
  match j, hj with
  | 0, hj => exact n0.trans hj
  | 1, hj => exact n1.trans hj
  | 2, hj => exact n2.trans hj
 ·have hv : ∃ p' c', v' = .slice p' (l.length + 1) c' := by
   rcases h4.2 with ⟨_, h8⟩ | ⟨g, cap, cur, rfl, _⟩
   ·omega
   ·exact ⟨_, _, rfl⟩
  obtain ⟨p', c', rfl⟩ := hv
  have hkeep : ∀ (p1 : Option Addr) (m1 c1 : Nat) (bs : List UInt8), w.ownsRow 0 5 1 (.slice p1 m1 c1) m1 (bcs bs) -> w'.ownsRow 0 5 1 (.slice p1 m1 c1) m1 (bcs bs) := fun p1 m1 c1 bs h7 => row_far h7 (fun q hq => h5.block q (h7.lt q hq).2 (fun e => rows_apart h7 hb.row (by decide) hq e.symm))
  refine h p' c' w' ⟨xs ++ [encStr k, .slice p y.bs.length c, .int .i64 (y.sy : Int)], ?_, ?_, fun q hq => .inr hq, fun q hq => hq.elim (fun h' => Nat.lt_of_lt_of_le (hb.lt q h') h5.size) (fun h' => (h4.lt q h').2)⟩ h5 h6
  ·rw [List.length_append]
   exact h4
  ·refine NoteC.snoc (fun i k' x hi' => ?_) hb.row.1 (hkeep _ _ _ _ hr) (fun q hq => .inl (hU q hq))
   obtain ⟨p1, c1, a1, a2, a3, a4, a5⟩ := hb.cs i k' x hi'
   exact ⟨p1, c1, a1, a2, a3, hkeep _ _ _ _ a4, fun q hq => .inl (a5 q hq)⟩
theorem BookAt.mono {W : World} {U U' : Nat -> Prop} {v : Value} {l : Fs} (h : BookAt W U v l) (hU : ∀ q, U q -> U' q) (hl : ∀ q, U' q -> q < W.heap.size) : BookAt W U' v l := by
 obtain ⟨xs, h⟩ := h
 refine ⟨xs, h.row, fun i k x hi => ?_, fun q hq => hU q (h.own q hq), hl⟩
 obtain ⟨p, c, h1, h2, h3, h4, h5⟩ := h.cs i k x hi
 exact ⟨p, c, h1, h2, h3, h4, fun q hq => hU q (h5 q hq)⟩
theorem book_nil {W : World} {U : Nat -> Prop} (hl : ∀ q, U q -> q < W.heap.size) : BookAt W U (.slice none 0 0) [] := ⟨[], World.ownsRow_nil _ _ _ _, (fun i k x hi => by simp at hi), (fun q hq => by cases hq), hl⟩
theorem row_set {w : World} {g n cap size : Nat} {e : TypeId} {xs : List Value} (h : w.ownsRow 0 e size (.slice (some ⟨g, 0, none⟩) n cap) n xs) (j : Nat) (u : Value) : (w.setCell ⟨g, j, none⟩ u).ownsRow 0 e size (.slice (some ⟨g, 0, none⟩) n cap) n (xs.set j u) := by
 refine ⟨by rw [List.length_set]; exact h.1, ?_⟩
 rcases h.2 with ⟨h1, _⟩ | ⟨g', cap', cur, h1, _, h2, h3, h4, h5, h6⟩
 ·cases h1
 ·injection h1 with h1 _ h1c
  injection h1 with h1
  injection h1 with h1
  subst h1 h1c
  refine .inr ⟨g, cap, _, rfl, Nat.zero_le _, Go.heap_setCell_same w g j cur e u h2, h3, h4, ?_, ?_⟩
  ·simpa using h5
  ·rw [<- h6]
   simp [List.take_set]
theorem NoteC.set {W : World} {U : Nat -> Prop} {l : Fs} {xs xs' : List Value} (h : NoteC W U l xs) {i : Nat} (k' : List UInt8) (x' : Fl) {p : Option Addr} {c : Nat} (h0 : xs'[i * 3]? = some (encStr k')) (h1 : xs'[i * 3 + 1]? = some (.slice p x'.bs.length c)) (h2 : xs'[i * 3 + 2]? = some (.int .i64 (x'.sy : Int))) (ho : ∀ j, j / 3 ≠ i -> xs'[j]? = xs[j]?)
  (hr : W.ownsRow 0 5 1 (.slice p x'.bs.length c) x'.bs.length (bcs x'.bs)) (hU : ∀ q, (Value.slice p x'.bs.length c).ownBlock = some q -> U q) : NoteC W U (l.set i (k', x')) xs' := by
 intro j k x hj
 rw [List.getElem?_set] at hj
 by_cases e : i = j
 ·subst e
  rw [if_pos rfl] at hj
  split at hj
  ·have hj := Option.some.inj hj
   injection hj with e1 e2
   subst e1 e2
   exact ⟨p, c, h0, h1, h2, hr, hU⟩
  ·cases hj
 ·rw [if_neg e] at hj
  obtain ⟨p1, c1, a0, a1, a2, a3⟩ := h j k x hj
  refine ⟨p1, c1, ?_, ?_, ?_, a3⟩
  ·rw [ho _ (by omega)]; exact a0
  ·rw [ho _ (by omega)]; exact a1
  ·rw [ho _ (by omega)]; exact a2
theorem NoteC.keep {W W' : World} {U : Nat -> Prop} {l : Fs} {xs : List Value} (h : NoteC W U l xs) (hk : ∀ (p1 : Option Addr) (m1 c1 : Nat) (bs : List UInt8), W.ownsRow 0 5 1 (.slice p1 m1 c1) m1 (bcs bs) -> W'.ownsRow 0 5 1 (.slice p1 m1 c1) m1 (bcs bs)) : NoteC W' U l xs := fun i k x hi => by
 obtain ⟨p, c, h1, h2, h3, h4, h5⟩ := h i k x hi
 exact ⟨p, c, h1, h2, h3, hk _ _ _ _ h4, h5⟩
theorem cell_keep {W : World} {g n cap : Nat} {xs : List Value} (hrow : W.ownsRow 0 82 3 (.slice (some ⟨g, 0, none⟩) n cap) n xs) (j : Nat) (u : Value) : ∀ (p1 : Option Addr) (m1 c1 : Nat) (bs : List UInt8), W.ownsRow 0 5 1 (.slice p1 m1 c1) m1 (bcs bs) -> (W.setCell ⟨g, j, none⟩ u).ownsRow 0 5 1 (.slice p1 m1 c1) m1 (bcs bs) := fun p1 m1 c1 bs h => row_far h (fun q hq => Below.heap_setCell _ ⟨g, j, none⟩ _ q (fun e => rows_apart h hrow (by decide) hq (by show some g = some q; rw [e])))
section
variable {W : World} {U : Nat -> Prop} {l : Fs} {g cap i : Nat} {k : List UInt8} {x : Fl}
theorem lens {xs : List Value} (h : xs.length = l.length * 3) (hi : l[i]? = some (k, x)) : i * 3 + 2 < xs.length := by
 have := (List.getElem?_eq_some_iff.1 hi).1
 omega
theorem BookAt.data (h : BookAt W U (.slice (some ⟨g, 0, none⟩) l.length cap) l) (hi : l[i]? = some (k, x)) {p : Option Addr} {c : Nat} {bs : List UInt8} (hr : W.ownsRow 0 5 1 (.slice p bs.length c) bs.length (bcs bs)) {U' : Nat -> Prop} (hU : ∀ q, U q -> U' q) (hp : ∀ q, (Value.slice p bs.length c).ownBlock = some q -> U' q) (hl : ∀ q, U' q -> q < W.heap.size) : BookAt (W.setCell ⟨g, i * 3 + 1, none⟩ (.slice p bs.length c)) U' (.slice (some ⟨g, 0, none⟩) l.length cap) (l.set i (k, ⟨bs, x.sy⟩)) := by
 obtain ⟨xs, h⟩ := h.mono hU hl
 have hlen := lens h.row.1 hi
 obtain ⟨p0, c0, a0, a1, a2, _⟩ := h.cs i k x hi
 refine ⟨xs.set (i * 3 + 1) (.slice p bs.length c), by rw [List.length_set]; exact row_set h.row _ _, ?_, h.own, fun q hq => by simpa using h.lt q hq⟩
 refine NoteC.set (h.cs.keep (cell_keep h.row _ _)) k ⟨bs, x.sy⟩ (p := p) (c := c) ?_ ?_ ?_ (fun j hj => ?_) (cell_keep h.row _ _ _ _ _ _ hr) hp
 ·rw [List.getElem?_set_ne (by omega)]; exact a0
 ·rw [List.getElem?_set_self (by omega)]
 ·rw [List.getElem?_set_ne (by omega)]; exact a2
 ·rw [List.getElem?_set_ne (by omega)]
theorem BookAt.sync (h : BookAt W U (.slice (some ⟨g, 0, none⟩) l.length cap) l) (hi : l[i]? = some (k, x)) (m : Nat) : BookAt (W.setCell ⟨g, i * 3 + 2, none⟩ (.int .i64 (m : Int))) U (.slice (some ⟨g, 0, none⟩) l.length cap) (l.set i (k, ⟨x.bs, m⟩)) := by
 obtain ⟨xs, h⟩ := h
 have hlen := lens h.row.1 hi
 obtain ⟨p0, c0, a0, a1, a2, a3, a4⟩ := h.cs i k x hi
 refine ⟨xs.set (i * 3 + 2) (.int .i64 (m : Int)), by rw [List.length_set]; exact row_set h.row _ _, ?_, h.own, fun q hq => by simpa using h.lt q hq⟩
 refine NoteC.set (h.cs.keep (cell_keep h.row _ _)) k ⟨x.bs, m⟩ (p := p0) (c := c0) ?_ ?_ ?_ (fun j hj => ?_) (cell_keep h.row _ _ _ _ _ _ a3) a4
 ·rw [List.getElem?_set_ne (by omega)]; exact a0
 ·rw [List.getElem?_set_ne (by omega)]; exact a1
 ·rw [List.getElem?_set_self (by omega)]
 ·rw [List.getElem?_set_ne (by omega)]
end
def BytesIn (W : World) (u : Value) (bs : List UInt8) : Prop :=
 (u = .slice none 0 0 /\ bs = []) \/ ∃ a c, u = .slice (some a) bs.length c /\ ∀ j u, (bcs bs)[j]? = some u -> W.cell? (a.add j) = some u
theorem BytesIn.below {W W' : World} {u : Value} {bs : List UInt8} (h : BytesIn W u bs) (hb : Below W.heap.size W W') : BytesIn W' u bs := by
 rcases h with h | ⟨a, c, rfl, h⟩
 ·exact .inl h
 ·refine .inr ⟨a, c, rfl, fun j u hj => ?_⟩
  have h1 := h j u hj
  exact (hb.cell (p := a.add j) (World.block_lt_of_cell? W _ h1)).trans h1
theorem BytesAt.in {W : World} {u : Value} {bs : List UInt8} (h : BytesAt W u bs) : BytesIn W u bs := by
 rcases h with h | ⟨b, off, c, rfl, h⟩
 ·exact .inl h
 ·exact .inr ⟨⟨b, off, none⟩, c, rfl, fun j u hj => by rw [Addr.add_mid]; exact h j u hj⟩
theorem encStr_data (T : ByteArray) : encStr T.data.toList = .string T := by
 show Value.string ⟨T.data.toList.toArray⟩ = _
 rw [Array.toArray_toList]
theorem app_below {w w' : World} {v u : Value} {B : Nat} (hg : (u.ownBlock = v.ownBlock /\ w.grownBy w' v.ownBlock) \/ (u.ownBlock = some w.heap.size /\ w.grownBy w' none)) (hv : ∀ q, v.ownBlock = some q -> B <= q) (hB : B <= w.heap.size) : Below B w w' /\ ∀ q, u.ownBlock = some q -> B <= q := by
 rcases hg with ⟨h1, h2⟩ | ⟨h1, h2⟩
 ·exact ⟨⟨h2.os, h2.tape, h2.output, h2.size, fun k hk => h2.block k (by omega) (fun e => by have := hv k e.symm; omega)⟩, fun q hq => hv q (by rw [<- h1]; exact hq)⟩
 ·exact ⟨⟨h2.os, h2.tape, h2.output, h2.size, fun k hk => h2.block k (by omega) (by simp)⟩, fun q hq => by rw [h1] at hq; simp only [Option.some.injEq] at hq; omega⟩
theorem rname_ok (s : ByteArray) (hs : s.size <= 9223372036854775806) (w : World) : Calls Tryz.prog 201 #[.string s] w fun e w' => e = .returned (.bool (nameS s)) /\ w' = w := by
 by_cases h0 : s.size = 0
 ·have i1 : (s.size : Int) < 1 := by omega
  have hv : nameS s = false := by simp [nameS]; omega
  rw [hv]
  go_enter Tryz.func201, Tryz.ntmps201
  go_wp2_with fail
  go_ret
  exact ⟨rfl, rfl⟩
 ·have i1 : ¬ (s.size : Int) < 1 := by omega
  by_cases h40 : s.size <= 40
  ·have i2 : ¬ (40 : Int) < (s.size : Int) := by omega
   go_enter Tryz.func201, Tryz.ntmps201
   go_wp2_with fail
   go_loopw [3] (fun v wr => ∃ k : Nat, v = .int .i64 (k : Int) /\ k <= s.size /\ wr = w /\ ∀ j, j < k -> nameB (bsN s j) = true) (fun v _ => s.size - (intOf v).toNat)
   case atStart => exact ⟨0, rfl, by omega, rfl, fun j hj => by omega⟩
   case round =>
    obtain ⟨k, rfl, hk, hwr, hall⟩ := hrel
    subst hwr
    have HA := hide hall
    clear hall
    by_cases hlt : k < s.size
    ·have j1 : (k : Int) < (s.size : Int) := by omega
     have j2 : (0 : Int) <= (k : Int) := by omega
     have hb : s[k].toNat = bsN s k := by
      unfold bsN
      have h1 : k < s.data.toList.length := by simpa using hlt
      rw [List.getD_eq_getElem?_getD, List.getElem?_eq_getElem h1]
      rfl
     have hb2 : bsN s k < 256 := by rw [<- hb]; exact s[k].toNat_lt
     obtain ⟨c, hc⟩ : ∃ c, bsN s k = c := ⟨_, rfl⟩
     rw [hc] at hb hb2
     have HC := hide hc
     clear hc
     have hcs : (c < 45) \/ (c = 45) \/ (c = 46) \/ (c = 47) \/ (48 <= c /\ c <= 57) \/ (58 <= c /\ c <= 94) \/ (c = 95) \/ (c = 96) \/ (97 <= c /\ c <= 122) \/ (123 <= c) := by omega
     rcases hcs with hcc | hcc | hcc | hcc | hcc | hcc | hcc | hcc | hcc | hcc
     ·have x1 : ¬ (97 : Int) <= (c : Int) := by omega
      have x2 : (c : Int) <= (122 : Int) := by omega
      have x3 : ¬ (48 : Int) <= (c : Int) := by omega
      have x4 : (c : Int) <= (57 : Int) := by omega
      have x5 : ¬ (c : Int) = 46 := by omega
      have x5n : ¬ c = 46 := by omega
      have x5b : (c == 46) = false := by simp; omega
      have x5q : ((c : Int) != 46) = true := by simp; omega
      have x6 : ¬ (c : Int) = 45 := by omega
      have x6n : ¬ c = 45 := by omega
      have x6b : (c == 45) = false := by simp; omega
      have x6q : ((c : Int) != 45) = true := by simp; omega
      have x7 : ¬ (c : Int) = 95 := by omega
      have x7n : ¬ c = 95 := by omega
      have x7b : (c == 95) = false := by simp; omega
      have x7q : ((c : Int) != 95) = true := by simp; omega
      go_wp2_with fail
      go_ret
      rw [nameS_bad hlt (by rw [uh HC]; first | (simp [nameB]; done) | (simp [nameB]; omega))]
      exact ⟨rfl, rfl⟩
     ·have x1 : ¬ (97 : Int) <= (c : Int) := by omega
      have x2 : (c : Int) <= (122 : Int) := by omega
      have x3 : ¬ (48 : Int) <= (c : Int) := by omega
      have x4 : (c : Int) <= (57 : Int) := by omega
      have x5 : ¬ (c : Int) = 46 := by omega
      have x5n : ¬ c = 46 := by omega
      have x5b : (c == 46) = false := by simp; omega
      have x5q : ((c : Int) != 46) = true := by simp; omega
      have x6 : (c : Int) = 45 := by omega
      have x7 : ¬ (c : Int) = 95 := by omega
      have x7n : ¬ c = 95 := by omega
      have x7b : (c == 95) = false := by simp; omega
      have x7q : ((c : Int) != 95) = true := by simp; omega
      subst hcc
      go_wp2_with fail
      refine ⟨⟨k + 1, by go_num, by omega, trivial, fun j hj => ?_⟩, by simp [intOf]; omega⟩
      by_cases e : j = k
      ·rw [e, uh HC]
       first
        | (simp [nameB]; done)
        | (simp [nameB]; omega)
      ·exact uh HA j (by omega)
     ·have x1 : ¬ (97 : Int) <= (c : Int) := by omega
      have x2 : (c : Int) <= (122 : Int) := by omega
      have x3 : ¬ (48 : Int) <= (c : Int) := by omega
      have x4 : (c : Int) <= (57 : Int) := by omega
      have x5 : (c : Int) = 46 := by omega
      have x6 : ¬ (c : Int) = 45 := by omega
      have x6n : ¬ c = 45 := by omega
      have x6b : (c == 45) = false := by simp; omega
      have x6q : ((c : Int) != 45) = true := by simp; omega
      have x7 : ¬ (c : Int) = 95 := by omega
      have x7n : ¬ c = 95 := by omega
      have x7b : (c == 95) = false := by simp; omega
      have x7q : ((c : Int) != 95) = true := by simp; omega
      subst hcc
      go_wp2_with fail
      refine ⟨⟨k + 1, by go_num, by omega, trivial, fun j hj => ?_⟩, by simp [intOf]; omega⟩
      by_cases e : j = k
      ·rw [e, uh HC]
       first
        | (simp [nameB]; done)
        | (simp [nameB]; omega)
      ·exact uh HA j (by omega)
     ·have x1 : ¬ (97 : Int) <= (c : Int) := by omega
      have x2 : (c : Int) <= (122 : Int) := by omega
      have x3 : ¬ (48 : Int) <= (c : Int) := by omega
      have x4 : (c : Int) <= (57 : Int) := by omega
      have x5 : ¬ (c : Int) = 46 := by omega
      have x5n : ¬ c = 46 := by omega
      have x5b : (c == 46) = false := by simp; omega
      have x5q : ((c : Int) != 46) = true := by simp; omega
      have x6 : ¬ (c : Int) = 45 := by omega
      have x6n : ¬ c = 45 := by omega
      have x6b : (c == 45) = false := by simp; omega
      have x6q : ((c : Int) != 45) = true := by simp; omega
      have x7 : ¬ (c : Int) = 95 := by omega
      have x7n : ¬ c = 95 := by omega
      have x7b : (c == 95) = false := by simp; omega
      have x7q : ((c : Int) != 95) = true := by simp; omega
      subst hcc
      go_wp2_with fail
      go_ret
      rw [nameS_bad hlt (by rw [uh HC]; first | (simp [nameB]; done) | (simp [nameB]; omega))]
      exact ⟨rfl, rfl⟩
     ·have x1 : ¬ (97 : Int) <= (c : Int) := by omega
      have x2 : (c : Int) <= (122 : Int) := by omega
      have x3 : (48 : Int) <= (c : Int) := by omega
      have x4 : (c : Int) <= (57 : Int) := by omega
      have x5 : ¬ (c : Int) = 46 := by omega
      have x5n : ¬ c = 46 := by omega
      have x5b : (c == 46) = false := by simp; omega
      have x5q : ((c : Int) != 46) = true := by simp; omega
      have x6 : ¬ (c : Int) = 45 := by omega
      have x6n : ¬ c = 45 := by omega
      have x6b : (c == 45) = false := by simp; omega
      have x6q : ((c : Int) != 45) = true := by simp; omega
      have x7 : ¬ (c : Int) = 95 := by omega
      have x7n : ¬ c = 95 := by omega
      have x7b : (c == 95) = false := by simp; omega
      have x7q : ((c : Int) != 95) = true := by simp; omega
      go_wp2_with fail
      refine ⟨⟨k + 1, by go_num, by omega, trivial, fun j hj => ?_⟩, by simp [intOf]; omega⟩
      by_cases e : j = k
      ·rw [e, uh HC]
       first
        | (simp [nameB]; done)
        | (simp [nameB]; omega)
      ·exact uh HA j (by omega)
     ·have x1 : ¬ (97 : Int) <= (c : Int) := by omega
      have x2 : (c : Int) <= (122 : Int) := by omega
      have x3 : (48 : Int) <= (c : Int) := by omega
      have x4 : ¬ (c : Int) <= (57 : Int) := by omega
      have x5 : ¬ (c : Int) = 46 := by omega
      have x5n : ¬ c = 46 := by omega
      have x5b : (c == 46) = false := by simp; omega
      have x5q : ((c : Int) != 46) = true := by simp; omega
      have x6 : ¬ (c : Int) = 45 := by omega
      have x6n : ¬ c = 45 := by omega
      have x6b : (c == 45) = false := by simp; omega
      have x6q : ((c : Int) != 45) = true := by simp; omega
      have x7 : ¬ (c : Int) = 95 := by omega
      have x7n : ¬ c = 95 := by omega
      have x7b : (c == 95) = false := by simp; omega
      have x7q : ((c : Int) != 95) = true := by simp; omega
      go_wp2_with fail
      go_ret
      rw [nameS_bad hlt (by rw [uh HC]; first | (simp [nameB]; done) | (simp [nameB]; omega))]
      exact ⟨rfl, rfl⟩
     ·have x1 : ¬ (97 : Int) <= (c : Int) := by omega
      have x2 : (c : Int) <= (122 : Int) := by omega
      have x3 : (48 : Int) <= (c : Int) := by omega
      have x4 : ¬ (c : Int) <= (57 : Int) := by omega
      have x5 : ¬ (c : Int) = 46 := by omega
      have x5n : ¬ c = 46 := by omega
      have x5b : (c == 46) = false := by simp; omega
      have x5q : ((c : Int) != 46) = true := by simp; omega
      have x6 : ¬ (c : Int) = 45 := by omega
      have x6n : ¬ c = 45 := by omega
      have x6b : (c == 45) = false := by simp; omega
      have x6q : ((c : Int) != 45) = true := by simp; omega
      have x7 : (c : Int) = 95 := by omega
      subst hcc
      go_wp2_with fail
      refine ⟨⟨k + 1, by go_num, by omega, trivial, fun j hj => ?_⟩, by simp [intOf]; omega⟩
      by_cases e : j = k
      ·rw [e, uh HC]
       first
        | (simp [nameB]; done)
        | (simp [nameB]; omega)
      ·exact uh HA j (by omega)
     ·have x1 : ¬ (97 : Int) <= (c : Int) := by omega
      have x2 : (c : Int) <= (122 : Int) := by omega
      have x3 : (48 : Int) <= (c : Int) := by omega
      have x4 : ¬ (c : Int) <= (57 : Int) := by omega
      have x5 : ¬ (c : Int) = 46 := by omega
      have x5n : ¬ c = 46 := by omega
      have x5b : (c == 46) = false := by simp; omega
      have x5q : ((c : Int) != 46) = true := by simp; omega
      have x6 : ¬ (c : Int) = 45 := by omega
      have x6n : ¬ c = 45 := by omega
      have x6b : (c == 45) = false := by simp; omega
      have x6q : ((c : Int) != 45) = true := by simp; omega
      have x7 : ¬ (c : Int) = 95 := by omega
      have x7n : ¬ c = 95 := by omega
      have x7b : (c == 95) = false := by simp; omega
      have x7q : ((c : Int) != 95) = true := by simp; omega
      subst hcc
      go_wp2_with fail
      go_ret
      rw [nameS_bad hlt (by rw [uh HC]; first | (simp [nameB]; done) | (simp [nameB]; omega))]
      exact ⟨rfl, rfl⟩
     ·have x1 : (97 : Int) <= (c : Int) := by omega
      have x2 : (c : Int) <= (122 : Int) := by omega
      have x3 : (48 : Int) <= (c : Int) := by omega
      have x4 : ¬ (c : Int) <= (57 : Int) := by omega
      have x5 : ¬ (c : Int) = 46 := by omega
      have x5n : ¬ c = 46 := by omega
      have x5b : (c == 46) = false := by simp; omega
      have x5q : ((c : Int) != 46) = true := by simp; omega
      have x6 : ¬ (c : Int) = 45 := by omega
      have x6n : ¬ c = 45 := by omega
      have x6b : (c == 45) = false := by simp; omega
      have x6q : ((c : Int) != 45) = true := by simp; omega
      have x7 : ¬ (c : Int) = 95 := by omega
      have x7n : ¬ c = 95 := by omega
      have x7b : (c == 95) = false := by simp; omega
      have x7q : ((c : Int) != 95) = true := by simp; omega
      go_wp2_with fail
      refine ⟨⟨k + 1, by go_num, by omega, trivial, fun j hj => ?_⟩, by simp [intOf]; omega⟩
      by_cases e : j = k
      ·rw [e, uh HC]
       first
        | (simp [nameB]; done)
        | (simp [nameB]; omega)
      ·exact uh HA j (by omega)
     ·have x1 : (97 : Int) <= (c : Int) := by omega
      have x2 : ¬ (c : Int) <= (122 : Int) := by omega
      have x3 : (48 : Int) <= (c : Int) := by omega
      have x4 : ¬ (c : Int) <= (57 : Int) := by omega
      have x5 : ¬ (c : Int) = 46 := by omega
      have x5n : ¬ c = 46 := by omega
      have x5b : (c == 46) = false := by simp; omega
      have x5q : ((c : Int) != 46) = true := by simp; omega
      have x6 : ¬ (c : Int) = 45 := by omega
      have x6n : ¬ c = 45 := by omega
      have x6b : (c == 45) = false := by simp; omega
      have x6q : ((c : Int) != 45) = true := by simp; omega
      have x7 : ¬ (c : Int) = 95 := by omega
      have x7n : ¬ c = 95 := by omega
      have x7b : (c == 95) = false := by simp; omega
      have x7q : ((c : Int) != 95) = true := by simp; omega
      go_wp2_with fail
      go_ret
      rw [nameS_bad hlt (by rw [uh HC]; first | (simp [nameB]; done) | (simp [nameB]; omega))]
      exact ⟨rfl, rfl⟩
    ·have j1 : ¬ (k : Int) < (s.size : Int) := by omega
     have hk' : k = s.size := by omega
     go_wp2_with fail
     go_ret
     rw [nameS_good (by omega) h40 (fun j hj => uh HA j (by omega))]
     exact ⟨rfl, rfl⟩
  ·have i2 : (40 : Int) < (s.size : Int) := by omega
   have hv : nameS s = false := by simp [nameS]; omega
   rw [hv]
   go_enter Tryz.func201, Tryz.ntmps201
   go_wp2_with fail
   go_ret
   exact ⟨rfl, rfl⟩
structure RefIs (W : World) (r : Nat) (K : Dk) (V V0 : Nat -> Prop) (v : Value) : Prop where
 c0 : W.cell? ⟨r, 0, none⟩ = some (.int .i64 K.cap)
 c1 : W.cell? ⟨r, 1, none⟩ = some v
 c2 : W.cell? ⟨r, 2, none⟩ = some (.int .i64 K.fuse)
 c3 : W.cell? ⟨r, 3, none⟩ = some (.bool K.down)
 fz : ∀ j, W.frozen? ⟨r, j, none⟩ = false
 bk : BookAt W V0 v K.A
 sub : ∀ q, V0 q -> V q
 out : ¬ V0 r
 vr : V r
 vl : ∀ q, V q -> q < W.heap.size
def RefOK (W : World) (r : Nat) (K : Dk) (V : Nat -> Prop) : Prop := ∃ V0 v, RefIs W r K V V0 v
theorem RefIs.far {W W' : World} {r : Nat} {K : Dk} {V V0 : Nat -> Prop} {v : Value} (h : RefIs W r K V V0 v) (hq : ∀ q, V q -> W'.heap[q]? = W.heap[q]?) (hz : W.heap.size <= W'.heap.size) : RefIs W' r K V V0 v :=
 ⟨(World.cell?_of_block (a := ⟨r, 0, none⟩) (hq r h.vr)).trans h.c0, (World.cell?_of_block (a := ⟨r, 1, none⟩) (hq r h.vr)).trans h.c1, (World.cell?_of_block (a := ⟨r, 2, none⟩) (hq r h.vr)).trans h.c2, (World.cell?_of_block (a := ⟨r, 3, none⟩) (hq r h.vr)).trans h.c3, fun j => (World.frozen?_of_block (a := ⟨r, j, none⟩) (hq r h.vr)).trans (h.fz j), h.bk.far (fun q hq' => hq q (h.sub q hq')) hz, h.sub, h.out, h.vr, fun q hq' => Nat.lt_of_lt_of_le (h.vl q hq') hz⟩
theorem RefOK.below {W W' : World} {r : Nat} {K : Dk} {V : Nat -> Prop} (h : RefOK W r K V) (hb : Below W.heap.size W W') : RefOK W' r K V := by
 obtain ⟨V0, v, h⟩ := h
 exact ⟨V0, v, h.far (fun q hq => hb.block q (h.vl q hq)) hb.size⟩
theorem RefOK.sep {W W' : World} {r : Nat} {K : Dk} {V S S' : Nat -> Prop} (h : RefOK W r K V) (hs : Sep W W' S S') (hd : ∀ q, V q -> ¬ S q) : RefOK W' r K V := by
 obtain ⟨V0, v, h⟩ := h
 exact ⟨V0, v, h.far (fun q hq => hs.block q (h.vl q hq) (hd q hq)) hs.size⟩
theorem ref_ne {W : World} {r : Nat} {K : Dk} {V V0 : Nat -> Prop} {v : Value} (h : RefIs W r K V V0 v) : ∀ q, V0 q -> q ≠ r := fun q hq e => h.out (by rw [<- e]; exact hq)
theorem BookAt.cell {W : World} {V0 : Nat -> Prop} {v : Value} {l : Fs} {r j : Nat} (h : BookAt W V0 v l) (hr : ∀ q, V0 q -> q ≠ r) (u : Value) : BookAt (W.setCell ⟨r, j, none⟩ u) V0 v l := h.far (fun q hq => Below.heap_setCell _ ⟨r, j, none⟩ _ q (hr q hq)) (by simp)
theorem other_cell {W : World} {r j i : Nat} {u v : Value} (h : W.cell? ⟨r, i, none⟩ = some v) (hne : j ≠ i) : (W.setCell ⟨r, j, none⟩ u).cell? ⟨r, i, none⟩ = some v := by
 rw [World.cell?_setCell_other _ _ _ _ (fun e => hne (by injection e))]
 exact h
theorem RefIs.fuse {W : World} {r : Nat} {K : Dk} {V V0 : Nat -> Prop} {v : Value} (h : RefIs W r K V V0 v) (x : Int) : RefIs (W.setCell ⟨r, 2, none⟩ (.int .i64 x)) r { K with fuse := x } V V0 v :=
 ⟨other_cell h.c0 (by decide), other_cell h.c1 (by decide), World.cell?_setCell_same _ _ _ h.c2, other_cell h.c3 (by decide), fun j => by rw [World.frozen?_setCell]; exact h.fz j, h.bk.cell (ref_ne h) _, h.sub, h.out, h.vr, fun q hq => by simpa using h.vl q hq⟩
theorem RefIs.downs {W : World} {r : Nat} {K : Dk} {V V0 : Nat -> Prop} {v : Value} (h : RefIs W r K V V0 v) (x : Bool) : RefIs (W.setCell ⟨r, 3, none⟩ (.bool x)) r { K with down := x } V V0 v :=
 ⟨other_cell h.c0 (by decide), other_cell h.c1 (by decide), other_cell h.c2 (by decide), World.cell?_setCell_same _ _ _ h.c3, fun j => by rw [World.frozen?_setCell]; exact h.fz j, h.bk.cell (ref_ne h) _, h.sub, h.out, h.vr, fun q hq => by simpa using h.vl q hq⟩
theorem RefIs.files {W : World} {r : Nat} {K : Dk} {V V0 V1 V' : Nat -> Prop} {v v' : Value} {A' : Fs} (h : RefIs W r K V V0 v) (hb : BookAt W V1 v' A') (ho : ¬ V1 r) (hs : ∀ q, V1 q -> V' q) (hr : V' r) (hl : ∀ q, V' q -> q < W.heap.size) : RefIs (W.setCell ⟨r, 1, none⟩ v') r { K with A := A' } V' V1 v' :=
 ⟨other_cell h.c0 (by decide), World.cell?_setCell_same _ _ _ h.c1, other_cell h.c2 (by decide), other_cell h.c3 (by decide), fun j => by rw [World.frozen?_setCell]; exact h.fz j, hb.cell (fun q hq e => ho (by rw [<- e]; exact hq)) _, hs, ho, hr, fun q hq => by simpa using hl q hq⟩
theorem rat_ok {w : World} {r : Nat} {K : Dk} {V : Nat -> Prop} (h : RefOK w r K V) (hl : K.A.length <= 100) (s : ByteArray) :
  Calls Tryz.prog 202 #[.pointer (some ⟨r, 0, none⟩), .string s] w fun e w' => e = .returned (.int .i64 (idxF s.data.toList K.A 0)) /\ w' = w := by
 obtain ⟨V0, v, h⟩ := h
 obtain ⟨pa, ca, rfl⟩ := h.bk.form
 obtain ⟨l, hld⟩ : ∃ l, l = K.A := ⟨_, rfl⟩
 obtain ⟨L, hL⟩ : ∃ L, L = l.length := ⟨_, rfl⟩
 have c1 := h.c1
 have HA := hide h.bk
 rw [<- hld] at c1 HA hl ⊢
 rw [<- hL] at c1 hl HA
 have HL := hide hL
 clear hL h hld
 go_enter Tryz.func202, Tryz.ntmps202
 go_wp2_with fail
 go_loopw [5] (fun u wr => ∃ i : Nat, i <= L /\ u = .int .i64 (i : Int) /\ wr = w /\ idxF s.data.toList (l.drop i) i = idxF s.data.toList l 0) (fun u _ => L - (intOf u).toNat)
 case atStart => exact ⟨0, Nat.zero_le _, rfl, rfl, by rw [List.drop_zero]⟩
 case round =>
  obtain ⟨i, hi, rfl, rfl, hidx⟩ := hrel
  have HIX := hide hidx
  by_cases hlt : i < L
  ·have hkx : ∃ k x, l[i]? = some (k, x) := by
    have : i < l.length := by rw [<- uh HL]; exact hlt
    exact ⟨_, _, List.getElem?_eq_getElem this⟩
   obtain ⟨k, x, hkx⟩ := hkx
   obtain ⟨g, ca', p, c, ev, _, hg, a0, _⟩ := (uh HA).at hkx
   injection ev with ev eL ev3
   subst ev ev3
   clear eL
   have i0 : (0 : Int) <= (i : Int) := by omega
   have i1 : (i : Int) < (L : Int) := by omega
   by_cases hk : k = s.data.toList
   ·have hss : (k == s.toList) = true := by rw [ByteArray.toList_eq, hk]; simp
    have hres := idx_hit hkx hk
    rw [uh HIX] at hres
    have HR := hide hres
    clear hidx hk hres hkx
    go_wp2_with fail
    go_ret
    rw [uh HR]
    exact ⟨rfl, rfl⟩
   ·have hss : (k == s.toList) = false := by
     rw [ByteArray.toList_eq]
     simpa using hk
    have hres := idx_step hkx hk
    rw [uh HIX] at hres
    have HR := hide hres
    clear hidx hk hres hkx
    go_wp2_with fail
    exact ⟨⟨i + 1, by omega, by go_num, trivial, uh HR⟩, by simp [intOf]; omega⟩
  ·have j1 : ¬ (i : Int) < (L : Int) := by omega
   have hd : l.drop i = [] := List.drop_eq_nil_of_le (by rw [<- uh HL]; omega)
   rw [hd] at hidx
   have HR : Hid (idxF s.data.toList l 0 = -1) := hidx.symm
   clear hidx hd
   go_wp2_with fail
   go_ret
   rw [uh HR]
   exact ⟨rfl, rfl⟩
def powK (K : Dk) : Dk × Bool := if K.fuse = 0 then ({ K with fuse := -1, down := true }, false) else ({ K with fuse := if 0 < K.fuse then K.fuse - 1 else K.fuse }, true)
theorem rpower_ok {w : World} {r : Nat} {K : Dk} {V V0 : Nat -> Prop} {v : Value} (h : RefIs w r K V V0 v) (hf : K.fuse <= 9223372036854775807) (hf0 : -9223372036854775808 <= K.fuse) :
  Calls Tryz.prog 203 #[.pointer (some ⟨r, 0, none⟩)] w fun e w' => e = .returned (.bool (powK K).2) /\ RefIs w' r (powK K).1 V V0 v /\ Sep w w' V V := by
 have c2 := h.c2
 have c3 := h.c3
 have f2 := h.fz 2
 have f3 := h.fz 3
 obtain ⟨fu, hfd⟩ : ∃ fu, fu = K.fuse := ⟨_, rfl⟩
 rw [<- hfd] at c2 hf hf0
 by_cases h0 : fu = 0
 ·have hp : powK K = ({ K with fuse := -1, down := true }, false) := by unfold powK; rw [if_pos (by rw [<- hfd]; exact h0)]
  rw [hp]
  subst h0
  have o2 := fun u => other_cell (u := u) (j := 3) c2 (by decide)
  have HH := hide h
  clear h hp hfd
  go_enter Tryz.func203, Tryz.ntmps203
  go_wp2_with fail
  go_ret
  refine ⟨rfl, ?_, (Sep.cell w V r 3 _ (uh HH).vr).trans (Sep.cell _ V r 2 _ (uh HH).vr)⟩
  exact ((uh HH).downs true).fuse (-1)
 ·by_cases hp0 : 0 < fu
  ·have hp : powK K = ({ K with fuse := fu - 1 }, true) := by unfold powK; rw [if_neg (by rw [<- hfd]; exact h0), if_pos (by rw [<- hfd]; exact hp0), hfd]
   rw [hp]
   have HH := hide h
   clear h hp hfd
   go_enter Tryz.func203, Tryz.ntmps203
   go_wp2_with fail
   go_ret
   exact ⟨rfl, (uh HH).fuse (fu - 1), Sep.cell w V r 2 _ (uh HH).vr⟩
  ·have hp : powK K = (K, true) := by
    unfold powK
    rw [if_neg (by rw [<- hfd]; exact h0), if_neg (by rw [<- hfd]; exact hp0)]
   rw [hp]
   have HH := hide h
   clear h hp hfd
   go_enter Tryz.func203, Tryz.ntmps203
   go_wp2_with fail
   go_ret
   exact ⟨rfl, uh HH, Sep.refl _ _⟩
theorem er_eq {l : Fs} {i a : Nat} {p : List UInt8 × Fl} (h : l[i]? = some p) (e : i = a) : (l.take (i + 1)).eraseIdx a = (l.take i).eraseIdx a := by
 have hi := (List.getElem?_eq_some_iff.1 h).1
 have hl : (l.take i).length = i := by rw [List.length_take]; omega
 rw [List.take_add_one, h, List.eraseIdx_append_of_length_le (by omega), List.eraseIdx_of_length_le (show (l.take i).length <= a by omega), hl, e, Nat.sub_self]
 simp
theorem er_ne {l : Fs} {i a : Nat} {p : List UInt8 × Fl} (h : l[i]? = some p) (e : i ≠ a) : (l.take (i + 1)).eraseIdx a = (l.take i).eraseIdx a ++ [p] := by
 have hi := (List.getElem?_eq_some_iff.1 h).1
 have hl : (l.take i).length = i := by rw [List.length_take]; omega
 rw [List.take_add_one, h]
 by_cases ha : a < i
 ·rw [List.eraseIdx_append_of_lt_length (by omega)]
  rfl
 ·rw [List.eraseIdx_append_of_length_le (by omega), List.eraseIdx_of_length_le (show (l.take i).length <= a by omega), hl]
  congr 1
  exact List.eraseIdx_of_length_le (by simp; omega)
def thereK (s : ByteArray) (K : Dk) : Int × Int := if nameS s = false then (0, 32) else if idxF s.data.toList K.A 0 < 0 then (0, 31) else (idxF s.data.toList K.A 0, 0)
theorem rthere_ok {w : World} {r : Nat} {K : Dk} {V : Nat -> Prop} (h : RefOK w r K V) (hl : K.A.length <= 100) (s : ByteArray) (hs : s.size <= 9223372036854775806) :
  Calls Tryz.prog 205 #[.pointer (some ⟨r, 0, none⟩), .string s] w fun e w' => e = .returned (.tuple #[.int .i64 (thereK s K).1, .int .i64 (thereK s K).2]) /\ w' = w := by
 have HA := hide (rat_ok h hl s)
 have HN := hide (rname_ok s hs w)
 cases hn : nameS s with
 | false =>
  have hT : thereK s K = (0, 32) := by unfold thereK; rw [if_pos hn]
  rw [hT]
  clear h
  go_enter Tryz.func205, Tryz.ntmps205
  go_wp2_with (first | (go_at_call 201; refine (uh HN).mono ?_; rintro e w1 ⟨rfl, hw⟩; rw [hw, hn]; clear hw w1))
  go_ret2
  exact ⟨rfl, rfl⟩
 | true =>
  obtain ⟨x, hx⟩ : ∃ x, x = idxF s.data.toList K.A 0 := ⟨_, rfl⟩
  by_cases h0 : x < 0
  ·have hT : thereK s K = (0, 31) := by unfold thereK; rw [if_neg (by rw [hn]; simp), if_pos (by rw [<- hx]; exact h0)]
   rw [hT]
   rw [<- hx] at HA
   clear h hx hT
   go_enter Tryz.func205, Tryz.ntmps205
   go_wp2_with (first | (go_at_call 201; refine (uh HN).mono ?_; rintro e w1 ⟨rfl, hw⟩; rw [hw, hn]; clear hw w1) | (go_at_call 202; refine (uh HA).mono ?_; rintro e w1 ⟨rfl, hw⟩; rw [hw]; clear hw w1))
   go_ret2
   exact ⟨rfl, rfl⟩
  ·have hT : thereK s K = (x, 0) := by unfold thereK; rw [if_neg (by rw [hn]; simp), if_neg (by rw [<- hx]; exact h0), hx]
   rw [hT]
   rw [<- hx] at HA
   clear h hx hT
   go_enter Tryz.func205, Tryz.ntmps205
   go_wp2_with (first | (go_at_call 201; refine (uh HN).mono ?_; rintro e w1 ⟨rfl, hw⟩; rw [hw, hn]; clear hw w1) | (go_at_call 202; refine (uh HA).mono ?_; rintro e w1 ⟨rfl, hw⟩; rw [hw]; clear hw w1))
   go_ret2
   exact ⟨rfl, rfl⟩
theorem rwithout_ok {w : World} {U : Nat -> Prop} {v : Value} {l : Fs} (h : BookAt w U v l) (hl : l.length <= 100) (a : Nat) (ha : a <= 9223372036854775807) :
  Calls Tryz.prog 209 #[v, .int .i64 (a : Int)] w fun e w' => ∃ p c, e = .returned (.slice p (l.eraseIdx a).length c) /\ ∃ U', BookAt w' U' (.slice p (l.eraseIdx a).length c) (l.eraseIdx a) /\ (∀ q, U' q -> U q \/ w.heap.size <= q) /\ Below w.heap.size w w' := by
 obtain ⟨pa, ca, rfl⟩ := h.form
 obtain ⟨L, hL⟩ : ∃ L, L = l.length := ⟨_, rfl⟩
 have HA := hide h
 have UL : Hid (∀ q, U q -> q < w.heap.size) := h.lt
 rw [<- hL] at hl HA ⊢
 have HL := hide hL
 clear hL h
 go_enter Tryz.func209, Tryz.ntmps209
 go_wp2_with fail
 go_loopw [5, 6] (fun vo u wr => ∃ (i : Nat) (U' : Nat -> Prop), i <= L /\ u = .int .i64 (i : Int) /\ BookAt wr U' vo ((l.take i).eraseIdx a) /\ (∀ q, vo.ownBlock = some q -> w.heap.size <= q) /\ (∀ q, U q -> U' q) /\ (∀ q, U' q -> U q \/ w.heap.size <= q) /\ Below w.heap.size w wr) (fun _ u _ => L - (intOf u).toNat)
 case atStart => exact ⟨0, U, Nat.zero_le _, rfl, book_nil (uh UL), (fun q hq => by cases hq), fun q h => h, fun q h => .inl h, Below.refl _ _⟩
 case round =>
  obtain ⟨i, U', hi, rfl, hbo, hob, hUU, hU', hbr⟩ := hrel
  obtain ⟨po, co, rfl⟩ := hbo.form
  obtain ⟨M, hM⟩ : ∃ M, M = ((l.take i).eraseIdx a).length := ⟨_, rfl⟩
  have hM1 : M <= 100 := by
   have h1 : ((l.take i).eraseIdx a).length <= (l.take i).length := List.length_eraseIdx_le _ _
   have h2 : (l.take i).length <= l.length := by rw [List.length_take]; omega
   have h3 := uh HL
   omega
  rw [<- hM] at hob
  have HBO := hide hbo; have HOB := hide hob; have HUU := hide hUU; have HU' := hide hU'; have HBR := hide hbr; have HM := hide hM
  by_cases hlt : i < L
  ·have hkx : ∃ k x, l[i]? = some (k, x) := by
    have : i < l.length := by rw [<- uh HL]; exact hlt
    exact ⟨_, _, List.getElem?_eq_getElem this⟩
   obtain ⟨k, x, hkx⟩ := hkx
   obtain ⟨g, ca', p, c, ev, hgU, hg, a0, a1, a2, _, ra, hraU⟩ := (uh HA).at hkx
   injection ev with ev eL ev3
   subst ev ev3
   clear eL
   have a0 := keep1 hbr hg a0
   have a1 := keep1 hbr hg a1
   have a2 := keep1 hbr hg a2
   have hra := own_below ra hbr
   have i0 : (0 : Int) <= (i : Int) := by omega
   have i1 : (i : Int) < (L : Int) := by omega
   by_cases hk : i = a
   ·have hss : ((i : Int) == (a : Int)) = true := by simp; omega
    have hsn : (i : Int) = (a : Int) := by omega
    have hde := er_eq hkx hk
    have HDE := hide hde
    clear hbo hob hUU hU' hbr hM hde hkx ra hra hraU hss
    rw [<- uh HM]
    go_wp2_with fail
    exact ⟨⟨i + 1, U', by omega, by go_num, by rw [uh HDE, uh HM]; exact uh HBO, uh HOB, uh HUU, uh HU', uh HBR⟩, by simp [intOf]; omega⟩
   ·have hsn : ¬ (i : Int) = (a : Int) := by omega
    have HDE := hide (er_ne hkx hk)
    have HB4 : Hid (∀ o, BookAt (wr.alloc o) U' (.slice po M co) ((l.take i).eraseIdx a)) := fun o => by rw [hM]; exact hbo.below (bal (Below.refl _ _) _)
    have HR4 : Hid (∀ o, (wr.alloc o).ownsRow 0 5 1 (.slice p x.bs.length c) x.bs.length (bcs x.bs)) := fun o => hra.alloc o
    have HRU : Hid (∀ q, (Value.slice p x.bs.length c).ownBlock = some q -> U' q) := fun q hq => hUU q (hraU q hq)
    have hML : ((l.take i).eraseIdx a).length <= 100 := by rw [<- hM]; exact hM1
    have HML := hide hML
    clear hbo hob hUU hU' hbr hkx ra hra hraU hML
    rw [<- hM]
    clear hM
    go_wp2_with (first | (at_builtin; refine wpList_append_note rfl _ _ rfl (.slice po M co) U' ((l.take i).eraseIdx a) rfl (uh HB4 _) (uh HML) wr.heap.size 1 rfl k x p c (by rw [World.cell?_alloc_mark]; rfl) (by rw [World.cell?_alloc_mark]; rfl) (by rw [World.cell?_alloc_mark]; rfl) (uh HR4 _) (uh HRU) ?_; intro p5 c5 w5 b5 g5 o5; have B5 := hide b5; have G5 := hide g5; have O5 := hide o5; clear b5 g5 o5))
    have hz := (uh HBR).size
    refine ⟨⟨i + 1, fun q => U' q \/ (Value.slice p5 (((l.take i).eraseIdx a).length + 1) c5).ownBlock = some q, by omega, by go_num, by rw [uh HDE]; exact uh B5, fun q hq => ?_, fun q hq => .inl (uh HUU q hq), fun q hq => ?_, ?_⟩, by simp [intOf]; omega⟩
    ·rcases uh O5 with e5 | e5
     ·rw [e5] at hq
      exact uh HOB q hq
     ·rw [e5] at hq
      simp only [Option.some.injEq, World.size_alloc] at hq
      omega
    ·rcases hq with hq | hq
     ·exact uh HU' q hq
     ·refine .inr ?_
      rcases uh O5 with e5 | e5
      ·rw [e5] at hq
       exact uh HOB q hq
      ·rw [e5] at hq
       simp only [Option.some.injEq, World.size_alloc] at hq
       omega
    ·exact Below.grown ((uh HBR).trans ((bal (Below.refl _ _) _).mono hz)) (uh G5) (by simp; omega) (fun j hj => uh HOB j hj)
  ·have j1 : ¬ (i : Int) < (L : Int) := by omega
   have hd : l.take i = l := List.take_of_length_le (by rw [<- uh HL]; omega)
   have HDD := hide hd
   clear hbo hob hUU hU' hbr hM hd
   go_wp2_with fail
   go_ret
   have hb := uh HBO
   rw [uh HDD] at hb ⊢
   exact ⟨_, _, rfl, U', hb, uh HU', uh HBR⟩
end Go.Proofs.YtpeohbkigkfcgaaGreatDoor
