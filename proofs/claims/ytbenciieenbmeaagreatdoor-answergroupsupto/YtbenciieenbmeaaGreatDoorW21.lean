import Derived.Test.YtbenciieenbmeaaGreatDoorW20
import Derived.Test.YtbenciieenbmeaaGreatDoorW19
/- typing: plain theory of TypingMore. -/
namespace Go.Proofs.YtbenciieenbmeaaGreatDoor
open Go Go.Shelf Go.ChangeShapes Go.WideShapes Go.ChangeAt Go.RowKit Go.Maps
set_option linter.unusedVariables false
set_option maxRecDepth 100000
theorem tat_append {T S : List Int} {i : Int} (h : i < (T.length : Int)) : tat (T ++ S) i = tat T i := by
  unfold tat
  by_cases h0 : i < 0
  · rw [if_pos (.inl h0), if_pos (.inl h0)]
  · rw [if_neg (by rw [List.length_append]; omega), if_neg (by omega)]
    simp only [List.getD_eq_getElem?_getD]
    rw [List.getElem?_append_left (by omega)]
theorem shw_append {x : Int × Int} {T S : List Int} (h : shwS x T = true) : shwS x (T ++ S) = true ∧ colT (T ++ S) x = colT T x := by
  by_cases h1 : x.1 = 1
  · exact ⟨by unfold shwS; rw [if_pos h1], by unfold colT; rw [if_pos h1, if_pos h1]⟩
  · have h2 := (shw_in h h1).2
    refine ⟨?_, by unfold colT; rw [if_neg h1, if_neg h1, tat_append h2]⟩
    unfold shwS at h ⊢
    rw [tat_append h2]
    exact h
/-- the seven points -/
structure Pts (q : Qy) (T : List Int) : Prop where
  p1 : ∀ t ∈ T, t ≠ 0
  p2 : q.wh = -1 ∨ tat T q.wh = 4
  p3 : ∀ f ∈ q.by', isF f = true
  p4 : 0 < q.sh.length
  p5 : ∀ x ∈ q.sh, shwS x T = true
  p6 : ∀ x ∈ q.ords, ordS (q.by'.length + q.sh.length) x = true
  p7 : -1 ≤ q.lim
theorem pts_iff (q : Qy) (T : List Int) : (ptsS q T).all id = true ↔ Pts q T := by
  unfold ptsS
  simp only [List.all_cons, List.all_nil, id_eq, Bool.and_eq_true, Bool.and_true, List.all_eq_true, decide_eq_true_eq, Bool.or_eq_true, beq_iff_eq]
  constructor
  · rintro ⟨h1, h2, h3, h4, h5, h6, h7⟩
    exact ⟨fun t ht e => by have := h1 t ht; rw [e] at this; simp at this, h2, h3, h4, h5, h6, h7⟩
  · rintro ⟨h1, h2, h3, h4, h5, h6, h7⟩
    exact ⟨fun t ht => by have := h1 t ht; simpa using this, h2, h3, h4, h5, h6, h7⟩
theorem ok_iff (q : Qy) : okQ q = true ↔ Pts q (tyL q.nodes) := pts_iff q _
theorem chk_ok {q : Qy} (h : okQ q = true) : chkE q = 0 ∧ chkL q = colS q (tyL q.nodes) := ⟨by unfold chkE; rw [if_pos h], by unfold chkL; rw [if_pos h]⟩
theorem chk_bad {q : Qy} (h : okQ q = false) : chkE q = 140 ∧ chkL q = [] := ⟨by unfold chkE; rw [h]; rfl, by unfold chkL; rw [h]; rfl⟩
theorem lik_ok {q r : Qy} (h : okQ q = true) (h' : okQ r = true) (hc : colS r (tyL r.nodes) = colS q (tyL q.nodes)) : likS r q = true := by
  obtain ⟨e1, e2⟩ := chk_ok h
  obtain ⟨e3, e4⟩ := chk_ok h'
  unfold likS
  rw [e1, e2, e3, e4, hc]
  simp
/-- no order, any limit -/
theorem more_one {q : Qy} (h : okQ q = true) {l : Int} (hl : -1 ≤ l) : likS ⟨q.nodes, q.wh, q.by', q.sh, [], l⟩ q = true := by
  have hp := (ok_iff q).1 h
  exact lik_ok h ((ok_iff _).2 ⟨hp.p1, hp.p2, hp.p3, hp.p4, hp.p5, fun x hx => (by cases hx), hl⟩) rfl
/-- no condition -/
theorem more_two {q : Qy} (h : okQ q = true) : likS ⟨q.nodes, -1, q.by', q.sh, q.ords, q.lim⟩ q = true := by
  have hp := (ok_iff q).1 h
  exact lik_ok h ((ok_iff _).2 ⟨hp.p1, .inl rfl, hp.p3, hp.p4, hp.p5, hp.p6, hp.p7⟩) rfl
theorem ord_more {w w' : Int} {x : Int × Bool} (h : ordS w x = true) (hw : w ≤ w') : ordS w' x = true := by
  unfold ordS at h ⊢
  simp only [Bool.and_eq_true, decide_eq_true_eq] at h ⊢
  omega
/-- one column of By more -/
theorem more_by {q : Qy} (h : okQ q = true) (f : Int) : okQ ⟨q.nodes, q.wh, f :: q.by', q.sh, q.ords, q.lim⟩ = isF f ∧ (isF f = true → chkL ⟨q.nodes, q.wh, f :: q.by', q.sh, q.ords, q.lim⟩ = fldT' f :: chkL q) := by
  have hp := (ok_iff q).1 h
  have hok : isF f = true → okQ ⟨q.nodes, q.wh, f :: q.by', q.sh, q.ords, q.lim⟩ = true := fun hf => (ok_iff _).2 ⟨hp.p1, hp.p2, fun g hg => by
    rcases List.mem_cons.1 hg with rfl | hg
    · exact hf
    · exact hp.p3 g hg, hp.p4, hp.p5, fun x hx => ord_more (hp.p6 x hx) (by simp only [List.length_cons]; omega), hp.p7⟩
  refine ⟨?_, fun hf => ?_⟩
  · by_cases hf : isF f = true
    · rw [hok hf, hf]
    · have hf' : isF f = false := by simpa using hf
      rw [hf']
      have : ¬ okQ ⟨q.nodes, q.wh, f :: q.by', q.sh, q.ords, q.lim⟩ = true := fun e => hf (((ok_iff _).1 e).p3 f (by simp))
      simpa using this
  · rw [(chk_ok (hok hf)).2, (chk_ok h).2]
    rfl
theorem fldT_ne (f : Int) : (!(fldT' f == 0)) = isF f := by
  by_cases h : isF f = true
  · rw [h]
    have h' := h
    rw [isF, Bool.and_eq_true, decide_eq_true_iff, decide_eq_true_iff] at h'
    obtain ⟨k, rfl⟩ : ∃ k : Nat, f = k := ⟨f.toNat, by omega⟩
    have hk : k < 15 := by omega
    have hk1 : 1 ≤ k := by omega
    have e : fldT' k = (fldL.getD k (⟨#[]⟩, 0)).2 := by unfold fldT' fldS; rw [if_pos h]; rfl
    rw [e]
    match k, hk, hk1 with
    | 1, _, _ => rfl
    | 2, _, _ => rfl
    | 3, _, _ => rfl
    | 4, _, _ => rfl
    | 5, _, _ => rfl
    | 6, _, _ => rfl
    | 7, _, _ => rfl
    | 8, _, _ => rfl
    | 9, _, _ => rfl
    | 10, _, _ => rfl
    | 11, _, _ => rfl
    | 12, _, _ => rfl
    | 13, _, _ => rfl
    | 14, _, _ => rfl
  · have h' : isF f = false := by simpa using h
    rw [h']
    have e : fldT' f = 0 := by unfold fldT' fldS; rw [if_neg h]
    rw [e]; rfl
/-- one of Show more -/
theorem more_show {q : Qy} (h : okQ q = true) {x : Int × Int} (hx : x ∈ q.sh) : okQ ⟨q.nodes, q.wh, q.by', q.sh ++ [x], q.ords, q.lim⟩ = true ∧ chkL ⟨q.nodes, q.wh, q.by', q.sh ++ [x], q.ords, q.lim⟩ = chkL q ++ [colT (tyL q.nodes) x] := by
  have hp := (ok_iff q).1 h
  have hok : okQ ⟨q.nodes, q.wh, q.by', q.sh ++ [x], q.ords, q.lim⟩ = true := (ok_iff _).2 ⟨hp.p1, hp.p2, hp.p3, by simp, fun y hy => by
    rcases List.mem_append.1 hy with hy | hy
    · exact hp.p5 y hy
    · rw [List.mem_singleton] at hy; subst hy; exact hp.p5 _ hx, fun y hy => ord_more (hp.p6 y hy) (by simp only [List.length_append]; omega), hp.p7⟩
  refine ⟨hok, ?_⟩
  rw [(chk_ok hok).2, (chk_ok h).2]
  unfold colS
  simp only [List.map_append, List.map_cons, List.map_nil, List.append_assoc]
theorem col_first {q : Qy} (h : okQ q = true) {x : Int × Int} {R : List (Int × Int)} (hx : q.sh = x :: R) : (chkL q)[q.by'.length]? = some (colT (tyL q.nodes) x) := by
  rw [(chk_ok h).2]
  unfold colS
  rw [List.getElem?_append_right (by simp), hx]
  simp
def ndNot (w : Int) : Nd := ⟨3, w, -1, 0, 0, ⟨#[]⟩⟩
def ndAnd (w n : Int) : Nd := ⟨2, w, n, 0, 0, ⟨#[]⟩⟩
theorem tat_last {T : List Int} (t : Int) : tat (T ++ [t]) (T.length : Int) = t := by
  unfold tat
  rw [if_neg (by simp; omega)]
  simp
/-- its condition and its opposite -/
theorem more_not {q : Qy} (h : okQ q = true) (hw : 0 ≤ q.wh) : likS ⟨q.nodes ++ [ndNot q.wh, ndAnd q.wh q.nodes.length], (q.nodes.length : Int) + 1, q.by', q.sh, q.ords, q.lim⟩ q = true := by
  have hp := (ok_iff q).1 h
  have hw4 : tat (tyL q.nodes) q.wh = 4 := hp.p2.elim (fun e => by omega) id
  have hlt : q.wh < ((tyL q.nodes).length : Int) := by
    by_cases hc : q.wh < ((tyL q.nodes).length : Int)
    · exact hc
    · unfold tat at hw4
      rw [if_pos (by omega)] at hw4
      cases hw4
  have hlen := tyL_len q.nodes
  have e1 : ntS (ndNot q.wh) (tyL q.nodes) = 4 := by
    show sgl 3 (tat (tyL q.nodes) q.wh) = 4
    rw [hw4]; rfl
  have e2 : ntS (ndAnd q.wh q.nodes.length) (tyL q.nodes ++ [4]) = 4 := by
    show prS 2 (tat (tyL q.nodes ++ [4]) q.wh) (tat (tyL q.nodes ++ [4]) (q.nodes.length : Int)) = 4
    have e3 : tat (tyL q.nodes ++ [4]) (q.nodes.length : Int) = 4 := by
      rw [← hlen]; exact tat_last 4
    rw [tat_append hlt, hw4, e3]; rfl
  have eT : tyL (q.nodes ++ [ndNot q.wh, ndAnd q.wh q.nodes.length]) = tyL q.nodes ++ [4, 4] := by
    have : q.nodes ++ [ndNot q.wh, ndAnd q.wh q.nodes.length] = (q.nodes ++ [ndNot q.wh]) ++ [ndAnd q.wh q.nodes.length] := by simp
    rw [this, tyL_snoc, tyL_snoc, e1, e2]; simp
  have e5 : tat (tyL q.nodes ++ [4, 4]) ((q.nodes.length : Int) + 1) = 4 := by
    have : tyL q.nodes ++ [4, 4] = (tyL q.nodes ++ [4]) ++ [4] := by simp
    rw [this]
    have e6 := tat_last (T := tyL q.nodes ++ [4]) 4
    rw [List.length_append, hlen] at e6
    exact e6
  refine lik_ok h ((ok_iff _).2 ?_) ?_
  · show Pts _ (tyL (q.nodes ++ [ndNot q.wh, ndAnd q.wh q.nodes.length]))
    rw [eT]
    refine ⟨fun t ht => ?_, .inr e5, hp.p3, hp.p4, fun x hx => (shw_append (hp.p5 x hx)).1, hp.p6, hp.p7⟩
    rcases List.mem_append.1 ht with ht | ht
    · exact hp.p1 t ht
    · simp at ht; omega
  · show colS _ (tyL (q.nodes ++ [ndNot q.wh, ndAnd q.wh q.nodes.length])) = _
    rw [eT]
    unfold colS
    congr 1
    apply List.map_congr_left
    intro x hx
    exact (shw_append (hp.p5 x hx)).2
end Go.Proofs.YtbenciieenbmeaaGreatDoor
/- typing: TypingTurned 6. -/
namespace Go.Proofs.YtbenciieenbmeaaGreatDoor
open Go Go.Shelf Go.ChangeShapes Go.WideShapes Go.ChangeAt Go.RowKit Go.Maps
set_option linter.unusedVariables false
set_option maxRecDepth 100000
set_option maxHeartbeats 8000000
theorem Twn.up {W X w' : World} {q : Qy} {a : Qa} (h : Twn X w' q a) (hb : Below W.heap.size W X) : Twn W w' q a := ⟨h.n.up hb, h.b.up hb, h.s.up hb, h.o.up hb⟩
theorem Twn.below {W X w' : World} {q : Qy} {a : Qa} (h : Twn W X q a) (hb : Below X.heap.size X w') : Twn W w' q a := ⟨h.n.below hb, h.b.below hb, h.s.below hb, h.o.below hb⟩
attribute [local go_sem ↓] ld32_is st32_is
end Go.Proofs.YtbenciieenbmeaaGreatDoor
/- typing: what TypingMore holds. -/
namespace Go.Proofs.YtbenciieenbmeaaGreatDoor
open Go Go.Shelf Go.ChangeShapes Go.WideShapes Go.ChangeAt Go.RowKit Go.Maps
set_option linter.unusedVariables false
set_option maxRecDepth 100000
set_option maxHeartbeats 8000000
theorem step_append_run {P : Program} {ops : Array Oper} {o : Oper} {a : Act} {K : Act → World → Prop} {Q : Exit → Act → World → Prop} {E : Prop} (w : World) (hgd : o.guard = none) (s x : Operand) (t : TypeId)
    (ho : o.op = .call { callee := .builtin .append, args := #[s, x], argTypes := #[t, t] }) (v u v' : Value) (w' : World) (hs : a.eval s = v) (hx : a.eval x = u) (hr : (Builtin.append_ #[t, t] o.type #[v, u]).run P w = .ok v' w')
    (h : K (a.put o.dst v') w') : if Region.wanted o (yielded ops a.tmps) = true then Oper.wp P o a w K Q else E := by
  have hw : Region.wanted o (yielded ops a.tmps) = true := by simp [Region.wanted, hgd]
  rw [if_pos hw]
  unfold Oper.wp execOp
  simp only [ho, resolve, invoke, builtin, Sem.run_bind, Sem.run_pure, Result.andThen_ok, List.map_toArray, List.map_cons, List.map_nil, hs, hx, hr]
  exact h
theorem Rw.none {α : Type} {K : Kd α} {W X : World} (h : Below W.heap.size W X) : Rw K W X (.slice none 0 0) 0 [] := ⟨⟨by simp [Kd.flat], .inl ⟨rfl, rfl⟩⟩, h, rfl⟩
end Go.Proofs.YtbenciieenbmeaaGreatDoor
/- answer: groupOf 49. -/
namespace Go.Proofs.YtbenciieenbmeaaGreatDoor
open Go Go.Shelf Go.ChangeShapes Go.WideShapes Go.ChangeAt Go.RowKit Go.Maps
set_option linter.unusedVariables false
set_option maxRecDepth 100000
set_option maxHeartbeats 4000000
theorem onF_get {κ : Type} [DecidableEq κ] {D : List κ} {x : κ} (h : x ∈ D) : ∃ i, onF D x = some i ∧ ∃ hi : i < D.length, D[i] = x := by
  unfold onF
  rw [if_pos h]
  exact ⟨_, rfl, List.idxOf_lt_length_iff.2 h, List.getElem_idxOf _⟩
theorem step_build {P : Program} {ops : Array Oper} {o : Oper} {a : Act} {K : Act → World → Prop} {Q : Exit → Act → World → Prop} {E : Prop} {w : World} (hgd : o.guard = none) (t : TypeId) (parts : Array (Nat × Operand)) (ho : o.op = .build t parts) (v : Value) (vs : Array (Nat × Value)) (hr : (Instr.build t vs).run P w = .ok v w) (hv : (parts.map fun (i, x) => (i, a.eval x)) = vs)
    (h : K (a.put o.dst v) w) : if Region.wanted o (yielded ops a.tmps) = true then Oper.wp P o a w K Q else E := by
  have hw : Region.wanted o (yielded ops a.tmps) = true := by simp [Region.wanted, hgd]
  rw [if_pos hw]
  unfold Oper.wp execOp
  simp only [ho, Sem.run_bind, hv, hr, Result.andThen_ok]
  exact h
theorem step_buildS {P : Program} {ops : Array Oper} {o : Oper} {a : Act} {K : Act → World → Prop} {Q : Exit → Act → World → Prop} {E : Prop} {w : World} (hgd : o.guard = none) (t : TypeId) (n : Nat) (parts : Array (Nat × Operand)) (ho : o.op = .buildSlice t n parts) (v : Value) (w' : World) (vs : Array (Nat × Value)) (hr : (Instr.buildSlice t n vs).run P w = .ok v w') (hv : (parts.map fun (i, x) => (i, a.eval x)) = vs)
    (h : K (a.put o.dst v) w') : if Region.wanted o (yielded ops a.tmps) = true then Oper.wp P o a w K Q else E := by
  have hw : Region.wanted o (yielded ops a.tmps) = true := by simp [Region.wanted, hgd]
  rw [if_pos hw]
  unfold Oper.wp execOp
  simp only [ho, Sem.run_bind, hv, hr, Result.andThen_ok]
  exact h
/-- what groupOf answers -/
def GrpOut (B : Nat) (W : World) (d g b : Nat) (fx : List Value) (nN cv nS : Nat) (V : List Cl) (gs : List Gr) (k : List Cl) (e : Ending) (w' : World) : Prop :=
  ∃ t t0 i : Nat, ∃ vG', e = .returned (.slice (some ⟨t, 0, none⟩) nS nS) ∧ Sc B w' d g b fx nN cv nS V vG' (grG gs k t0 nS) ∧ Below B W w' ∧ ∃ x : Gr, (grG gs k t0 nS)[i]? = some x ∧ x.key = k ∧ x.t = t
section
variable {B : Nat} {W W' : World} {d g b : Nat} {fx : List Value} {nN cv nS : Nat} {V : List Cl} {vG : Value} {gs : List Gr}
theorem Sc.drew (h : Sc B W d g b fx nN cv nS V vG gs) (m : Nat) : Sc B (W.drewN m) d g b fx nN cv nS V vG gs := h.below (below_drewN (Below.refl _ W) m)
theorem Sc.cell (h : Sc B W d g b fx nN cv nS V vG gs) : W.cell? ⟨d, 9, none⟩ = some (.slice (some ⟨g, 0, none⟩) nN cv) ∧ W.cell? ⟨d, 10, none⟩ = some vG ∧ W.cell? ⟨d, 11, none⟩ = some (.map (some b)) := by
  refine ⟨?_, ?_, ?_⟩ <;> (rw [h.blk.cell, List.getElem?_append_right (by rw [h.fl]; decide), h.fl]; rfl)
theorem Sc.fixed (h : Sc B W d g b fx nN cv nS V vG gs) {i : Nat} (hi : i < 9) : W.cell? ⟨d, i, none⟩ = fx[i]? := by
  rw [h.blk.cell, List.getElem?_append_left (by rw [h.fl]; exact hi)]
attribute [local go_sem ↓] ldK_is
theorem groupOf_any (h : Sc B W d g b fx nN cv nS V vG gs) (hB : B ≤ W.heap.size) (hg : gs.length ≤ 4194304) (hS : nS ≤ 4194304) {k : List Cl} (hk : Kok k) {pS : Option Addr} {cS : Nat} (hfx : fx[7]? = some (.slice pS nS cS)) :
    Calls Tryz.prog 49 #[.pointer (some ⟨d, 0, none⟩), kV k] W (GrpOut B W d g b fx nN cv nS V gs k) := by
  obtain ⟨ka, hka⟩ : ∃ ka, ka = (kcs k).toArray := ⟨_, rfl⟩
  have ekv : kV k = .agg ka := by rw [hka]; rfl
  obtain ⟨X, hX⟩ : ∃ X, X = W.alloc (.cells ka 117) := ⟨_, rfl⟩
  have hBX : Below W.heap.size W X := by rw [hX]; exact Below.a1 W _
  have hXs : X.heap.size = W.heap.size + 1 := by rw [hX]; simp
  have hBk : Bk X W.heap.size 117 (kcs k) := by show X.heap[_]? = _; rw [hX, hka]; exact heap_new _ _
  have hSX := h.below hBX
  have HLD : Hid (∀ Y : World, Y.heap[W.heap.size]? = X.heap[W.heap.size]? → (ldK (.pointer (some ⟨W.heap.size, 0, none⟩))).run Tryz.prog Y = .ok (.agg ka) Y) := fun Y hY => by rw [← ekv]; exact (hBk.same hY).ldK hk.1
  rw [ekv]
  by_cases hin : k ∈ gs.map Gr.key
  · -- it is there
    obtain ⟨i, eF, hil', hik'⟩ := onF_get hin
    have hil : i < gs.length := by simpa using hil'
    have hik : gs[i].key = k := by simpa using hik'
    have hlook := (hSX.drew 1).mp.look yK_ok hk
    rw [eF] at hlook
    have hlook : (Instr.lookup 109 (.map (some b)) (.agg ka) true).run Tryz.prog X.drew = .ok (.tuple #[.int .i64 (i : Int), .bool true]) X.drew := by rw [← ekv]; exact hlook
    obtain ⟨gb, c, evG, hpl0⟩ := hSX.place i hil
    have hpl : X.drew.cell? ⟨gb, i * 43 + 42, none⟩ = some (.slice (some ⟨gs[i].t, 0, none⟩) nS nS) := hpl0
    clear hpl0
    obtain ⟨t, ht⟩ : ∃ t, t = gs[i].t := ⟨_, rfl⟩
    rw [← ht] at hpl
    have c10 : X.drew.cell? ⟨d, 10, none⟩ = some (.slice (some ⟨gb, 0, none⟩) gs.length c) := by rw [← evG]; exact hSX.cell.2.1
    have c11 : X.drew.cell? ⟨d, 11, none⟩ = some (.map (some b)) := hSX.cell.2.2
    have l0 := unhide HLD X.drew rfl
    have HEND : Hid (∃ t0 i' : Nat, ∃ vG', Sc B X.drew d g b fx nN cv nS V vG' (grG gs k t0 nS) ∧ Below B W X.drew ∧ ∃ x : Gr, (grG gs k t0 nS)[(i' : Nat)]? = some x ∧ x.key = k ∧ x.t = t) := by
      refine ⟨0, i, vG, ?_, (hBX.mono hB).trans (below_drewN (Below.refl _ X) 1), gs[i], ?_, hik, ht.symm⟩
      · unfold grG; rw [if_pos hin]; exact hSX.drew 1
      · unfold grG; rw [if_pos hin]; exact List.getElem?_eq_getElem hil
    have hin' : (i : Int) < (gs.length : Int) := by omega
    obtain ⟨nG, hnG⟩ : ∃ n, n = gs.length := ⟨_, rfl⟩
    rw [← hnG] at c10 hin'
    have HX := hide hX
    have hi0 : ¬ (i : Int) < 0 := by omega
    clear hX hBX hXs hBk hSX HLD hin hik' hik eF evG ht h hk hfx hka ekv hil hil' hg hnG
    go_enter Tryz.func49, Tryz.ntmps49
    go_upto_region 1 with fail
    rw [← unhide HX]
    refine wp_region_last (n := 11) (S := fun W' => W'.cell? ⟨d, 11, none⟩ = some (.map (some b)) ∧ (ldK (.pointer (some ⟨W.heap.size, 0, none⟩))).run Tryz.prog W' = .ok (.agg ka) W') (by kernel_rfl) ⟨c11, l0⟩ (fun hHeld => ?_)
    refine tkW 0 ?_; refine tkW 1 ?_; refine tkW 2 ?_; refine tkN 3 ?_; refine tkN 4 ?_
    refine wpAnyL_one (i := 5) (by kernel_rfl) rfl (fun KK hK => ?_)
    go_simp
    refine hK.out _ _ ⟨c11, l0⟩ (fun hHeld => ?_)
    clear hK KK
    refine tkW 6 ?_; refine tkW 7 ?_; refine tkW 8 ?_; refine tkW 9 ?_; refine tkW 10 ?_
    refine wpAnyL_done (by kernel_rfl) ?_
    go_wp2_with fail
    go_ret
    obtain ⟨t0, i', vG', e1, e2, e3⟩ := unhide HEND
    exact ⟨t, t0, i', vG', rfl, e1, e2, e3⟩
  · have hlook := (hSX.drew 1).mp.look yK_ok hk
    have eF : onF (gs.map Gr.key) k = none := by unfold onF; rw [if_neg hin]
    rw [eF] at hlook
    have hlook : (Instr.lookup 109 (.map (some b)) (.agg ka) true).run Tryz.prog X.drew = .ok (.tuple #[.int .i64 0, .bool false]) X.drew := by rw [← ekv]; exact hlook
    have c11 : X.drew.cell? ⟨d, 11, none⟩ = some (.map (some b)) := hSX.cell.2.2
    have c10 : X.drew.cell? ⟨d, 10, none⟩ = some vG := hSX.cell.2.1
    have c11b : X.drew.drew.cell? ⟨d, 11, none⟩ = some (.map (some b)) := hSX.cell.2.2
    have l0 := unhide HLD X.drew rfl
    have l0b := unhide HLD X.drew.drew rfl
    have hdne := hSX.ne
    obtain ⟨w1, u1, u2a, u3, u4, hmore⟩ := (hSX.drew 2).more (by show B ≤ X.heap.size; omega) hg hS hk hin
    have hbW : b < W.heap.size := h.mp.lt
    have hdW : d < W.heap.size := h.blk.lt
    have u2 : w1.heap.size = X.heap.size := u2a
    clear u2a
    have hw1b : w1.drew.heap[W.heap.size]? = X.heap[W.heap.size]? := u3 W.heap.size (by show _ < X.heap.size; omega) (by omega)
    have l1 := unhide HLD w1.drew hw1b
    have c10b : w1.drew.cell? ⟨d, 10, none⟩ = some vG := u4
    have c7b : w1.drew.cell? ⟨d, 7, none⟩ = some (.slice pS nS cS) := by
      have h1 : w1.drew.cell? ⟨d, 7, none⟩ = X.cell? ⟨d, 7, none⟩ := World.cell?_of_block (a := ⟨d, 7, none⟩) (u3 d (by show _ < X.heap.size; omega) hdne.db)
      rw [h1, hSX.fixed (by decide), hfx]
    obtain ⟨w2, hw2⟩ : ∃ w2, w2 = ((w1.drewN 1).alloc (.cells (madeCells zT.cells (nS * 5)) 167)) := ⟨_, rfl⟩
    obtain ⟨hmk, p, c, w4, w5, r4, f4, z4, st4, hw5, hSc, hBe⟩ := hmore 1 w2 hw2
    have hmk : (Instr.makeSlice 114 (.int .i64 (nS : Int)) (.int .i64 (nS : Int))).run Tryz.prog w1.drew = .ok (.slice (some ⟨w1.heap.size, 0, none⟩) nS nS) w2 := hmk
    have hs2 : w2.heap.size = w1.heap.size + 1 := by rw [hw2]; simp
    have hbld := run_bld hk.1 (some ⟨w1.heap.size, 0, none⟩) nS nS w2
    rw [ekv] at hbld
    obtain ⟨ga, hga⟩ : ∃ ga, ga = (kcs k ++ [Value.slice (some ⟨w1.heap.size, 0, none⟩) nS nS]).toArray := ⟨_, rfl⟩
    have hbls := run_bls hk.1 (some ⟨w1.heap.size, 0, none⟩) nS nS w2
    rw [← hga] at hbld hbls r4
    have HBLS := hide hbls
    have HR4 := hide r4
    obtain ⟨gb, cc, evG, hpl⟩ := hSc.place gs.length (by simp)
    rw [List.getElem_append_right (by omega)] at hpl
    simp only [Nat.sub_self, List.getElem_singleton] at hpl
    have ep : p = some ⟨gb, 0, none⟩ := by injection evG
    subst ep
    have c10c := hSc.cell.2.1
    have HEND : Hid (GrpOut B W d g b fx nN cv nS V gs k (.returned (.slice (some ⟨w1.heap.size, 0, none⟩) nS nS)) w5) := by
      have eg : grG gs k w1.heap.size nS = gs ++ [⟨k, w1.heap.size, List.replicate nS (0, .no)⟩] := by unfold grG; rw [if_neg hin]
      refine ⟨w1.heap.size, w1.heap.size, gs.length, .slice (some ⟨gb, 0, none⟩) (gs.length + 1) c, rfl, ?_, ((hBX.mono hB).trans (below_drewN (Below.refl _ X) 2)).trans hBe, ⟨k, w1.heap.size, List.replicate nS (0, .no)⟩, ?_, rfl, rfl⟩
      · rw [eg]; exact hSc
      · rw [eg, List.getElem?_append_right (by omega), Nat.sub_self]; rfl
    obtain ⟨pg, cg, evv, _, _⟩ := row_slice h.row
    subst evv
    have u1 : (Instr.mapUpdate 109 (.map (some b)) (.agg ka) (.int .i64 ((gs.length : Nat) : Int))).run Tryz.prog X.drew.drew = .ok () w1 := by rw [← ekv]; exact u1
    have h2h : ∀ i : Nat, i < w1.heap.size → w2.heap[i]? = w1.drew.heap[i]? := fun i hi => by rw [hw2]; exact Below.heap_alloc _ _ _ hi
    have l2 := unhide HLD w2 ((h2h _ (by omega)).trans hw1b)
    have c10d : w2.cell? ⟨d, 10, none⟩ = some (.slice pg gs.length cg) := by rw [World.cell?_of_block (a := ⟨d, 10, none⟩) (h2h d (by omega))]; exact c10b
    have c7d : w2.cell? ⟨d, 7, none⟩ = some (.slice pS nS cS) := by rw [World.cell?_of_block (a := ⟨d, 7, none⟩) (h2h d (by omega))]; exact c7b
    have S3 : Hid (∀ o, (w2.alloc o).cell? ⟨d, 10, none⟩ = some (.slice pg gs.length cg) ∧ (ldK (.pointer (some ⟨W.heap.size, 0, none⟩))).run Tryz.prog (w2.alloc o) = .ok (.agg ka) (w2.alloc o) ∧ (w2.alloc o).cell? ⟨d, 7, none⟩ = some (.slice pS nS cS)) := fun o => by
      have q1 : (w2.alloc o).heap[d]? = w2.heap[d]? := Below.heap_alloc _ _ _ (by omega)
      have q2 : (w2.alloc o).heap[W.heap.size]? = w2.heap[W.heap.size]? := Below.heap_alloc _ _ _ (by omega)
      exact ⟨by rw [World.cell?_of_block (a := ⟨d, 10, none⟩) q1]; exact c10d, unhide HLD _ (q2.trans ((h2h _ (by omega)).trans hw1b)), by rw [World.cell?_of_block (a := ⟨d, 7, none⟩) q1]; exact c7d⟩
    have S4 : Hid (w4.cell? ⟨d, 10, none⟩ = some (.slice pg gs.length cg) ∧ (ldK (.pointer (some ⟨W.heap.size, 0, none⟩))).run Tryz.prog w4 = .ok (.agg ka) w4 ∧ w4.cell? ⟨d, 7, none⟩ = some (.slice pS nS cS)) := by
      have hb117 : ∀ q, (Value.slice pg gs.length cg).ownBlock = some q → q ≠ W.heap.size := fun q hq e => by
        obtain ⟨cur, hc⟩ := row_at hSX.row hq
        exact ne_type hc hBk (by decide) e
      have e4 : w4.heap[W.heap.size]? = X.heap[W.heap.size]? := st4 W.heap.size (by show _ < X.heap.size; omega) (by omega) (fun e => hb117 _ e rfl)
      refine ⟨f4, unhide HLD w4 e4, ?_⟩
      have h1 : w4.cell? ⟨d, 7, none⟩ = X.cell? ⟨d, 7, none⟩ := World.cell?_of_block (a := ⟨d, 7, none⟩) (st4 d (by show _ < X.heap.size; omega) hdne.db hdne.dr)
      rw [h1, hSX.fixed (by decide), hfx]
    have S2 : Hid (w2.cell? ⟨d, 10, none⟩ = some (.slice pg gs.length cg) ∧ (ldK (.pointer (some ⟨W.heap.size, 0, none⟩))).run Tryz.prog w2 = .ok (.agg ka) w2 ∧ w2.cell? ⟨d, 7, none⟩ = some (.slice pS nS cS)) := ⟨c10d, l2, c7d⟩
    have HX := hide hX
    have HW5 := hide hw5
    have HU1 := hide u1
    have HHMK := hide hmk
    have hbls : (Instr.buildSlice 110 1 #[(0, .agg ga)]).run Tryz.prog w2 = .ok (.slice (some ⟨w1.heap.size + 1, 0, none⟩) 1 1) (w2.alloc (.cells ga 119)) := by have := unhide HBLS; rw [hs2] at this; exact this
    obtain ⟨nG, hnG⟩ : ∃ n, n = gs.length := ⟨_, rfl⟩
    rw [← hnG] at c10 HR4 HU1 S2 S3 S4 c10b f4 c10c hpl HW5
    have hin2 : (nG : Int) < ((nG + 1 : Nat) : Int) := by omega
    clear st4 hX hBX hXs hBk hSX HLD hin eF h hk hfx hka ekv hg hnG u1 u2 u3 u4 hmore hw1b hw2 hmk HBLS r4 hw5 hSc hBe evG hga hbW hdW hdne h2h l2 c10d c7d hs2
    go_enter Tryz.func49, Tryz.ntmps49
    go_upto_region 1 with fail
    rw [← unhide HX]
    refine wp_region_last (n := 11) (S := fun W' => W'.cell? ⟨d, 11, none⟩ = some (.map (some b)) ∧ (ldK (.pointer (some ⟨W.heap.size, 0, none⟩))).run Tryz.prog W' = .ok (.agg ka) W') (by kernel_rfl) ⟨c11, l0⟩ (fun hHeld => ?_)
    refine tkW 0 ?_; refine tkW 1 ?_; refine tkW 2 ?_; refine tkN 3 ?_; refine tkN 4 ?_
    refine wpAnyL_one (i := 5) (by kernel_rfl) rfl (fun KK hK => ?_)
    go_simp
    refine hK.out _ _ ⟨c11, l0⟩ (fun hHeld => ?_)
    clear hK KK
    refine tkW 6 ?_; refine tkW 7 ?_; refine tkW 8 ?_; refine tkW 9 ?_; refine tkW 10 ?_
    refine wpAnyL_done (by kernel_rfl) ?_
    go_upto_region 4 with fail
    refine wp_region_last (n := 6) (S := fun W' => W'.cell? ⟨d, 11, none⟩ = some (.map (some b)) ∧ (ldK (.pointer (some ⟨W.heap.size, 0, none⟩))).run Tryz.prog W' = .ok (.agg ka) W') (by kernel_rfl) ⟨c11b, l0b⟩ (fun hHeld => ?_)
    refine tkW 0 ?_; refine tkW 1 ?_; refine tkW 2 ?_; refine tkS 3 ?_; refine tkS 4 ?_; refine tkW 5 ?_
    refine wpAnyL_past (i := 6) (by kernel_rfl) rfl (by kernel_rfl) (fun KK hK => ?_)
    have u1 := unhide HU1
    go_simp
    refine hK.out _ _ ?_
    clear hK KK u1 HU1
    refine wpAnyL_done (by kernel_rfl) ?_
    go_upto_region 5 with fail
    refine wp_region_last (n := 18) (S := fun W' => W'.cell? ⟨d, 10, none⟩ = some (.slice pg nG cg) ∧ (ldK (.pointer (some ⟨W.heap.size, 0, none⟩))).run Tryz.prog W' = .ok (.agg ka) W' ∧ W'.cell? ⟨d, 7, none⟩ = some (.slice pS nS cS)) (by kernel_rfl) ⟨c10b, l1, c7b⟩ (fun hHeld => ?_)
    refine tkW 0 ?_; refine tkW 1 ?_; refine tkW 2 ?_; refine tkW 3 ?_; refine tkS 4 ?_; refine tkS 5 ?_; refine tkW 6 ?_; refine tkW 7 ?_; refine tkW 8 ?_; refine tkW 9 ?_; refine tkS 10 ?_; refine tkW 11 ?_
    refine wpAnyL_one (i := 12) (by kernel_rfl) rfl (fun KK hK => ?_)
    have hmk := unhide HHMK
    go_simp
    refine hK.out _ _ (unhide S2) (fun hHeld => ?_)
    clear hK KK hmk
    refine wpAnyL_one (i := 13) (by kernel_rfl) rfl (fun KK hK => ?_)
    refine step_build rfl 119 _ rfl _ _ hbld (by go_simp) ?_
    refine hK.out _ _ (unhide S2) (fun hHeld => ?_)
    clear hK KK
    refine wpAnyL_one (i := 14) (by kernel_rfl) rfl (fun KK hK => ?_)
    refine step_buildS rfl 110 1 _ rfl _ _ _ hbls (by go_simp) ?_
    refine hK.out _ _ (unhide S3 _) (fun hHeld => ?_)
    clear hK KK
    refine wpAnyL_one (i := 15) (by kernel_rfl) rfl (fun KK hK => ?_)
    refine step_append_run _ rfl _ _ 110 rfl _ _ _ _ rfl rfl (unhide HR4) ?_
    refine hK.out _ _ (unhide S4) (fun hHeld => ?_)
    clear hK KK
    refine tkW 16 ?_; refine tkW 17 ?_
    refine wpAnyL_past (i := 18) (by kernel_rfl) rfl (by kernel_rfl) (fun KK hK => ?_)
    go_simp
    rw [← unhide HW5]
    refine hK.out _ _ ?_
    clear hK KK
    refine wpAnyL_done (by kernel_rfl) ?_
    go_wp2_with fail
    go_ret
    have hE := unhide HEND
    exact hE
end
end Go.Proofs.YtbenciieenbmeaaGreatDoor
