/- typing: plain theory of TypingMore. -/
import Derived.Test.YtfpbljfebjochaaGreatDoorTyT
namespace Go.Proofs.YtfpbljfebjochaaGreatDoor
open Go Go.Shelf Go.ChangeShapes Go.WideShapes Go.ChangeAt Go.RowKit Go.Maps
set_option linter.unusedVariables false
set_option maxRecDepth 100000
theorem tat_append {T S : List Int} {i : Int} (h : i < (T.length : Int)) : tat (T ++ S) i = tat T i := by
  unfold tat
  by_cases h0 : i < 0
  · rw [if_pos (.inl h0), if_pos (.inl h0)]
  · rw [if_neg (by rw [List.length_append]; omega), if_neg (by omega)]
    simp only [List.getD_eq_getElem?_getD]
    rw [List.getElem?_append_left (by omega)]
theorem shw_append {x : Int × Int} {T S : List Int} (h : shwS x T = true) : shwS x (T ++ S) = true ∧ colT (T ++ S) x = colT T x := by
  by_cases h1 : x.1 = 1
  · exact ⟨by unfold shwS; rw [if_pos h1], by unfold colT; rw [if_pos h1, if_pos h1]⟩
  · have h2 := (shw_in h h1).2
    refine ⟨?_, by unfold colT; rw [if_neg h1, if_neg h1, tat_append h2]⟩
    unfold shwS at h ⊢
    rw [tat_append h2]
    exact h
/-- the seven points -/
structure Pts (q : Qy) (T : List Int) : Prop where
  p1 : ∀ t ∈ T, t ≠ 0
  p2 : q.wh = -1 ∨ tat T q.wh = 4
  p3 : ∀ f ∈ q.by', isF f = true
  p4 : 0 < q.sh.length
  p5 : ∀ x ∈ q.sh, shwS x T = true
  p6 : ∀ x ∈ q.ords, ordS (q.by'.length + q.sh.length) x = true
  p7 : -1 ≤ q.lim
theorem pts_iff (q : Qy) (T : List Int) : (ptsS q T).all id = true ↔ Pts q T := by
  unfold ptsS
  simp only [List.all_cons, List.all_nil, id_eq, Bool.and_eq_true, Bool.and_true, List.all_eq_true, decide_eq_true_eq, Bool.or_eq_true, beq_iff_eq]
  constructor
  · rintro ⟨h1, h2, h3, h4, h5, h6, h7⟩
    exact ⟨fun t ht e => by have := h1 t ht; rw [e] at this; simp at this, h2, h3, h4, h5, h6, h7⟩
  · rintro ⟨h1, h2, h3, h4, h5, h6, h7⟩
    exact ⟨fun t ht => by have := h1 t ht; simpa using this, h2, h3, h4, h5, h6, h7⟩
theorem ok_iff (q : Qy) : okQ q = true ↔ Pts q (tyL q.nodes) := pts_iff q _
theorem chk_ok {q : Qy} (h : okQ q = true) : chkE q = 0 ∧ chkL q = colS q (tyL q.nodes) := ⟨by unfold chkE; rw [if_pos h], by unfold chkL; rw [if_pos h]⟩
theorem chk_bad {q : Qy} (h : okQ q = false) : chkE q = 140 ∧ chkL q = [] := ⟨by unfold chkE; rw [h]; rfl, by unfold chkL; rw [h]; rfl⟩
theorem lik_ok {q r : Qy} (h : okQ q = true) (h' : okQ r = true) (hc : colS r (tyL r.nodes) = colS q (tyL q.nodes)) : likS r q = true := by
  obtain ⟨e1, e2⟩ := chk_ok h
  obtain ⟨e3, e4⟩ := chk_ok h'
  unfold likS
  rw [e1, e2, e3, e4, hc]
  simp
/-- no order, any limit -/
theorem more_one {q : Qy} (h : okQ q = true) {l : Int} (hl : -1 ≤ l) : likS ⟨q.nodes, q.wh, q.by', q.sh, [], l⟩ q = true := by
  have hp := (ok_iff q).1 h
  exact lik_ok h ((ok_iff _).2 ⟨hp.p1, hp.p2, hp.p3, hp.p4, hp.p5, fun x hx => (by cases hx), hl⟩) rfl
/-- no condition -/
theorem more_two {q : Qy} (h : okQ q = true) : likS ⟨q.nodes, -1, q.by', q.sh, q.ords, q.lim⟩ q = true := by
  have hp := (ok_iff q).1 h
  exact lik_ok h ((ok_iff _).2 ⟨hp.p1, .inl rfl, hp.p3, hp.p4, hp.p5, hp.p6, hp.p7⟩) rfl
theorem ord_more {w w' : Int} {x : Int × Bool} (h : ordS w x = true) (hw : w ≤ w') : ordS w' x = true := by
  unfold ordS at h ⊢
  simp only [Bool.and_eq_true, decide_eq_true_eq] at h ⊢
  omega
/-- one column of By more -/
theorem more_by {q : Qy} (h : okQ q = true) (f : Int) : okQ ⟨q.nodes, q.wh, f :: q.by', q.sh, q.ords, q.lim⟩ = isF f ∧ (isF f = true → chkL ⟨q.nodes, q.wh, f :: q.by', q.sh, q.ords, q.lim⟩ = fldT' f :: chkL q) := by
  have hp := (ok_iff q).1 h
  have hok : isF f = true → okQ ⟨q.nodes, q.wh, f :: q.by', q.sh, q.ords, q.lim⟩ = true := fun hf => (ok_iff _).2 ⟨hp.p1, hp.p2, fun g hg => by
    rcases List.mem_cons.1 hg with rfl | hg
    · exact hf
    · exact hp.p3 g hg, hp.p4, hp.p5, fun x hx => ord_more (hp.p6 x hx) (by simp only [List.length_cons]; omega), hp.p7⟩
  refine ⟨?_, fun hf => ?_⟩
  · by_cases hf : isF f = true
    · rw [hok hf, hf]
    · have hf' : isF f = false := by simpa using hf
      rw [hf']
      have : ¬ okQ ⟨q.nodes, q.wh, f :: q.by', q.sh, q.ords, q.lim⟩ = true := fun e => hf (((ok_iff _).1 e).p3 f (by simp))
      simpa using this
  · rw [(chk_ok (hok hf)).2, (chk_ok h).2]
    rfl
theorem fldT_ne (f : Int) : (!(fldT' f == 0)) = isF f := by
  by_cases h : isF f = true
  · rw [h]
    have h' := h
    rw [isF, Bool.and_eq_true, decide_eq_true_iff, decide_eq_true_iff] at h'
    obtain ⟨k, rfl⟩ : ∃ k : Nat, f = k := ⟨f.toNat, by omega⟩
    have hk : k < 15 := by omega
    have hk1 : 1 ≤ k := by omega
    have e : fldT' k = (fldL.getD k (⟨#[]⟩, 0)).2 := by unfold fldT' fldS; rw [if_pos h]; rfl
    rw [e]
    match k, hk, hk1 with
    | 1, _, _ => rfl
    | 2, _, _ => rfl
    | 3, _, _ => rfl
    | 4, _, _ => rfl
    | 5, _, _ => rfl
    | 6, _, _ => rfl
    | 7, _, _ => rfl
    | 8, _, _ => rfl
    | 9, _, _ => rfl
    | 10, _, _ => rfl
    | 11, _, _ => rfl
    | 12, _, _ => rfl
    | 13, _, _ => rfl
    | 14, _, _ => rfl
  · have h' : isF f = false := by simpa using h
    rw [h']
    have e : fldT' f = 0 := by unfold fldT' fldS; rw [if_neg h]
    rw [e]; rfl
/-- one of Show more -/
theorem more_show {q : Qy} (h : okQ q = true) {x : Int × Int} (hx : x ∈ q.sh) : okQ ⟨q.nodes, q.wh, q.by', q.sh ++ [x], q.ords, q.lim⟩ = true ∧ chkL ⟨q.nodes, q.wh, q.by', q.sh ++ [x], q.ords, q.lim⟩ = chkL q ++ [colT (tyL q.nodes) x] := by
  have hp := (ok_iff q).1 h
  have hok : okQ ⟨q.nodes, q.wh, q.by', q.sh ++ [x], q.ords, q.lim⟩ = true := (ok_iff _).2 ⟨hp.p1, hp.p2, hp.p3, by simp, fun y hy => by
    rcases List.mem_append.1 hy with hy | hy
    · exact hp.p5 y hy
    · rw [List.mem_singleton] at hy; subst hy; exact hp.p5 _ hx, fun y hy => ord_more (hp.p6 y hy) (by simp only [List.length_append]; omega), hp.p7⟩
  refine ⟨hok, ?_⟩
  rw [(chk_ok hok).2, (chk_ok h).2]
  unfold colS
  simp only [List.map_append, List.map_cons, List.map_nil, List.append_assoc]
theorem col_first {q : Qy} (h : okQ q = true) {x : Int × Int} {R : List (Int × Int)} (hx : q.sh = x :: R) : (chkL q)[q.by'.length]? = some (colT (tyL q.nodes) x) := by
  rw [(chk_ok h).2]
  unfold colS
  rw [List.getElem?_append_right (by simp), hx]
  simp
def ndNot (w : Int) : Nd := ⟨3, w, -1, 0, 0, ⟨#[]⟩⟩
def ndAnd (w n : Int) : Nd := ⟨2, w, n, 0, 0, ⟨#[]⟩⟩
theorem tat_last {T : List Int} (t : Int) : tat (T ++ [t]) (T.length : Int) = t := by
  unfold tat
  rw [if_neg (by simp; omega)]
  simp
/-- its condition and its opposite -/
theorem more_not {q : Qy} (h : okQ q = true) (hw : 0 ≤ q.wh) : likS ⟨q.nodes ++ [ndNot q.wh, ndAnd q.wh q.nodes.length], (q.nodes.length : Int) + 1, q.by', q.sh, q.ords, q.lim⟩ q = true := by
  have hp := (ok_iff q).1 h
  have hw4 : tat (tyL q.nodes) q.wh = 4 := hp.p2.elim (fun e => by omega) id
  have hlt : q.wh < ((tyL q.nodes).length : Int) := by
    by_cases hc : q.wh < ((tyL q.nodes).length : Int)
    · exact hc
    · unfold tat at hw4
      rw [if_pos (by omega)] at hw4
      cases hw4
  have hlen := tyL_len q.nodes
  have e1 : ntS (ndNot q.wh) (tyL q.nodes) = 4 := by
    show sgl 3 (tat (tyL q.nodes) q.wh) = 4
    rw [hw4]; rfl
  have e2 : ntS (ndAnd q.wh q.nodes.length) (tyL q.nodes ++ [4]) = 4 := by
    show prS 2 (tat (tyL q.nodes ++ [4]) q.wh) (tat (tyL q.nodes ++ [4]) (q.nodes.length : Int)) = 4
    have e3 : tat (tyL q.nodes ++ [4]) (q.nodes.length : Int) = 4 := by
      rw [← hlen]; exact tat_last 4
    rw [tat_append hlt, hw4, e3]; rfl
  have eT : tyL (q.nodes ++ [ndNot q.wh, ndAnd q.wh q.nodes.length]) = tyL q.nodes ++ [4, 4] := by
    have : q.nodes ++ [ndNot q.wh, ndAnd q.wh q.nodes.length] = (q.nodes ++ [ndNot q.wh]) ++ [ndAnd q.wh q.nodes.length] := by simp
    rw [this, tyL_snoc, tyL_snoc, e1, e2]; simp
  have e5 : tat (tyL q.nodes ++ [4, 4]) ((q.nodes.length : Int) + 1) = 4 := by
    have : tyL q.nodes ++ [4, 4] = (tyL q.nodes ++ [4]) ++ [4] := by simp
    rw [this]
    have e6 := tat_last (T := tyL q.nodes ++ [4]) 4
    rw [List.length_append, hlen] at e6
    exact e6
  refine lik_ok h ((ok_iff _).2 ?_) ?_
  · show Pts _ (tyL (q.nodes ++ [ndNot q.wh, ndAnd q.wh q.nodes.length]))
    rw [eT]
    refine ⟨fun t ht => ?_, .inr e5, hp.p3, hp.p4, fun x hx => (shw_append (hp.p5 x hx)).1, hp.p6, hp.p7⟩
    rcases List.mem_append.1 ht with ht | ht
    · exact hp.p1 t ht
    · simp at ht; omega
  · show colS _ (tyL (q.nodes ++ [ndNot q.wh, ndAnd q.wh q.nodes.length])) = _
    rw [eT]
    unfold colS
    congr 1
    apply List.map_congr_left
    intro x hx
    exact (shw_append (hp.p5 x hx)).2
end Go.Proofs.YtfpbljfebjochaaGreatDoor
