/- Texts of things by function values. -/
import Derived.Test.YtcafhmlpmbkhkaaGreatDoorGrdD
namespace Go.Proofs.YtcafhmlpmbkhkaaGreatDoor
open Go Go.Shelf Go.ChangeShapes Go.WideShapes Go.ChangeAt Go.RowKit Go.Maps
set_option linter.unusedVariables false
set_option linter.unusedSimpArgs false
/-- a function value that answers the text f of a thing, wherever G holds -/
def FnOK {α : Type} (cv : α → Value) (ok : α → Prop) (G : World → Prop) (fv : Value) (f : α → Tx) : Prop :=
  ∃ g, (∀ args w, (callFunc g args).run Tryz.prog w = .ok (.enter g args) w) ∧
    ((fv = .func (.func g) #[] #[] ∧ ∀ x W, ok x → G W → Calls Tryz.prog g #[cv x] W (TxtOut W (f x))) ∨
    (∃ b, fv = .func (.func g) #[b] #[] ∧ ∀ x W, ok x → G W → Calls Tryz.prog g #[b, cv x] W (TxtOut W (f x))) ∨
    (∃ c, fv = .func (.func g) #[] #[c] ∧ ∀ x W, ok x → G W → Calls Tryz.prog g #[cv x, c] W (TxtOut W (f x))))
/-- columns: function values with what they answer -/
def rowF {α : Type} (FS : List (Value × (α → Tx))) (x : α) : List Tx := FS.map fun p => p.2 x
theorem rowF_len {α : Type} (FS : List (Value × (α → Tx))) (x : α) : (rowF FS x).length = FS.length := by simp [rowF]
/-- the first j texts of a row, the others empty -/
def midF (l : List Tx) (j : Nat) : List Tx := l.take j ++ List.replicate (l.length - j) []
theorem midF_zero (l : List Tx) : midF l 0 = List.replicate l.length [] := by simp [midF]
theorem midF_end (l : List Tx) : midF l l.length = l := by simp [midF]
theorem midF_len (l : List Tx) (j : Nat) (h : j ≤ l.length) : (midF l j).length = l.length := by
  rw [midF, List.length_append, List.length_take, List.length_replicate]
  omega
theorem kT_flat (L : List Tx) : kT.flat L = L.map fun x => .string (txB x) := by
  induction L with
  | nil => rfl
  | cons a L ih => rw [List.map_cons, ← ih]; rfl
theorem midF_step (l : List Tx) (j : Nat) (x : Tx) (h : l[j]? = some x) : (kT.flat (midF l j)).set j (.string (txB x)) = kT.flat (midF l (j + 1)) := by
  have hj : j < l.length := by
    rcases Nat.lt_or_ge j l.length with h1 | h1
    · exact h1
    · rw [List.getElem?_eq_none h1] at h; cases h
  rw [List.getElem?_eq_getElem hj] at h
  have hx : l[j] = x := Option.some.inj h
  rw [kT_flat, kT_flat, ← List.map_set (f := fun x => Value.string (txB x)) (a := x)]
  congr 1
  unfold midF
  rw [List.take_succ_eq_append_getElem hj, hx, show l.length - j = (l.length - (j + 1)) + 1 by omega, List.replicate_succ, List.append_assoc]
  rw [List.set_append_right _ _ (by rw [List.length_take]; omega), List.length_take, Nat.min_eq_left (by omega), Nat.sub_self]
  rfl
/-- a row being filled, in a block of texts of the call's own -/
structure CsAt (w : World) (l : List Tx) (j g : Nat) (wr : World) : Prop where
  own : wr.ownsRow w.heap.size 9 1 (.slice (some ⟨g, 0, none⟩) l.length l.length) l.length (kT.flat (midF l j))
  bel : Below w.heap.size w wr
theorem CsAt.begin (w : World) (l : List Tx) (hl : l.length ≤ 70000000000000) : CsAt w l 0 w.heap.size (w.alloc (.cells (madeCells (Value.string ⟨#[]⟩).cells (l.length * 1)) 9)) := by
  refine ⟨?_, bal (Below.refl _ _) _⟩
  have hs : (madeCells (Value.string ⟨#[]⟩).cells (l.length * 1)).size = l.length * 1 := by rw [size_madeCells]
  have ho := World.ownsRow_lit (base := w.heap.size) (e := 9) (size := 1) w (madeCells (Value.string ⟨#[]⟩).cells (l.length * 1)) l.length (Nat.le_refl _) (by unfold maxLen; omega) hs
  have e : (madeCells (Value.string ⟨#[]⟩).cells (l.length * 1)).toList = kT.flat (midF l 0) := by
    rw [midF_zero, Nat.mul_one]
    show (madeCells #[.string ⟨#[]⟩] l.length).toList = _
    rw [toList_madeCells_one, kT_flat, List.map_replicate]
    rfl
  rwa [e] at ho
theorem CsAt.below {w : World} {l : List Tx} {j g : Nat} {wr W : World} (h : CsAt w l j g wr) (hb : Below wr.heap.size wr W) : CsAt w l j g W := ⟨own_below h.own hb, h.bel.trans (hb.mono h.bel.size)⟩
theorem CsAt.set {w : World} {l : List Tx} {j g : Nat} {wr : World} (h : CsAt w l j g wr) {x : Tx} (hx : l[j]? = some x) : CsAt w l (j + 1) g (wr.setCell ⟨g, j, none⟩ (.string (txB x))) := by
  have hg : w.heap.size ≤ g := (h.own.lt g rfl).1
  refine ⟨?_, h.bel.setCell (p := ⟨g, j, none⟩) hg _⟩
  have := (h.own.stored j (.string (txB x))).1
  rwa [midF_step l j x hx] at this
theorem CsAt.row {w : World} {l : List Tx} {g : Nat} {wr : World} (h : CsAt w l l.length g wr) : RowIs wr ⟨some ⟨g, 0, none⟩, l.length, l.length⟩ l := by
  have ho := h.own
  rw [midF_end] at ho
  refine ⟨rfl, (fun e => by cases e), own_lies kT_ok rfl ho, fun a ha => ?_⟩
  cases ha
  rcases ho.2 with ⟨h1, _⟩ | ⟨g', cap, cur, e1, _, hh, _⟩
  · cases h1
  · injection e1 with e1
    cases e1
    exact ⟨cur, (0, 0), hh⟩
/-- what set leaves -/
def SetOut {α : Type} (B : Nat) (w0 : World) (d : Nat) (S : List Int) (R : List (List Tx)) (FS : List (Value × (α → Tx))) (X : List α) (e : Ending) (w' : World) : Prop := (∃ v, e = .returned v) ∧ Gr B w' d S (R ++ X.map (rowF FS)) ∧ Gd B w0 w'
end Go.Proofs.YtcafhmlpmbkhkaaGreatDoor
