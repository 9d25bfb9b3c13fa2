/- Amounts of things; sums of lists. -/
import Derived.Test.YtcafhmlpmbkhkaaGreatDoorMnyA
import Derived.Test.YtcafhmlpmbkhkaaGreatDoorSetN
namespace Go.Proofs.YtcafhmlpmbkhkaaGreatDoor
open Go Go.Shelf Go.ChangeShapes Go.WideShapes Go.ChangeAt Go.RowKit Go.Maps
set_option linter.unusedVariables false
set_option linter.unusedSimpArgs false
theorem Lies.below' {α : Type} {K : Kd α} {W W' : World} {p : Option Addr} {L : List α} (h : Lies K W p L) (hb : Below W.heap.size W W') : Lies K W' p L := h.below hb
/-- amounts -/
def kN : Kd Int := ⟨fun x => [.int .i64 x], 1, 92, 2, 8⟩
theorem kN_ok : KdOK kN := kd_ok (fun _ => rfl) (by decide) (fun x u hu => by simp [kN] at hu; subst hu; rfl) Tryz.underlying92 (z := .int .i64 0) (by kernel_rfl) rfl (by decide)
theorem kN_flat (L : List Int) : kN.flat L = L.map (Value.int .i64) := by
  induction L with
  | nil => rfl
  | cons a L ih => rw [List.map_cons, ← ih]; rfl
/-- the sum of a list, and the error -/
def sumL (l : List Int) : Int × Int := sumSpec (fun k => l.getD k 0) l.length
/-- the first j amounts of a list, the others 0 -/
def midN (l : List Int) (j : Nat) : List Int := l.take j ++ List.replicate (l.length - j) 0
theorem midN_zero (l : List Int) : midN l 0 = List.replicate l.length 0 := by simp [midN]
theorem midN_end (l : List Int) : midN l l.length = l := by simp [midN]
theorem midN_len (l : List Int) (j : Nat) (h : j ≤ l.length) : (midN l j).length = l.length := by
  rw [midN, List.length_append, List.length_take, List.length_replicate]
  omega
theorem midN_step (l : List Int) (j : Nat) (x : Int) (h : l[j]? = some x) : (kN.flat (midN l j)).set j (.int .i64 x) = kN.flat (midN l (j + 1)) := by
  have hj : j < l.length := by
    rcases Nat.lt_or_ge j l.length with h1 | h1
    · exact h1
    · rw [List.getElem?_eq_none h1] at h; cases h
  rw [List.getElem?_eq_getElem hj] at h
  have hx : l[j] = x := Option.some.inj h
  rw [kN_flat, kN_flat, ← List.map_set (f := Value.int .i64) (a := x)]
  congr 1
  unfold midN
  rw [List.take_succ_eq_append_getElem hj, hx, show l.length - j = (l.length - (j + 1)) + 1 by omega, List.replicate_succ, List.append_assoc]
  rw [List.set_append_right _ _ (by rw [List.length_take]; omega), List.length_take, Nat.min_eq_left (by omega), Nat.sub_self]
  rfl
structure NsAt (w : World) (l : List Int) (j g : Nat) (wr : World) : Prop where
  own : wr.ownsRow w.heap.size 2 1 (.slice (some ⟨g, 0, none⟩) l.length l.length) l.length (kN.flat (midN l j))
  bel : Below w.heap.size w wr
theorem NsAt.begin (w : World) (l : List Int) (hl : l.length ≤ 70000000000000) : NsAt w l 0 w.heap.size (w.alloc (.cells (madeCells (Value.int .i64 0).cells (l.length * 1)) 2)) := by
  refine ⟨?_, bal (Below.refl _ _) _⟩
  have hs : (madeCells (Value.int .i64 0).cells (l.length * 1)).size = l.length * 1 := by rw [size_madeCells]
  have ho := World.ownsRow_lit (base := w.heap.size) (e := 2) (size := 1) w (madeCells (Value.int .i64 0).cells (l.length * 1)) l.length (Nat.le_refl _) (by unfold maxLen; omega) hs
  have e : (madeCells (Value.int .i64 0).cells (l.length * 1)).toList = kN.flat (midN l 0) := by
    rw [midN_zero, Nat.mul_one]
    show (madeCells #[.int .i64 0] l.length).toList = _
    rw [toList_madeCells_one, kN_flat, List.map_replicate]
  rwa [e] at ho
theorem NsAt.below {w : World} {l : List Int} {j g : Nat} {wr W : World} (h : NsAt w l j g wr) (hb : Below wr.heap.size wr W) : NsAt w l j g W := ⟨own_below h.own hb, h.bel.trans (hb.mono h.bel.size)⟩
theorem NsAt.set {w : World} {l : List Int} {j g : Nat} {wr : World} (h : NsAt w l j g wr) {x : Int} (hx : l[j]? = some x) : NsAt w l (j + 1) g (wr.setCell ⟨g, j, none⟩ (.int .i64 x)) := by
  have hg : w.heap.size ≤ g := (h.own.lt g rfl).1
  refine ⟨?_, h.bel.setCell (p := ⟨g, j, none⟩) hg _⟩
  have := (h.own.stored j (.int .i64 x)).1
  rwa [midN_step l j x hx] at this
theorem NsAt.cells {w : World} {l : List Int} {g : Nat} {wr : World} (h : NsAt w l l.length g wr) : ∀ k, k < l.length → wr.cell? ⟨g, 0 + k, none⟩ = some (.int .i64 (l.getD k 0)) := fun k hk => by
  have := h.own.cellAt k (by omega)
  rw [Nat.zero_add, this, midN_end, kN_flat, List.getElem?_map, List.getElem?_eq_getElem hk, List.getD_eq_getElem?_getD, List.getElem?_eq_getElem hk]
  rfl
/-- a function value that answers the amount f of a thing -/
def WnOK {α : Type} (cv : α → Value) (ok : α → Prop) (fv : Value) (f : α → Int) : Prop :=
  ∃ g, (∀ args w, (callFunc g args).run Tryz.prog w = .ok (.enter g args) w) ∧ fv = .func (.func g) #[] #[] ∧ ∀ x W, ok x → Calls Tryz.prog g #[cv x] W fun e w' => e = .returned (.int .i64 (f x)) ∧ Below W.heap.size W w'
/-- what worths hands back -/
def WorOut (w : World) (l : List Int) (e : Ending) (w' : World) : Prop := ∃ g, e = .returned (.slice (some ⟨g, 0, none⟩) l.length l.length) ∧ NsAt w l l.length g w'
/-- what total hands back -/
def TotOut (w : World) (l : List Int) (e : Ending) (w' : World) : Prop := e = .returned (.tuple #[.int .i64 (sumL l).1, .int .i64 (sumL l).2]) ∧ Below w.heap.size w w'
end Go.Proofs.YtcafhmlpmbkhkaaGreatDoor
