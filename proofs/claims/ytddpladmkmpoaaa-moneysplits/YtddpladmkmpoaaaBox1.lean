import Derived.Test.YtddpladmkmpoaaaBox
namespace Go.Proofs.Ytddpladmkmpoaaa
open Go.ChangeShapes Go.WideShapes Go.ChangeAt Go.RowKit
set_option linter.unusedVariables false

/-- one word put into a block -/
def put1 (w : World) (b j : Nat) (v : Int) : World := w.setCell ⟨b, j, none⟩ (.int .u64 v)
def may1 (w : World) (b j : Nat) : Prop := (∃ u, w.cell? ⟨b, j, none⟩ = some u) ∧ w.frozen? ⟨b, j, none⟩ = false
def st40 (x y : Value) : Sem Unit := Instr.storeAt 40 x y
theorem st40_is (x y : Value) : Instr.storeAt 40 x y = st40 x y := rfl
theorem run_st40 (w : World) (b j : Nat) (v : Int) (h : may1 w b j) : (st40 (.pointer (some ⟨b, j, none⟩)) (.int .u64 v)).run Try.prog w = .ok () (put1 w b j v) := by
  obtain ⟨⟨u, hu⟩, hf⟩ := h
  unfold st40 put1
  simp [go_sem, hu, hf]
theorem Box.may {w : World} {b n j : Nat} (h : Box w b n) (hj : j < 6) : may1 w b j := ⟨⟨_, h.at' j hj⟩, h.fz j hj⟩
theorem Box.put1 {w : World} {b n : Nat} (h : Box w b n) (m j : Nat) (v : Int) (hj : j < 6) (hv : dg m j = v) (ho : ∀ i, i < 6 → i ≠ j → dg m i = dg n i) : Box (put1 w b j v) b m := by
  unfold Ytddpladmkmpoaaa.put1
  refine ⟨by simpa using h.lt, fun i hi => ?_, fun i hi => by simpa using h.fz i hi⟩
  by_cases e : i = j
  · subst e
    rw [World.cell?_setCell_same _ _ _ (h.at' i hi), hv]
  · rw [World.cell?_setCell_other _ _ _ _ (by intro h'; injection h' with _ h' _; omega), h.at' i hi, ho i hi e]
theorem Box.other1 {w : World} {b n : Nat} (h : Box w b n) {c : Nat} (hc : b ≠ c) (j : Nat) (v : Int) : Box (Ytddpladmkmpoaaa.put1 w c j v) b n := by
  unfold Ytddpladmkmpoaaa.put1
  refine ⟨by simpa using h.lt, fun i hi => ?_, fun i hi => by simpa using h.fz i hi⟩
  rw [World.cell?_setCell_other _ _ _ _ (by intro h'; injection h' with h' _ _; exact hc h'.symm), h.at' i hi]
theorem below_put1 {B b : Nat} {a w : World} (h : Below B a w) (hb : B ≤ b) (j : Nat) (v : Int) : Below B a (put1 w b j v) := h.setCell hb _
theorem size_put1 (w : World) (b j : Nat) (v : Int) : (put1 w b j v).heap.size = w.heap.size := by simp [put1]
theorem Box.drew {w : World} {b n : Nat} (h : Box w b n) : Box w.drew b n := h.drewN 1
end Go.Proofs.Ytddpladmkmpoaaa
