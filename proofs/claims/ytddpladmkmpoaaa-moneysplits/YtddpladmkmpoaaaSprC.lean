/- The document's Split: the rows while units are given out. -/
import Derived.Test.YtddpladmkmpoaaaSprA
import Derived.Test.YtddpladmkmpoaaaShaN
import Derived.Test.YtddpladmkmpoaaaShaC
namespace Go.Proofs.Ytddpladmkmpoaaa
open Go Go.ChangeShapes Go.WideShapes Go.ChangeAt Go.RowKit
set_option linter.unusedVariables false
theorem info3s : (Try.prog.info? 3).map (fun i => (i.zero, i.size, i.bytes)) = some (some (.int .i64 0), 1, 8) := by kernel_rfl
theorem run_mk77 (n : Nat) (hn : n ≤ 1000) (w : World) : (Instr.makeSlice 77 (.int .i64 (n : Int)) (.int .i64 (n : Int))).run Try.prog w = .ok (.slice (some ⟨w.heap.size, 0, none⟩) n n) (w.alloc (.cells (madeCells #[.int .i64 0] n) 3)) := by
  obtain ⟨i0, hi, hz0, hsz, hz2⟩ := info_parts info3s
  have h := run_make (P := Try.prog) w 77 3 i0 (.int .i64 0) Try.underlying77 hi hz0 .i64 .i64 n n (by omega) (by omega) (by rw [hz2]; omega) (by omega)
  rw [hsz, Int.toNat_natCast, Nat.mul_one] at h
  exact h
theorem made_cell3 (w : World) (n x : Nat) (hx : x < n) : (w.alloc (.cells (madeCells #[.int .i64 0] n) 3)).cell? ⟨w.heap.size, x, none⟩ = some (.int .i64 0) := by
  rw [World.cell?_alloc_new]
  simp [madeCells, hx, Nat.mod_one]
def b2 (b : Bool) : Int := if b then 1 else 0
/-- parts, rests and what was given, at a round's head -/
structure At2 (T S : Nat) (zs : Nat → Int) (n : Nat) (g7 g8 gb : Nat) (gv : Nat → Bool) (w wr : World) : Prop where
  l7 : g7 < wr.heap.size
  l8 : g8 < wr.heap.size
  lg : gb < wr.heap.size
  parts : ∀ i, i < n → wr.cell? ⟨g7, i, none⟩ = some (.int .i64 ((qf T S zs i : Int) + b2 (gv i)))
  fz7 : ∀ i, wr.frozen? ⟨g7, i, none⟩ = false
  giv : ∀ i, i < n → wr.cell? ⟨gb, i, none⟩ = some (.int .i64 (b2 (gv i)))
  fzg : ∀ i, wr.frozen? ⟨gb, i, none⟩ = false
  rests : ∀ i, i < n → ∀ j, j < 6 → wr.cell? ⟨g8, i * 6 + j, none⟩ = some (.int .u64 (dg (rf T S zs i) j))
  bel : Below w.heap.size w wr
section
variable {T S n g7 g8 gb : Nat} {zs : Nat → Int} {gv : Nat → Bool} {w wr w1 : World}
theorem At2.below (h : At2 T S zs n g7 g8 gb gv w wr) (hb : Below wr.heap.size wr w1) : At2 T S zs n g7 g8 gb gv w w1 :=
  ⟨Nat.lt_of_lt_of_le h.l7 hb.size, Nat.lt_of_lt_of_le h.l8 hb.size, Nat.lt_of_lt_of_le h.lg hb.size, fun i hi => keep1 hb h.l7 (h.parts i hi), fun i => keepF hb h.l7 (h.fz7 i), fun i hi => keep1 hb h.lg (h.giv i hi), fun i => keepF hb h.lg (h.fzg i), fun i hi j hj => keep1 hb h.l8 (h.rests i hi j hj), h.bel.trans (hb.mono h.bel.size)⟩
theorem At2.drewN (h : At2 T S zs n g7 g8 gb gv w wr) (m : Nat) : At2 T S zs n g7 g8 gb gv w (wr.drewN m) :=
  h.below (below_drewN (Below.refl _ _) m)
theorem At2.give (h : At2 T S zs n g7 g8 gb gv w wr) (h7g : g7 ≠ gb) (h8g : g8 ≠ gb) (h78 : g8 ≠ g7) (hw7 : w.heap.size ≤ g7) (hwg : w.heap.size ≤ gb) {b : Nat} (hb : b < n) (hgb : gv b = false) :
    At2 T S zs n g7 g8 gb (fun i => if i = b then true else gv i) w ((wr.setCell ⟨gb, b, none⟩ (.int .i64 1)).setCell ⟨g7, b, none⟩ (.int .i64 ((qf T S zs b : Int) + 1))) := by
  have o1 : ∀ (x y i j : Nat), x ≠ y → (⟨x, i, none⟩ : Addr) ≠ ⟨y, j, none⟩ := fun x y i j hne e => by injection e with e1 _ _; exact hne e1
  refine ⟨by simpa using h.l7, by simpa using h.l8, by simpa using h.lg, fun i hi => ?_, fun i => by simpa using h.fz7 i, fun i hi => ?_, fun i => by simpa using h.fzg i, fun i hi j hj => ?_, (h.bel.setCell hwg _).setCell hw7 _⟩
  · by_cases e : i = b
    · subst e
      rw [World.cell?_setCell_same _ _ _ (by rw [World.cell?_setCell_other _ _ _ _ (o1 _ _ _ _ (Ne.symm h7g))]; exact h.parts i hi)]
      simp [b2]
    · rw [World.cell?_setCell_other _ _ _ _ (by intro h'; injection h' with _ h' _; omega), World.cell?_setCell_other _ _ _ _ (o1 _ _ _ _ (Ne.symm h7g)), h.parts i hi]
      simp only [if_neg e]
  · rw [World.cell?_setCell_other _ _ _ _ (o1 _ _ _ _ h7g)]
    by_cases e : i = b
    · subst e
      rw [World.cell?_setCell_same _ _ _ (h.giv i hi)]
      simp [b2]
    · rw [World.cell?_setCell_other _ _ _ _ (by intro h'; injection h' with _ h' _; omega), h.giv i hi]
      simp only [if_neg e]
  · rw [World.cell?_setCell_other _ _ _ _ (o1 _ _ _ _ (Ne.symm h78)), World.cell?_setCell_other _ _ _ _ (o1 _ _ _ _ (Ne.symm h8g))]
    exact h.rests i hi j hj
end
/-- the parts, of which the first i have their sign -/
structure At3 (n g7 : Nat) (f : Nat → Int) (w wr : World) : Prop where
  l7 : g7 < wr.heap.size
  cells : ∀ x, x < n → wr.cell? ⟨g7, x, none⟩ = some (.int .i64 (f x))
  fz : ∀ x, wr.frozen? ⟨g7, x, none⟩ = false
  bel : Below w.heap.size w wr
theorem At3.set {n g7 : Nat} {f : Nat → Int} {w wr : World} (h : At3 n g7 f w wr) (hw : w.heap.size ≤ g7) {x : Nat} (hx : x < n) (v : Int) : At3 n g7 (fun i => if i = x then v else f i) w (wr.setCell ⟨g7, x, none⟩ (.int .i64 v)) := by
  refine ⟨by simpa using h.l7, fun i hi => ?_, fun i => by simpa using h.fz i, h.bel.setCell hw _⟩
  by_cases e : i = x
  · subst e
    rw [World.cell?_setCell_same _ _ _ (h.cells i hi)]
    simp
  · rw [World.cell?_setCell_other _ _ _ _ (by intro h'; injection h' with _ h' _; omega), h.cells i hi]
    simp only [if_neg e]
theorem At3.ext {n g7 : Nat} {f g : Nat → Int} {w wr : World} (h : At3 n g7 f w wr) (he : ∀ x, x < n → f x = g x) : At3 n g7 g w wr := ⟨h.l7, fun x hx => by rw [h.cells x hx, he x hx], h.fz, h.bel⟩
/-- what the document's Split hands back -/
def RefOut (T S : Nat) (zs : Nat → Int) (n : Nat) (neg : Bool) (w : World) (e : Ending) (w' : World) : Prop :=
  ∃ pb c, e = .returned (.tuple #[.slice (some ⟨pb, 0, none⟩) n c, .int .i64 0]) ∧ w.heap.size ≤ pb ∧ pb < w'.heap.size ∧ (∀ x, x < n → w'.cell? ⟨pb, x, none⟩ = some (.int .i64 (sgn neg (part T S zs n x)))) ∧ Below w.heap.size w w'
end Go.Proofs.Ytddpladmkmpoaaa
