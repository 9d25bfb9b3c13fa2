/- The document's Split (24): what its first loop lays: quotients, rests, what is left. -/
import Derived.Test.YtddpladmkmpoaaaWtsR
import Derived.Laws.AppendOwn
import Derived.Laws.AppendOwnNone
import Derived.Laws.OwnMore
import Derived.Deep.AppendLies
import Derived.Deep.RegionHeld3
namespace Go.Proofs.Ytddpladmkmpoaaa
open Go.ChangeShapes Go.WideShapes Go.ChangeAt Go.RowKit
set_option linter.unusedVariables false
theorem of_open (a : Int) (T : Nat) (hT : a.natAbs = T) (w : World) (h0 : -9223372036854775808 ≤ a) (h1 : a ≤ 9223372036854775807) :
    Calls Try.prog 30 #[.int .i64 a] w fun e w' => e = .returned (.agg #[.int .u64 (dg T 0), .int .u64 (dg T 1), .int .u64 (dg T 2), .int .u64 (dg T 3), .int .u64 (dg T 4), .int .u64 (dg T 5)]) ∧ Below w.heap.size w w' := by
  rw [← hT]
  exact of_any a w h0 h1
/-- the quotients as cells -/
def qCells (q : Nat → Nat) (k : Nat) : List Value := (List.range k).map fun i => .int .i64 (q i : Int)
/-- a number's six words -/
def six6 (n : Nat) : List Value := [.int .u64 (dg n 0), .int .u64 (dg n 1), .int .u64 (dg n 2), .int .u64 (dg n 3), .int .u64 (dg n 4), .int .u64 (dg n 5)]
/-- the rests as cells, six each -/
def rCells (r : Nat → Nat) : Nat → List Value
  | 0 => []
  | k + 1 => rCells r k ++ six6 (r k)
theorem qCells_succ (q : Nat → Nat) (k : Nat) : qCells q (k + 1) = qCells q k ++ [.int .i64 (q k : Int)] := by simp [qCells, List.range_succ]
theorem qCells_get (q : Nat → Nat) (k j : Nat) (h : j < k) : (qCells q k)[j]? = some (.int .i64 (q j : Int)) := by simp [qCells, h]
theorem rCells_len (r : Nat → Nat) : ∀ k, (rCells r k).length = k * 6
  | 0 => rfl
  | k + 1 => by rw [rCells, List.length_append, rCells_len r k]; simp [six6]; omega
theorem six6_get (n j : Nat) (h : j < 6) : (six6 n)[j]? = some (.int .u64 (dg n j)) := by
  have : j = 0 ∨ j = 1 ∨ j = 2 ∨ j = 3 ∨ j = 4 ∨ j = 5 := by omega
  rcases this with rfl | rfl | rfl | rfl | rfl | rfl <;> rfl
theorem rCells_get (r : Nat → Nat) : ∀ (k i j : Nat), i < k → j < 6 → (rCells r k)[i * 6 + j]? = some (.int .u64 (dg (r i) j))
  | 0, i, j, h, _ => by omega
  | k + 1, i, j, h, hj => by
    rw [rCells]
    by_cases e : i = k
    · subst e
      rw [List.getElem?_append_right (by rw [rCells_len]; omega), rCells_len, show i * 6 + j - i * 6 = j by omega]
      exact six6_get _ _ hj
    · rw [List.getElem?_append_left (by rw [rCells_len]; omega)]
      exact rCells_get r k i j (by omega) hj
structure At1 (T S : Nat) (q r cum : Nat → Nat) (sb lb : Nat) (w : World) (k : Nat) (v7 v8 : Value) (wr : World) : Prop where
  sum : Box wr sb S
  left : Box wr lb (T - cum k)
  parts : wr.ownsRow (lb + 1) 2 1 v7 k (qCells q k)
  rests : wr.ownsRow (lb + 1) 46 6 v8 k (rCells r k)
  bel : Below w.heap.size w wr
theorem Box.grown {w w' : World} {b n : Nat} {row : Option Nat} (h : Box w b n) (hg : w.grownBy w' row) (hne : some b ≠ row) : Box w' b n :=
  ⟨Nat.lt_of_lt_of_le h.lt hg.size, fun i hi => (hg.cell_far ⟨b, i, none⟩ h.lt hne).trans (h.at' i hi), fun i hi => (hg.frozen_far ⟨b, i, none⟩ h.lt hne).trans (h.fz i hi)⟩
theorem there_new (w : World) (a0 a1 a2 a3 a4 a5 : Int) : (w.alloc (.cells #[.int .u64 a0, .int .u64 a1, .int .u64 a2, .int .u64 a3, .int .u64 a4, .int .u64 a5] 46)).there w.heap.size 0 6 := by
  intro j hj
  rw [Nat.zero_add]
  have hj' : j = 0 ∨ j = 1 ∨ j = 2 ∨ j = 3 ∨ j = 4 ∨ j = 5 := by omega
  rcases hj' with rfl | rfl | rfl | rfl | rfl | rfl <;> simp
theorem there_lt {w : World} {b : Nat} (h : w.there b 0 6) : b < w.heap.size := by
  have := (h 0 (by omega)).1
  obtain ⟨u, hu⟩ := Option.isSome_iff_exists.1 this
  exact World.block_lt_of_cell? w _ hu
theorem there_below {W w1 : World} {b : Nat} (hb : Below W.heap.size W w1) (h : W.there b 0 6) : w1.there b 0 6 := by
  intro j hj
  have hl := there_lt h
  have := h j hj
  rw [hb.cell (p := ⟨b, 0 + j, none⟩) hl, hb.frozen (p := ⟨b, 0 + j, none⟩) hl]
  exact this
theorem there_alloc {w : World} {b : Nat} (o : Obj) (h : w.there b 0 6) : (w.alloc o).there b 0 6 := there_below (bal (Below.refl _ _) o) h
theorem there_put6 {w : World} {b c n : Nat} (h : w.there b 0 6) : (put6 w c n).there b 0 6 := by
  intro j hj
  have := h j hj
  unfold put6
  by_cases e : b = c
  · subst e
    refine ⟨?_, by rw [frozen_setCells]; exact this.2⟩
    have hr := World.rangeAt_setCells_same w b 0 (six6 n) h
    rw [Nat.zero_add]
    have := hr j _ (six6_get n j hj)
    rw [Nat.zero_add] at this
    exact Option.isSome_iff_exists.2 ⟨_, this⟩
  · refine ⟨?_, by rw [frozen_setCells]; exact this.2⟩
    rw [World.cell?_setCells_out _ _ _ _ _ (fun e' => absurd e' e)]
    exact this.1
end Go.Proofs.Ytddpladmkmpoaaa
