import Derived.Test.YtcafhmlpmbkhkaaGreatDoorW38
import Derived.Test.YtcafhmlpmbkhkaaGreatDoorW40
/- The document's Statement: what a round of the ages leaves. -/
namespace Go.Proofs.YtcafhmlpmbkhkaaGreatDoor
open Go Go.Shelf Go.ChangeShapes Go.WideShapes Go.ChangeAt Go.RowKit Go.Maps
set_option linter.unusedVariables false
set_option linter.unusedSimpArgs false
/-- a round's head -/
structure R2At (w : World) (RL : List (List Tx)) (AL : List Int) (j : Nat) (sv av : Value) (wr : World) : Prop where
  oa : wr.ownsRow w.heap.size 2 1 av j (kN.flat (AL.take j))
  rl : Rl w.heap.size wr sv (RL.take j)
  bel : Below w.heap.size w wr
theorem R2At.start (w : World) (RL : List (List Tx)) (AL : List Int) : R2At w RL AL 0 (.slice none 0 0) (.slice none 0 0) w :=
  ⟨by rw [List.take_zero]; exact World.ownsRow_nil _ _ _ _, ⟨[], by exact World.ownsRow_nil _ _ _ _, rfl, fun k s r hs => by simp at hs⟩, Below.refl _ _⟩
theorem take_up {α : Type} {l : List α} {j : Nat} {x : α} (h : l[j]? = some x) : l.take (j + 1) = l.take j ++ [x] := by
  have hj := (List.getElem?_eq_some_iff.1 h).1
  rw [List.take_succ_eq_append_getElem hj]
  rw [List.getElem?_eq_getElem hj] at h
  rw [Option.some.inj h]
theorem r2_amt {w W : World} {RL : List (List Tx)} {AL : List Int} {j : Nat} {sv av : Value} (h : R2At w RL AL j sv av W) {x : Int} (hx : AL[j]? = some x) (hn : j + 1 ≤ 1099511627776) :
    ∃ po co w2, (Builtin.append_ #[92, 92] 92 #[av, .slice (some ⟨W.heap.size, 0, none⟩) 1 1]).run Tryz.prog (W.alloc (.cells #[.int .i64 x] 2)) = .ok (.slice po (j + 1) co) w2 ∧ K2 W w2 ∧
      w2.ownsRow w.heap.size 2 1 (.slice po (j + 1) co) (j + 1) (kN.flat (AL.take (j + 1))) ∧ Below w.heap.size w w2 := by
  obtain ⟨po, co, w2, r1, o1, b1, k1, q1⟩ := amt_app h.oa h.bel.size x hn
  refine ⟨po, co, w2, r1, ⟨b1.size, fun k ys ty f hk h2 => k1 k (Array.getElem?_eq_some_iff.1 hk).1 (not_own h.oa hk h2)⟩, ?_, h.bel.trans b1⟩
  rw [take_up hx]
  exact o1
theorem r2_row {w W w2 Y : World} {RL : List (List Tx)} {AL : List Int} {j : Nat} {sv av av' : Value} (h : R2At w RL AL j sv av W) (hk : K2 W w2) (ho : w2.ownsRow w.heap.size 2 1 av' (j + 1) (kN.flat (AL.take (j + 1)))) (hb : Below w.heap.size w w2)
    (hY : Below w2.heap.size w2 Y) {g : Nat} {r : List Tx} (hr : RowIs Y ⟨some ⟨g, 0, none⟩, 2, 2⟩ r) (hR : RL[j]? = some r) (hn : j + 1 ≤ 1099511627776) :
    ∃ pr cr w4, (Builtin.append_ #[94, 94] 94 #[sv, .slice (some ⟨Y.heap.size, 0, none⟩) 1 1]).run Tryz.prog (Y.alloc (.cells #[.slice (some ⟨g, 0, none⟩) 2 2] 93)) = .ok (.slice pr (j + 1) cr) w4 ∧ R2At w RL AL (j + 1) (.slice pr (j + 1) cr) av' w4 ∧
      (∀ (k : Nat) (ys : Array Value) (ty : TypeId) (f : Nat × Nat), Y.heap[k]? = some (Obj.cells ys ty f) → ty ≠ 93 → w4.heap[k]? = Y.heap[k]?) := by
  have hrl : Rl w.heap.size Y sv (RL.take j) := (h.rl.k2 hk).below hY
  have hbY : Below w.heap.size w Y := hb.trans (hY.mono hb.size)
  have hlen : (RL.take j).length = j := by
    rw [List.length_take]
    have := (List.getElem?_eq_some_iff.1 hR).1
    omega
  obtain ⟨pr, cr, w4, rr, rl4, b4, k4⟩ := hrl.app hbY.size hr (by rw [hlen]; exact hn)
  rw [hlen] at rr rl4
  have hvr : ∀ (g : Nat) (ys : Array Value) (ty : TypeId) (f : Nat × Nat), Y.heap[g]? = some (Obj.cells ys ty f) → ty ≠ 93 → sv.ownBlock ≠ some g := fun g ys ty f hgy ht => by
    obtain ⟨L, hL⟩ := hrl
    exact not_own hL.own hgy ht
  have hk4 : ∀ (k : Nat) (ys : Array Value) (ty : TypeId) (f : Nat × Nat), Y.heap[k]? = some (Obj.cells ys ty f) → ty ≠ 93 → w4.heap[k]? = Y.heap[k]? := fun k ys ty f hk ht => k4 k (Array.getElem?_eq_some_iff.1 hk).1 (hvr k ys ty f hk ht)
  refine ⟨pr, cr, w4, rr, ⟨?_, ?_, hbY.trans b4⟩, hk4⟩
  · have hoY := own_below ho hY
    refine row_keep hoY (fun g hg => ?_)
    obtain ⟨ys, hy⟩ := own_obj hoY hg
    exact hk4 g ys 2 _ hy (by decide)
  · rw [take_up hR]
    exact rl4
end Go.Proofs.YtcafhmlpmbkhkaaGreatDoor
/- Two lists of rows side by side. -/
namespace Go.Proofs.YtcafhmlpmbkhkaaGreatDoor
open Go Go.Shelf Go.ChangeShapes Go.WideShapes Go.ChangeAt Go.RowKit Go.Maps
set_option linter.unusedVariables false
set_option linter.unusedSimpArgs false
theorem foldl_min_ge : ∀ (l : List Int) (a : Int), 0 ≤ a → (∀ z ∈ l, 0 ≤ z) → 0 ≤ l.foldl min a
  | [], a, h, _ => h
  | x :: l, a, h, hl => foldl_min_ge l (min a x) (by have := hl x (by simp); omega) (fun z hz => hl z (by simp [hz]))
theorem min_pos {l : List Int} (h : ∀ z ∈ l, 0 ≤ z) : 0 ≤ Lib.minOf l := by
  refine foldl_min_ge l _ ?_ h
  cases l with
  | nil => exact Int.le_refl _
  | cons a l => exact h a (by simp)
/-- rows of another list stay when only one block of lists changes -/
theorem Rl.aside {B C : Nat} {W W' : World} {v u : Value} {R : List (List Tx)} (h : Rl B W v R) (hB : Below C W W') (hK : ∀ k, k < W.heap.size → u.ownBlock ≠ some k → W'.heap[k]? = W.heap[k]?) (hu : ∀ g, v.ownBlock = some g → u.ownBlock ≠ some g)
    (hU : ∀ (k : Nat) (ys : Array Value) (t : TypeId) (f : Nat × Nat), W.heap[k]? = some (Obj.cells ys t f) → t ≠ 93 → u.ownBlock ≠ some k) : Rl B W' v R := by
  obtain ⟨L, h⟩ := h
  have gd : Gd C W W' := ⟨hB, fun k ys t f hk h1 h2 => hK k (Array.getElem?_eq_some_iff.1 hk).1 (hU k ys t f hk h2)⟩
  exact ⟨L, row_keep h.own (fun q hq => hK q (h.own.lt q hq).2 (hu q hq)), h.len, fun k s r hs hr => (h.row k s r hs hr).gd gd⟩
/-- an append of a row, with the block that it leaves -/
theorem Rl.app2 {B : Nat} {W : World} {v : Value} {R : List (List Tx)} (h : Rl B W v R) (hB : B ≤ W.heap.size) {p : Option Addr} {n c : Nat} {r : List Tx} (hr : RowIs W ⟨p, n, c⟩ r) (hn : R.length + 1 ≤ 1099511627776) :
    ∃ p' c' w', (Builtin.append_ #[94, 94] 94 #[v, .slice (some ⟨W.heap.size, 0, none⟩) 1 1]).run Tryz.prog (W.alloc (.cells #[.slice p n c] 93)) = .ok (.slice p' (R.length + 1) c') w' ∧ Rl B w' (.slice p' (R.length + 1) c') (R ++ [r]) ∧ Below B W w' ∧ (∀ k, k < W.heap.size → v.ownBlock ≠ some k → w'.heap[k]? = W.heap[k]?) ∧
      ((Value.slice p' (R.length + 1) c').ownBlock = v.ownBlock ∨ (Value.slice p' (R.length + 1) c').ownBlock = some (W.heap.size + 1)) ∧ (∀ (k : Nat) (ys : Array Value) (t : TypeId) (f : Nat × Nat), W.heap[k]? = some (Obj.cells ys t f) → t ≠ 93 → v.ownBlock ≠ some k) := by
  obtain ⟨L, h⟩ := h
  obtain ⟨O, hO⟩ : ∃ O, O = Obj.cells #[.slice p n c] 93 := ⟨_, rfl⟩
  have b0 : Below W.heap.size W (W.alloc O) := bal (Below.refl _ _) _
  obtain ⟨p', c', w1, r1, o1, b1, k1, q1⟩ := run_app kS_ok (L := L) (M := [(⟨p, n, c⟩ : Sl)]) 94 (h.own.alloc O) (Nat.le_trans hB b0.size) (some ⟨W.heap.size, 0, none⟩) 1 (fun h => by cases h) (by rw [hO]; exact one_lies W (⟨p, n, c⟩ : Sl) 93 _ rfl) hn
  simp only [List.length_singleton] at r1 o1 q1
  rw [hO] at r1
  have kk : ∀ k, k < W.heap.size → v.ownBlock ≠ some k → w1.heap[k]? = W.heap[k]? := fun k hk hne => (k1 k (Nat.lt_of_lt_of_le hk b0.size) hne).trans (b0.block k hk)
  have gd : Gd B W w1 := ⟨(b0.mono hB).trans b1, fun k ys t f hk h1 h2 => kk k (Array.getElem?_eq_some_iff.1 hk).1 (not_own h.own hk h2)⟩
  refine ⟨p', c', w1, r1, ⟨L ++ [(⟨p, n, c⟩ : Sl)], ?_, by simp [h.len], fun k s r' hs hr' => ?_⟩, gd.bel, kk, by simpa using q1, fun k ys t f hk ht => not_own h.own hk ht⟩
  · rw [List.length_append, List.length_singleton]
    exact o1
  · by_cases hk : k < R.length
    · rw [List.getElem?_append_left (by rw [h.len]; exact hk)] at hs
      rw [List.getElem?_append_left hk] at hr'
      exact (h.row k s r' hs hr').gd gd
    · have hk2 : k = R.length := by
        have := (List.getElem?_eq_some_iff.1 hr').1
        rw [List.length_append, List.length_singleton] at this
        omega
      subst hk2
      rw [List.getElem?_append_right (Nat.le_refl _), Nat.sub_self] at hr'
      rw [List.getElem?_append_right (by rw [h.len]; exact Nat.le_refl _), h.len, Nat.sub_self] at hs
      cases hs
      cases hr'
      exact hr.gd gd
end Go.Proofs.YtcafhmlpmbkhkaaGreatDoor
