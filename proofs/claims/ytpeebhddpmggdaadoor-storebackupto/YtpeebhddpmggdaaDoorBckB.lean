/- StoreBack (3): what its walk wants. -/
import Derived.Test.YtpeebhddpmggdaaDoorBckA
namespace Go.Proofs.YtpeebhddpmggdaaDoor
open Go Go.RowKit Go.Shelf Go.ChangeShapes Go.WideShapes Go.ChangeAt
set_option linter.unusedVariables false
theorem own_apart {W : World} {b b' e e' s s' n n' : Nat} {v v' : Value} {xs xs' : List Value} (h : W.ownsRow b e s v n xs) (h' : W.ownsRow b' e' s' v' n' xs') (hne : e ≠ e') : v'.ownBlock = none ∨ v'.ownBlock ≠ v.ownBlock := by
  cases hv : v'.ownBlock with
  | none => exact .inl rfl
  | some q =>
    refine .inr fun e2 => ?_
    obtain ⟨_, c1, z1, h1⟩ := row_own h' hv
    obtain ⟨_, c2, z2, h2⟩ := row_own h e2.symm
    rw [h1] at h2
    injection h2 with h2
    injection h2 with _ h3 _
    exact hne h3.symm
theorem row_slice {W : World} {b e s n : Nat} {v : Value} {xs : List Value} (h : W.ownsRow b e s v n xs) : ∃ pa cap, v = .slice pa n cap ∧ n ≤ cap ∧ (0 < n → ∃ g, pa = some ⟨g, 0, none⟩) := by
  rcases h.2 with ⟨rfl, rfl⟩ | ⟨g, cap, cur, rfl, _, _, h2, _⟩
  · exact ⟨none, 0, rfl, Nat.le_refl _, fun h => absurd h (by omega)⟩
  · exact ⟨_, cap, rfl, h2, fun _ => ⟨g, rfl⟩⟩
theorem VLies.of_own {W : World} {b k : Nat} {v : Value} {xs : List Value} (h : W.ownsRow b 23 1 v k xs) (hx : xs.length = k) : VLies (fun j => xs.getD j undef) v k W := by
  rcases h.2 with ⟨rfl, h0⟩ | ⟨g, cap, cur, rfl, _⟩
  · exact .inl ⟨h0, rfl⟩
  · refine .inr ⟨g, 0, cap, rfl, fun j hj => ?_⟩
    rw [Nat.zero_add, h.cellAt j (by omega)]
    simp [List.getD, hx, hj]
theorem shown_lies {f : Nat → Nat} {n0 : Nat} {x : Fr} {W : World} (h : x.Shown f n0 W) : BLies (sh f (x.at' + 8)) x.rcd (x.len - 8) W := by
  have hlo := x.lo
  have hhi := x.hi
  unfold Fr.rcd
  split
  · rename_i h8
    refine .inr ⟨x.blk, 0, 0, rfl, fun h0 => by omega, fun k hk => by omega⟩
  · refine .inr ⟨x.blk, 8, x.cap - 8, rfl, fun _ => (h.2.lt _ rfl).2, fun k hk => ?_⟩
    rw [h.2.cellAt (8 + k) (by omega), bcells_get _ _ _ (by omega), frB_ge]
theorem cat_zero (f g : Nat → Nat) : cat f 0 g = g := by
  funext i
  simp [cat]
/-- the first loop: so many records' copies, and their frames end to end -/
def Lp (r : Nat → Nat → Nat) (m : Nat → Nat) (K : Nat) (w : World) (va vw vi : Value) (wr : World) : Prop :=
  ∃ (i : Nat) (ws : List Value), vi = .int .i64 (i : Int) ∧ i ≤ K ∧ i ≤ 40 ∧ ws.length = i ∧ wr.ownsRow w.heap.size 23 1 vw i ws ∧ wr.ownsRow w.heap.size 5 1 va (offN m i) (bcells (allF r m i) (offN m i)) ∧
    (∀ j v, ws[j]? = some v → wr.ownsRow w.heap.size 5 1 v (m j) (bcells (r j) (m j)) ∧ (v.ownBlock = none ∨ v.ownBlock ≠ va.ownBlock)) ∧ Below w.heap.size w wr
theorem Lp.next {r : Nat → Nat → Nat} {m : Nat → Nat} {K i : Nat} {w wr w1 w2 w3 w4 : World} {va vw va' vw' v1 v3 : Value} {ws : List Value} {tmp : Obj} (hiK : i < K) (hi40 : i < 40) (hws : ws.length = i)
    (hw : wr.ownsRow w.heap.size 23 1 vw i ws) (ha : wr.ownsRow w.heap.size 5 1 va (offN m i) (bcells (allF r m i) (offN m i)))
    (hr : ∀ j v, ws[j]? = some v → wr.ownsRow w.heap.size 5 1 v (m j) (bcells (r j) (m j)) ∧ (v.ownBlock = none ∨ v.ownBlock ≠ va.ownBlock)) (hb : Below w.heap.size w wr)
    (o1 : w1.ownsRow wr.heap.size 5 1 v1 (m i) (bcells (r i) (m i))) (b1 : Below wr.heap.size wr w1)
    (o2 : w2.ownsRow w.heap.size 23 1 vw' (i + 1) (ws ++ [v1])) (g2 : (w1.alloc tmp).grownBy w2 vw.ownBlock)
    (b3 : Below w2.heap.size w2 w3) (o4 : w4.ownsRow w.heap.size 5 1 va' (offN m i + (8 + m i)) (bcells (cat (allF r m i) (offN m i) (frB (r i) (m i))) (offN m i + (8 + m i)))) (g4 : w3.grownBy w4 va.ownBlock) (hn : va'.ownBlock = va.ownBlock ∨ va'.ownBlock = some w3.heap.size) :
    Lp r m K w va' vw' (.int .i64 ((i : Int) + 1)) w4 := by
  have z0 := hb.size
  have z1 := b1.size
  have z2 : w1.heap.size ≤ w2.heap.size := by have := g2.size; simp at this; omega
  have z3 := b3.size
  have z4 := g4.size
  have hw1 : (w1.alloc tmp).ownsRow w.heap.size 23 1 vw i ws := (own_below hw b1).alloc _
  -- a row of bytes of wr's over all of it
  have carry : ∀ (v : Value) (n : Nat) (xs : List Value) (bs : Nat), w1.ownsRow bs 5 1 v n xs → (v.ownBlock = none ∨ v.ownBlock ≠ va.ownBlock) → w4.ownsRow bs 5 1 v n xs := fun v n xs bs h hne => by
    have h1 : (w1.alloc tmp).ownsRow bs 5 1 v n xs := h.alloc _
    have h2 : w2.ownsRow bs 5 1 v n xs := h1.kept g2 (own_apart hw1 h1 (by decide))
    exact (own_below h2 b3).kept g4 hne
  have o2' : w4.ownsRow w.heap.size 23 1 vw' (i + 1) (ws ++ [v1]) := by
    have h3 := own_below o2 b3
    have ha3 : w3.ownsRow w.heap.size 5 1 va (offN m i) (bcells (allF r m i) (offN m i)) := by
      have h1 : (w1.alloc tmp).ownsRow w.heap.size 5 1 va (offN m i) (bcells (allF r m i) (offN m i)) := (own_below ha b1).alloc _
      exact own_below (h1.kept g2 (own_apart hw1 h1 (by decide))) b3
    exact h3.kept g4 (own_apart ha3 h3 (by decide))
  refine ⟨i + 1, ws ++ [v1], by simp, by omega, by omega, by simp [hws], o2', o4, fun j v hj => ?_, ?_⟩
  · rcases Nat.lt_or_ge j ws.length with hlt | hge
    · rw [List.getElem?_append_left hlt] at hj
      obtain ⟨h1, h2⟩ := hr j v hj
      refine ⟨carry v _ _ _ (own_below h1 b1) h2, ?_⟩
      cases hv : v.ownBlock with
      | none => exact .inl rfl
      | some q =>
        refine .inr fun e => ?_
        rcases hn with hn | hn
        · rw [hn] at e
          rcases h2 with h2 | h2
          · rw [hv] at h2; cases h2
          · exact h2 (hv.trans e)
        · rw [hn] at e
          injection e with e
          have := (h1.lt q hv).2
          omega
    · rw [List.getElem?_append_right hge] at hj
      have e0 : j - ws.length = 0 := by
        rcases Nat.eq_zero_or_pos (j - ws.length) with h' | h'
        · exact h'
        · rw [List.getElem?_eq_none (by simp; omega)] at hj; cases hj
      rw [e0] at hj
      simp at hj
      subst hj
      have ej : j = i := by omega
      subst ej
      have hne : v1.ownBlock = none ∨ v1.ownBlock ≠ va.ownBlock := by
        cases hv : v1.ownBlock with
        | none => exact .inl rfl
        | some q =>
          refine .inr fun e => ?_
          have h1 := (o1.lt q hv).1
          have h2 := (ha.lt q e.symm).2
          omega
      refine ⟨own_base (carry v1 _ _ _ o1 hne) z0, ?_⟩
      cases hv : v1.ownBlock with
      | none => exact .inl rfl
      | some q =>
        refine .inr fun e => ?_
        rcases hn with hn | hn
        · rw [hn] at e
          rcases hne with h2 | h2
          · rw [hv] at h2; cases h2
          · exact h2 (hv.trans e)
        · rw [hn] at e
          injection e with e
          have := (o1.lt q hv).2
          omega
  · have k1 : Below w.heap.size w w1 := step_below hb (Nat.le_refl _) b1
    have k2 : Below w.heap.size w w2 := Below.grown (bal k1 tmp) g2 (by simp; omega) (fun j hj => (hw.lt j hj).1)
    have k3 : Below w.heap.size w w3 := step_below k2 (Nat.le_refl _) b3
    exact Below.grown k3 g4 k3.size (fun j hj => (ha.lt j hj).1)
end Go.Proofs.YtpeebhddpmggdaaDoor
