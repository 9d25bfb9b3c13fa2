/- An element of a list of one's own written over. -/
import Derived.Test.YtcafhmlpmbkhkaaGreatDoorGrdA
namespace Go.Proofs.YtcafhmlpmbkhkaaGreatDoor
open Go Go.Shelf Go.ChangeShapes Go.WideShapes Go.ChangeAt Go.RowKit Go.Maps
set_option linter.unusedVariables false
variable {α : Type} {K : Kd α}
theorem setCells_full (b : Nat) (t : TypeId) : ∀ (vs : List Value) (o : Nat) (w : World) (cur : Array Value), w.heap[b]? = some (.cells cur t (0, 0)) → ∃ cur', (w.setCells b o vs).heap[b]? = some (.cells cur' t (0, 0)) ∧ cur'.size = cur.size ∧ ∀ j, j < cur.size → cur'[j]? = if o ≤ j ∧ j < o + vs.length then vs[j - o]? else cur[j]?
  | [], o, w, cur, h => ⟨cur, h, rfl, fun j _ => by rw [if_neg (by simp)]⟩
  | v :: r, o, w, cur, h => by
    have h1 : (w.setCell ⟨b, o, none⟩ v).heap[b]? = some (.cells (cur.setIfInBounds o v) t (0, 0)) := by simp [World.setCell, Array.getElem?_modify, h]
    obtain ⟨cur', k1, k2, k3⟩ := setCells_full b t r (o + 1) _ _ h1
    refine ⟨cur', k1, by rw [k2]; simp, fun j hj => ?_⟩
    rw [k3 j (by simpa using hj)]
    by_cases e : j = o
    · subst e
      rw [if_neg (by omega), if_pos (by simp)]
      simp [hj]
    · have e2 : (cur.setIfInBounds o v)[j]? = cur[j]? := by rw [Array.getElem?_setIfInBounds]; rw [if_neg (fun h => e h.symm)]
      rw [e2]
      by_cases hc : o + 1 ≤ j ∧ j < o + 1 + r.length
      · rw [if_pos hc, if_pos (by simp; omega)]
        have : j - o = (j - (o + 1)) + 1 := by omega
        rw [this, List.getElem?_cons_succ]
      · rw [if_neg hc, if_neg (by simp; omega)]
theorem setCells_far (b : Nat) {k : Nat} (hk : k ≠ b) : ∀ (vs : List Value) (o : Nat) (w : World), (w.setCells b o vs).heap[k]? = w.heap[k]?
  | [], _, _ => rfl
  | v :: r, o, w => (setCells_far b hk r (o + 1) _).trans (Below.heap_setCell _ _ _ _ hk)
theorem setCells_size (b : Nat) : ∀ (vs : List Value) (o : Nat) (w : World), (w.setCells b o vs).heap.size = w.heap.size
  | [], _, _ => rfl
  | v :: r, o, w => (setCells_size b r (o + 1) _).trans (by simp)
theorem setCells_rest (b : Nat) : ∀ (vs : List Value) (o : Nat) (w : World), (w.setCells b o vs).os = w.os ∧ (w.setCells b o vs).tape = w.tape ∧ (w.setCells b o vs).output = w.output
  | [], _, _ => ⟨rfl, rfl, rfl⟩
  | v :: r, o, w => setCells_rest b r (o + 1) _
theorem grown_cells (w : World) (b o : Nat) (vs : List Value) : w.grownBy (w.setCells b o vs) (some b) :=
  ⟨(setCells_rest b vs o w).1, (setCells_rest b vs o w).2.1, (setCells_rest b vs o w).2.2, by rw [setCells_size]; exact Nat.le_refl _, fun i _ hne => setCells_far b (fun e => hne (by rw [e])) vs o w⟩
theorem own_set (hK : KdOK K) {W : World} {B g c n k : Nat} {L : List α} (h : W.ownsRow B K.e K.s (.slice (some ⟨g, 0, none⟩) n c) n (K.flat L)) (hn : L.length = n) (hk : k < n) (x : α) : (W.setCells g (k * K.s) (K.enc x)).ownsRow B K.e K.s (.slice (some ⟨g, 0, none⟩) n c) n (K.flat (L.set k x)) := by
  rcases h.2 with ⟨e, _⟩ | ⟨g', cap, cur, e, hB, hh, hc, hm, hcs, ht⟩
  · cases e
  · injection e with e _ e2
    injection e with e
    injection e with e _ _
    subst e e2
    obtain ⟨cur', k1, k2, k3⟩ := setCells_full g K.e (K.enc x) (k * K.s) W cur hh
    refine ⟨by rw [flat_len hK, List.length_set, hn], .inr ⟨g, c, cur', rfl, hB, k1, hc, hm, by rw [k2, hcs], ?_⟩⟩
    have hsz : n * K.s ≤ cur.size := by rw [hcs]; exact Nat.mul_le_mul_right _ hc
    apply List.ext_getElem?
    intro j
    by_cases hj : j < n * K.s
    · have hq : j / K.s < n := Nat.div_lt_of_lt_mul (by rw [Nat.mul_comm]; exact hj)
      have hr : j % K.s < K.s := Nat.mod_lt _ hK.pos
      have ej : j / K.s * K.s + j % K.s = j := Nat.div_add_mod' j K.s
      obtain ⟨q, eq⟩ : ∃ q, q = j / K.s := ⟨_, rfl⟩
      obtain ⟨r, er⟩ : ∃ r, r = j % K.s := ⟨_, rfl⟩
      rw [← eq] at hq ej
      rw [← er] at hr ej
      have hqL : q < (L.set k x).length := by rw [List.length_set, hn]; exact hq
      have f1 := flat_get hK (L.set k x) q hqL r hr
      rw [ej] at f1
      rw [List.getElem?_take_of_lt hj, f1]
      have f2 : cur'.toList[j]? = cur'[j]? := by simp
      rw [f2, k3 j (by omega), hK.len]
      by_cases e : q = k
      · subst e
        rw [if_pos (by omega), List.getElem_set_self]
        congr 1
        omega
      · rw [List.getElem_set_ne (fun h => e h.symm)]
        have hno : ¬ (k * K.s ≤ j ∧ j < k * K.s + K.s) := by
          rcases Nat.lt_or_ge q k with h1 | h1
          · have := Nat.mul_le_mul_right K.s (show q + 1 ≤ k from h1)
            rw [Nat.add_mul, Nat.one_mul] at this
            omega
          · have := Nat.mul_le_mul_right K.s (show k + 1 ≤ q by omega)
            rw [Nat.add_mul, Nat.one_mul] at this
            omega
        rw [if_neg hno]
        have f3 := flat_get hK L q (by omega) r hr
        rw [ej, ← ht, List.getElem?_take_of_lt hj] at f3
        rw [← f3]
        simp
    · rw [List.getElem?_eq_none (by simp; omega), List.getElem?_eq_none (by rw [flat_len hK, List.length_set, hn]; omega)]

theorem below_cells {B : Nat} {a W : World} (h : Below B a W) {g : Nat} (hg : B ≤ g) (o : Nat) (vs : List Value) : Below B a (W.setCells g o vs) := by
  refine ⟨(setCells_rest g vs o W).1.trans h.os, (setCells_rest g vs o W).2.1.trans h.tape, (setCells_rest g vs o W).2.2.trans h.output, by rw [setCells_size]; exact h.size, fun k hk => ?_⟩
  exact (setCells_far g (by omega) vs o W).trans (h.block k hk)
theorem own_there {W : World} {B e s n g c : Nat} {xs : List Value} (h : W.ownsRow B e s (.slice (some ⟨g, 0, none⟩) n c) n xs) {o m : Nat} (hm : o + m ≤ n * s) : W.there g o m := by
  intro j hj
  rw [h.frozenAt, h.cellAt (o + j) (by omega)]
  have hl : o + j < xs.length := by rw [h.1]; omega
  rw [List.getElem?_eq_getElem hl]
  exact ⟨rfl, rfl⟩
theorem Lies.take {W : World} {p : Option Addr} {A B : List α} (h : Lies K W p (A ++ B)) : Lies K W p A := by
  refine ⟨fun hp => ?_, fun k hk => ?_⟩
  · have := h.1 hp
    exact (List.append_eq_nil_iff.1 this).1
  · obtain ⟨b, o, e, hb, hr⟩ := h.2 k (by rw [List.length_append]; omega)
    refine ⟨b, o, e, hb, ?_⟩
    rwa [List.getElem_append_left hk] at hr
end Go.Proofs.YtcafhmlpmbkhkaaGreatDoor
