/- aged: pop (38): what it needs. -/
import Derived.Test.YtildpgfhahmgmaaDoorHpC
namespace Go.Proofs.YtildpgfhahmgmaaDoor
open Go Go.Shelf Go.ChangeShapes Go.WideShapes Go.ChangeAt Go.RowKit Go.Maps
set_option linter.unusedVariables false
/-- which of a place and those below it is of the earliest day -/
def low (f : Nat → Int) (N i : Nat) : Nat := lst f N (lst f N i (2 * i + 1)) (2 * i + 2)
theorem low_is (f : Nat → Int) (N i : Nat) : (low f N i = i ∧ ∀ k, 0 < k → k < N → (k - 1) / 2 = i → f i ≤ f k) ∨ (low f N i < N ∧ 0 < low f N i ∧ (low f N i - 1) / 2 = i ∧ i < low f N i ∧ f (low f N i) < f i ∧ ∀ k, 0 < k → k < N → (k - 1) / 2 = i → f (low f N i) ≤ f k) := by
  have hk : ∀ k, 0 < k → (k - 1) / 2 = i → k = 2 * i + 1 ∨ k = 2 * i + 2 := fun k h0 h => by omega
  unfold low
  by_cases h1 : 2 * i + 1 < N ∧ f (2 * i + 1) < f i
  · have e1 : lst f N i (2 * i + 1) = 2 * i + 1 := by unfold lst; rw [if_pos h1]
    rw [e1]
    by_cases h2 : 2 * i + 2 < N ∧ f (2 * i + 2) < f (2 * i + 1)
    · have e2 : lst f N (2 * i + 1) (2 * i + 2) = 2 * i + 2 := by unfold lst; rw [if_pos h2]
      rw [e2]
      refine .inr ⟨h2.1, by omega, by omega, by omega, by omega, fun k h0 hN hp => ?_⟩
      rcases hk k h0 hp with rfl | rfl <;> omega
    · have e2 : lst f N (2 * i + 1) (2 * i + 2) = 2 * i + 1 := by unfold lst; rw [if_neg h2]
      rw [e2]
      refine .inr ⟨h1.1, by omega, by omega, by omega, h1.2, fun k h0 hN hp => ?_⟩
      rcases hk k h0 hp with rfl | rfl
      · omega
      · have : ¬ f (2 * i + 2) < f (2 * i + 1) := fun h => h2 ⟨hN, h⟩
        omega
  · have e1 : lst f N i (2 * i + 1) = i := by unfold lst; rw [if_neg h1]
    rw [e1]
    by_cases h2 : 2 * i + 2 < N ∧ f (2 * i + 2) < f i
    · have e2 : lst f N i (2 * i + 2) = 2 * i + 2 := by unfold lst; rw [if_pos h2]
      rw [e2]
      refine .inr ⟨h2.1, by omega, by omega, by omega, h2.2, fun k h0 hN hp => ?_⟩
      rcases hk k h0 hp with rfl | rfl
      · have : ¬ f (2 * i + 1) < f i := fun h => h1 ⟨hN, h⟩
        omega
      · omega
    · have e2 : lst f N i (2 * i + 2) = i := by unfold lst; rw [if_neg h2]
      rw [e2]
      refine .inl ⟨rfl, fun k h0 hN hp => ?_⟩
      rcases hk k h0 hp with rfl | rfl
      · have : ¬ f (2 * i + 1) < f i := fun h => h1 ⟨hN, h⟩
        omega
      · have : ¬ f (2 * i + 2) < f i := fun h => h2 ⟨hN, h⟩
        omega
set_option maxRecDepth 100000 in
set_option maxHeartbeats 4000000 in
theorem least_nil {W : World} {g c q c2 a : Nat} {A1 A2 : Int} (h1 : W.cell? ⟨q, 0, none⟩ = some (.int .i64 A1)) (h2 : W.cell? ⟨q, 1, none⟩ = some (.int .i64 A2)) (hA1 : 0 ≤ A1) (hA2 : 0 ≤ A2) :
    Calls Tryd.prog 52 #[.slice (some ⟨g, 0, none⟩) 0 c, .int .i64 a, .slice (some ⟨q, 0, none⟩) 2 c2] W fun e w' => e = .returned (.int .i64 (a : Int)) ∧ ∃ k, w' = W.drewN k := by
  have d1 : decide (A1 < 0) = false := decide_eq_false (by omega)
  have d2 : decide (A2 < 0) = false := decide_eq_false (by omega)
  have n1 : ¬ A1 < 0 := by omega
  have n2 : ¬ A2 < 0 := by omega
  go_enter Tryd.func52, Tryd.ntmps52
  go_wp2_with fail
  go_loopw [1, 11] (fun v1 v11 wr => ∃ (j k : Nat), v11 = .int .i64 j ∧ j ≤ 2 ∧ v1 = .int .i64 (a : Int) ∧ Hid (wr = W.drewN k)) (fun _ v11 _ => 2 - (intOf v11).toNat)
  case atStart => exact ⟨0, 0, rfl, by omega, rfl, rfl⟩
  case round =>
    obtain ⟨j, k, rfl, hj, rfl, hw⟩ := hrel
    have hwk : Hid (∀ k', wr.drewN k' = W.drewN (k + k')) := fun k' => by rw [unhide hw, drew_two]
    have g1 : wr.cell? ⟨q, 0, none⟩ = some (.int .i64 A1) := by rw [unhide hw]; simpa using h1
    have g2 : wr.cell? ⟨q, 1, none⟩ = some (.int .i64 A2) := by rw [unhide hw]; simpa using h2
    have : j = 0 ∨ j = 1 ∨ j = 2 := by omega
    rcases this with rfl | rfl | rfl
    · go_wp2_with fail
      go_quiet (fail)
      go_wp2_with fail
      refine ⟨⟨1, k + nq, rfl, by omega, rfl, unhide hwk _⟩, by simp [intOf]⟩
    · go_wp2_with fail
      go_quiet (fail)
      go_wp2_with fail
      refine ⟨⟨2, k + nq, rfl, by omega, rfl, unhide hwk _⟩, by simp [intOf]⟩
    · go_wp2_with fail
      go_ret
      exact ⟨rfl, k, unhide hw⟩
theorem low_nil (f : Nat → Int) (i : Nat) : low f 0 i = i := by simp [low, lst]
/-- least at the two places below one -/
theorem least_two {W : World} {f : Nat → Int} {g n c q c2 a : Nat} {A1 A2 : Int} (hn : n ≤ 1048576) (hf : ∀ k, k < n → W.cell? ⟨g, k * 2, none⟩ = some (.int .i64 (f k))) (h1 : W.cell? ⟨q, 0, none⟩ = some (.int .i64 A1)) (h2 : W.cell? ⟨q, 1, none⟩ = some (.int .i64 A2)) (hA1 : A1 = (2 * a + 1 : Nat)) (hA2 : A2 = (2 * a + 2 : Nat)) (ha : a < n ∨ n = 0) (ha2 : a ≤ 1048576) :
    Calls Tryd.prog 52 #[.slice (some ⟨g, 0, none⟩) n c, .int .i64 a, .slice (some ⟨q, 0, none⟩) 2 c2] W fun e w' => e = .returned (.int .i64 (low f n a : Nat)) ∧ ∃ k, w' = W.drewN k := by
  rcases ha with ha | rfl
  · subst hA1 hA2
    have := least_any (W := W) (f := f) (g := g) (n := n) (c := c) (q := q) (o := 0) (m := 2) (c2 := c2) (a := a) (os := [2 * a + 1, 2 * a + 2]) hn hf rfl (by omega) (fun j hj => by
      have : j = 0 ∨ j = 1 := by simp at hj; omega
      rcases this with rfl | rfl
      · exact ⟨h1, by simp; omega⟩
      · exact ⟨h2, by simp; omega⟩) ha
    exact this
  · rw [low_nil]
    exact least_nil h1 h2 (by omega) (by omega)
theorem TR.cut {W : World} {g n c : Nat} {H : List (Int × Nat)} (h : TR W g n c H) {m : Nat} (hm : m ≤ n) : TR W g m c (H.take m) := by
  refine ⟨⟨?_, ?_⟩, by rw [List.length_take, h.2]; omega⟩
  · rw [flat_len kT_ok, List.length_take, h.2, Nat.min_eq_left hm]; rfl
  · rcases h.1.2 with ⟨h1, _⟩ | ⟨g', cap', cur, h1, hb, h2, h3, h4, h5, h6⟩
    · cases h1
    · injection h1 with h1 _ h1c
      injection h1 with h1
      injection h1 with h1
      subst h1 h1c
      refine .inr ⟨g, c, cur, rfl, hb, h2, by omega, h4, h5, ?_⟩
      have e : kT.flat H = kT.flat (H.take m) ++ kT.flat (H.drop m) := by rw [← flat_append, List.take_append_drop]
      have hl : (kT.flat (H.take m)).length = m * 2 := by rw [flat_len kT_ok, List.length_take, h.2, Nat.min_eq_left hm]; rfl
      have h7 : cur.toList.take (m * 2) = (cur.toList.take (n * 2)).take (m * 2) := by rw [List.take_take, Nat.min_eq_left (by omega)]
      rw [h7, h6, e, List.take_append_of_le_length (by omega), List.take_of_length_le (by omega)]
def wipeT (W : World) (g i : Nat) : World := W.setCells g (i * 2) [.int .i64 0, .pointer none]
theorem run_st86z {w : World} {b i : Nat} (h : w.there b (i * 2) 2) : (st86 (.pointer (some ⟨b, i * 2, none⟩)) (.agg #[.int .i64 0, .pointer none])).run Tryd.prog w = .ok () (wipeT w b i) :=
  run_storeAt_mid (P := Tryd.prog) w b (i * 2) 86 #[.int .i64 0, .pointer none] h size86 (by simp [Value.oneCell'])
/-- the last one wiped, the row cut ahead of it -/
theorem TR.wipe {W : World} {g n c : Nat} {H : List (Int × Nat)} (h : TR W g (n + 1) c H) : TR (wipeT W g n) g n c (H.take n) := by
  have h2 := row_set (row_set h.1 (n * 2) (.int .i64 0)) (n * 2 + 1) (.pointer none)
  have hc := h.cut (m := n) (by omega)
  refine ⟨⟨hc.1.1, ?_⟩, hc.2⟩
  rcases h2.2 with ⟨h1, _⟩ | ⟨g', cap', cur, h1, hb, h2, h3, h4, h5, h6⟩
  · cases h1
  · injection h1 with h1 _ h1c
    injection h1 with h1
    injection h1 with h1
    subst h1 h1c
    refine .inr ⟨g, c, cur, rfl, hb, h2, by omega, h4, h5, ?_⟩
    have h7 : cur.toList.take (n * 2) = (cur.toList.take ((n + 1) * 2)).take (n * 2) := by rw [List.take_take, Nat.min_eq_left (by omega)]
    rw [h7, h6, List.take_set_of_le (by omega), List.take_set_of_le (by omega)]
    have e : kT.flat H = kT.flat (H.take n) ++ kT.flat (H.drop n) := by rw [← flat_append, List.take_append_drop]
    have hl : (kT.flat (H.take n)).length = n * 2 := by rw [flat_len kT_ok, List.length_take, h.2, Nat.min_eq_left (by omega)]; rfl
    rw [e, List.take_append_of_le_length (by omega), List.take_of_length_le (by omega)]
theorem wipeT_fr {a b : World} {X : Nat → Prop} (h : Fr a b X) {g : Nat} (hg : X g ∨ a.heap.size ≤ g) (i : Nat) : Fr a (wipeT b g i) X := (h.setCell (p := ⟨g, i * 2, none⟩) hg _).setCell (p := ⟨g, i * 2 + 1, none⟩) hg _
theorem wipeT_other (W : World) (g i : Nat) (k : Nat) (h : k ≠ g) : (wipeT W g i).heap[k]? = W.heap[k]? := by
  show ((W.setCell ⟨g, i * 2, none⟩ _).setCell ⟨g, i * 2 + 1, none⟩ _).heap[k]? = _
  rw [Below.heap_setCell _ _ _ _ h, Below.heap_setCell _ _ _ _ h]
theorem TR.below {W W' : World} {g n c : Nat} {H : List (Int × Nat)} (h : TR W g n c H) (hb : W'.heap[g]? = W.heap[g]?) : TR W' g n c H := ⟨row_keep h.1 (fun k hk => by
  have : g = k := Option.some.inj hk
  subst this
  exact hb), h.2⟩
/-- what is at the top of the rest: the last one in the first one's place -/
theorem top_mem {H : List (Int × Nat)} {n : Nat} (hn : H.length = n + 1) : (∀ x ∈ (H.set 0 (H.getD n (0, 0))).take n, x ∈ H) ∧ ∀ x ∈ H, x = H.getD 0 (0, 0) ∨ x ∈ (H.set 0 (H.getD n (0, 0))).take n := by
  have hget : ∀ k, ((H.set 0 (H.getD n (0, 0))).take n)[k]? = if k < n then (if k = 0 then H[n]? else H[k]?) else none := fun k => by
    rw [List.getElem?_take]
    split
    · rw [List.getElem?_set]
      by_cases h : 0 = k
      · subst h; rw [if_pos rfl, if_pos (by omega), if_pos rfl]; simp [hn]
      · rw [if_neg h, if_neg (fun e => h e.symm)]
    · rfl
  constructor
  · intro x hx
    rw [List.mem_iff_getElem?] at hx ⊢
    obtain ⟨k, hk⟩ := hx
    rw [hget] at hk
    split at hk
    · split at hk
      · exact ⟨n, hk⟩
      · exact ⟨k, hk⟩
    · cases hk
  · intro x hx
    rw [List.mem_iff_getElem?] at hx
    obtain ⟨k, hk⟩ := hx
    have hkl : k < n + 1 := by rw [← hn]; exact (List.getElem?_eq_some_iff.1 hk).1
    by_cases h0 : k = 0
    · left; subst h0; simp [hk]
    · by_cases hkn : k = n
      · right
        rw [List.mem_iff_getElem?]
        refine ⟨0, ?_⟩
        rw [hget, if_pos (by omega), if_pos rfl, ← hkn]; exact hk
      · right
        rw [List.mem_iff_getElem?]
        refine ⟨k, ?_⟩
        rw [hget, if_pos (by omega), if_neg h0]; exact hk
theorem top_dn {H : List (Int × Nat)} {n : Nat} (hn : H.length = n + 1) (h : Hp (dy H) (n + 1)) : HpDn (dy ((H.set 0 (H.getD n (0, 0))).take n)) n 0 := by
  refine HpDn.top h (fun k h0 hk => ?_)
  unfold dy
  rw [List.getD_eq_getElem?_getD, List.getElem?_take_of_lt hk, List.getElem?_set_ne (by omega), List.getD_eq_getElem?_getD]
end Go.Proofs.YtildpgfhahmgmaaDoor
