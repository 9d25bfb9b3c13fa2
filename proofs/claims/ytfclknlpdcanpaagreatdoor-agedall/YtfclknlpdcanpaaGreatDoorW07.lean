import Derived.Test.YtfclknlpdcanpaaGreatDoorW06
import Derived.Test.YtfclknlpdcanpaaGreatDoorW01
import Derived.Lib.LaidTab
/- aged: pop (38): what it needs. -/
namespace Go.Proofs.YtfclknlpdcanpaaGreatDoor
open Go Go.Shelf Go.ChangeShapes Go.WideShapes Go.ChangeAt Go.RowKit Go.Maps
set_option linter.unusedVariables false
/-- which of a place and those below it is of the earliest day -/
def low (f : Nat → Int) (N i : Nat) : Nat := lst f N (lst f N i (2 * i + 1)) (2 * i + 2)
theorem low_is (f : Nat → Int) (N i : Nat) : (low f N i = i ∧ ∀ k, 0 < k → k < N → (k - 1) / 2 = i → f i ≤ f k) ∨ (low f N i < N ∧ 0 < low f N i ∧ (low f N i - 1) / 2 = i ∧ i < low f N i ∧ f (low f N i) < f i ∧ ∀ k, 0 < k → k < N → (k - 1) / 2 = i → f (low f N i) ≤ f k) := by
  have hk : ∀ k, 0 < k → (k - 1) / 2 = i → k = 2 * i + 1 ∨ k = 2 * i + 2 := fun k h0 h => by omega
  unfold low
  by_cases h1 : 2 * i + 1 < N ∧ f (2 * i + 1) < f i
  · have e1 : lst f N i (2 * i + 1) = 2 * i + 1 := by unfold lst; rw [if_pos h1]
    rw [e1]
    by_cases h2 : 2 * i + 2 < N ∧ f (2 * i + 2) < f (2 * i + 1)
    · have e2 : lst f N (2 * i + 1) (2 * i + 2) = 2 * i + 2 := by unfold lst; rw [if_pos h2]
      rw [e2]
      refine .inr ⟨h2.1, by omega, by omega, by omega, by omega, fun k h0 hN hp => ?_⟩
      rcases hk k h0 hp with rfl | rfl <;> omega
    · have e2 : lst f N (2 * i + 1) (2 * i + 2) = 2 * i + 1 := by unfold lst; rw [if_neg h2]
      rw [e2]
      refine .inr ⟨h1.1, by omega, by omega, by omega, h1.2, fun k h0 hN hp => ?_⟩
      rcases hk k h0 hp with rfl | rfl
      · omega
      · have : ¬ f (2 * i + 2) < f (2 * i + 1) := fun h => h2 ⟨hN, h⟩
        omega
  · have e1 : lst f N i (2 * i + 1) = i := by unfold lst; rw [if_neg h1]
    rw [e1]
    by_cases h2 : 2 * i + 2 < N ∧ f (2 * i + 2) < f i
    · have e2 : lst f N i (2 * i + 2) = 2 * i + 2 := by unfold lst; rw [if_pos h2]
      rw [e2]
      refine .inr ⟨h2.1, by omega, by omega, by omega, h2.2, fun k h0 hN hp => ?_⟩
      rcases hk k h0 hp with rfl | rfl
      · have : ¬ f (2 * i + 1) < f i := fun h => h1 ⟨hN, h⟩
        omega
      · omega
    · have e2 : lst f N i (2 * i + 2) = i := by unfold lst; rw [if_neg h2]
      rw [e2]
      refine .inl ⟨rfl, fun k h0 hN hp => ?_⟩
      rcases hk k h0 hp with rfl | rfl
      · have : ¬ f (2 * i + 1) < f i := fun h => h1 ⟨hN, h⟩
        omega
      · have : ¬ f (2 * i + 2) < f i := fun h => h2 ⟨hN, h⟩
        omega
set_option maxRecDepth 100000 in
set_option maxHeartbeats 4000000 in
theorem least_nil {W : World} {g c q c2 a : Nat} {A1 A2 : Int} (h1 : W.cell? ⟨q, 0, none⟩ = some (.int .i64 A1)) (h2 : W.cell? ⟨q, 1, none⟩ = some (.int .i64 A2)) (hA1 : 0 ≤ A1) (hA2 : 0 ≤ A2) :
    Calls Tryz.prog 192 #[.slice (some ⟨g, 0, none⟩) 0 c, .int .i64 a, .slice (some ⟨q, 0, none⟩) 2 c2] W fun e w' => e = .returned (.int .i64 (a : Int)) ∧ ∃ k, w' = W.drewN k := by
  have d1 : decide (A1 < 0) = false := decide_eq_false (by omega)
  have d2 : decide (A2 < 0) = false := decide_eq_false (by omega)
  have n1 : ¬ A1 < 0 := by omega
  have n2 : ¬ A2 < 0 := by omega
  go_enter Tryz.func192, Tryz.ntmps192
  go_wp2_with fail
  go_loopw [1, 11] (fun v1 v11 wr => ∃ (j k : Nat), v11 = .int .i64 j ∧ j ≤ 2 ∧ v1 = .int .i64 (a : Int) ∧ Hid (wr = W.drewN k)) (fun _ v11 _ => 2 - (intOf v11).toNat)
  case atStart => exact ⟨0, 0, rfl, by omega, rfl, rfl⟩
  case round =>
    obtain ⟨j, k, rfl, hj, rfl, hw⟩ := hrel
    have hwk : Hid (∀ k', wr.drewN k' = W.drewN (k + k')) := fun k' => by rw [unhide hw, drew_two]
    have g1 : wr.cell? ⟨q, 0, none⟩ = some (.int .i64 A1) := by rw [unhide hw]; simpa using h1
    have g2 : wr.cell? ⟨q, 1, none⟩ = some (.int .i64 A2) := by rw [unhide hw]; simpa using h2
    have : j = 0 ∨ j = 1 ∨ j = 2 := by omega
    rcases this with rfl | rfl | rfl
    · go_wp2_with fail
      go_quiet (fail)
      go_wp2_with fail
      refine ⟨⟨1, k + nq, rfl, by omega, rfl, unhide hwk _⟩, by simp [intOf]⟩
    · go_wp2_with fail
      go_quiet (fail)
      go_wp2_with fail
      refine ⟨⟨2, k + nq, rfl, by omega, rfl, unhide hwk _⟩, by simp [intOf]⟩
    · go_wp2_with fail
      go_ret
      exact ⟨rfl, k, unhide hw⟩
theorem low_nil (f : Nat → Int) (i : Nat) : low f 0 i = i := by simp [low, lst]
/-- least at the two places below one -/
theorem least_two {W : World} {f : Nat → Int} {g n c q c2 a : Nat} {A1 A2 : Int} (hn : n ≤ 1048576) (hf : ∀ k, k < n → W.cell? ⟨g, k * 2, none⟩ = some (.int .i64 (f k))) (h1 : W.cell? ⟨q, 0, none⟩ = some (.int .i64 A1)) (h2 : W.cell? ⟨q, 1, none⟩ = some (.int .i64 A2)) (hA1 : A1 = (2 * a + 1 : Nat)) (hA2 : A2 = (2 * a + 2 : Nat)) (ha : a < n ∨ n = 0) (ha2 : a ≤ 1048576) :
    Calls Tryz.prog 192 #[.slice (some ⟨g, 0, none⟩) n c, .int .i64 a, .slice (some ⟨q, 0, none⟩) 2 c2] W fun e w' => e = .returned (.int .i64 (low f n a : Nat)) ∧ ∃ k, w' = W.drewN k := by
  rcases ha with ha | rfl
  · subst hA1 hA2
    have := least_any (W := W) (f := f) (g := g) (n := n) (c := c) (q := q) (o := 0) (m := 2) (c2 := c2) (a := a) (os := [2 * a + 1, 2 * a + 2]) hn hf rfl (by omega) (fun j hj => by
      have : j = 0 ∨ j = 1 := by simp at hj; omega
      rcases this with rfl | rfl
      · exact ⟨h1, by simp; omega⟩
      · exact ⟨h2, by simp; omega⟩) ha
    exact this
  · rw [low_nil]
    exact least_nil h1 h2 (by omega) (by omega)
theorem TR.cut {W : World} {g n c : Nat} {H : List (Int × Nat)} (h : TR W g n c H) {m : Nat} (hm : m ≤ n) : TR W g m c (H.take m) := by
  refine ⟨⟨?_, ?_⟩, by rw [List.length_take, h.2]; omega⟩
  · rw [flat_len kT_ok, List.length_take, h.2, Nat.min_eq_left hm]; rfl
  · rcases h.1.2 with ⟨h1, _⟩ | ⟨g', cap', cur, h1, hb, h2, h3, h4, h5, h6⟩
    · cases h1
    · injection h1 with h1 _ h1c
      injection h1 with h1
      injection h1 with h1
      subst h1 h1c
      refine .inr ⟨g, c, cur, rfl, hb, h2, by omega, h4, h5, ?_⟩
      have e : kT.flat H = kT.flat (H.take m) ++ kT.flat (H.drop m) := by rw [← flat_append, List.take_append_drop]
      have hl : (kT.flat (H.take m)).length = m * 2 := by rw [flat_len kT_ok, List.length_take, h.2, Nat.min_eq_left hm]; rfl
      have h7 : cur.toList.take (m * 2) = (cur.toList.take (n * 2)).take (m * 2) := by rw [List.take_take, Nat.min_eq_left (by omega)]
      rw [h7, h6, e, List.take_append_of_le_length (by omega), List.take_of_length_le (by omega)]
def wipeT (W : World) (g i : Nat) : World := W.setCells g (i * 2) [.int .i64 0, .pointer none]
theorem run_st86z {w : World} {b i : Nat} (h : w.there b (i * 2) 2) : (st86 (.pointer (some ⟨b, i * 2, none⟩)) (.agg #[.int .i64 0, .pointer none])).run Tryz.prog w = .ok () (wipeT w b i) :=
  run_storeAt_mid (P := Tryz.prog) w b (i * 2) 116 #[.int .i64 0, .pointer none] h size86 (by simp [Value.oneCell'])
/-- the last one wiped, the row cut ahead of it -/
theorem TR.wipe {W : World} {g n c : Nat} {H : List (Int × Nat)} (h : TR W g (n + 1) c H) : TR (wipeT W g n) g n c (H.take n) := by
  have h2 := row_set (row_set h.1 (n * 2) (.int .i64 0)) (n * 2 + 1) (.pointer none)
  have hc := h.cut (m := n) (by omega)
  refine ⟨⟨hc.1.1, ?_⟩, hc.2⟩
  rcases h2.2 with ⟨h1, _⟩ | ⟨g', cap', cur, h1, hb, h2, h3, h4, h5, h6⟩
  · cases h1
  · injection h1 with h1 _ h1c
    injection h1 with h1
    injection h1 with h1
    subst h1 h1c
    refine .inr ⟨g, c, cur, rfl, hb, h2, by omega, h4, h5, ?_⟩
    have h7 : cur.toList.take (n * 2) = (cur.toList.take ((n + 1) * 2)).take (n * 2) := by rw [List.take_take, Nat.min_eq_left (by omega)]
    rw [h7, h6, List.take_set_of_le (by omega), List.take_set_of_le (by omega)]
    have e : kT.flat H = kT.flat (H.take n) ++ kT.flat (H.drop n) := by rw [← flat_append, List.take_append_drop]
    have hl : (kT.flat (H.take n)).length = n * 2 := by rw [flat_len kT_ok, List.length_take, h.2, Nat.min_eq_left (by omega)]; rfl
    rw [e, List.take_append_of_le_length (by omega), List.take_of_length_le (by omega)]
theorem wipeT_fr {a b : World} {X : Nat → Prop} (h : Fr a b X) {g : Nat} (hg : X g ∨ a.heap.size ≤ g) (i : Nat) : Fr a (wipeT b g i) X := (h.setCell (p := ⟨g, i * 2, none⟩) hg _).setCell (p := ⟨g, i * 2 + 1, none⟩) hg _
theorem wipeT_other (W : World) (g i : Nat) (k : Nat) (h : k ≠ g) : (wipeT W g i).heap[k]? = W.heap[k]? := by
  show ((W.setCell ⟨g, i * 2, none⟩ _).setCell ⟨g, i * 2 + 1, none⟩ _).heap[k]? = _
  rw [Below.heap_setCell _ _ _ _ h, Below.heap_setCell _ _ _ _ h]
theorem TR.below {W W' : World} {g n c : Nat} {H : List (Int × Nat)} (h : TR W g n c H) (hb : W'.heap[g]? = W.heap[g]?) : TR W' g n c H := ⟨row_keep h.1 (fun k hk => by
  have : g = k := Option.some.inj hk
  subst this
  exact hb), h.2⟩
/-- what is at the top of the rest: the last one in the first one's place -/
theorem top_mem {H : List (Int × Nat)} {n : Nat} (hn : H.length = n + 1) : (∀ x ∈ (H.set 0 (H.getD n (0, 0))).take n, x ∈ H) ∧ ∀ x ∈ H, x = H.getD 0 (0, 0) ∨ x ∈ (H.set 0 (H.getD n (0, 0))).take n := by
  have hget : ∀ k, ((H.set 0 (H.getD n (0, 0))).take n)[k]? = if k < n then (if k = 0 then H[n]? else H[k]?) else none := fun k => by
    rw [List.getElem?_take]
    split
    · rw [List.getElem?_set]
      by_cases h : 0 = k
      · subst h; rw [if_pos rfl, if_pos (by omega), if_pos rfl]; simp [hn]
      · rw [if_neg h, if_neg (fun e => h e.symm)]
    · rfl
  constructor
  · intro x hx
    rw [List.mem_iff_getElem?] at hx ⊢
    obtain ⟨k, hk⟩ := hx
    rw [hget] at hk
    split at hk
    · split at hk
      · exact ⟨n, hk⟩
      · exact ⟨k, hk⟩
    · cases hk
  · intro x hx
    rw [List.mem_iff_getElem?] at hx
    obtain ⟨k, hk⟩ := hx
    have hkl : k < n + 1 := by rw [← hn]; exact (List.getElem?_eq_some_iff.1 hk).1
    by_cases h0 : k = 0
    · left; subst h0; simp [hk]
    · by_cases hkn : k = n
      · right
        rw [List.mem_iff_getElem?]
        refine ⟨0, ?_⟩
        rw [hget, if_pos (by omega), if_pos rfl, ← hkn]; exact hk
      · right
        rw [List.mem_iff_getElem?]
        refine ⟨k, ?_⟩
        rw [hget, if_pos (by omega), if_neg h0]; exact hk
theorem top_dn {H : List (Int × Nat)} {n : Nat} (hn : H.length = n + 1) (h : Hp (dy H) (n + 1)) : HpDn (dy ((H.set 0 (H.getD n (0, 0))).take n)) n 0 := by
  refine HpDn.top h (fun k h0 hk => ?_)
  unfold dy
  rw [List.getD_eq_getElem?_getD, List.getElem?_take_of_lt hk, List.getElem?_set_ne (by omega), List.getD_eq_getElem?_getD]
end Go.Proofs.YtfclknlpdcanpaaGreatDoor
/- aged: share (40). -/
namespace Go.Proofs.YtfclknlpdcanpaaGreatDoor
open Go Go.Shelf Go.ChangeShapes Go.WideShapes Go.ChangeAt Go.RowKit Go.Maps
set_option linter.unusedVariables false
/-- the ages' steps lie in their variable -/
def Stp (w : World) : Prop := Lib.TabIs Tryz.prog w "daybook/aged.steps" .i64 stepsL
theorem stp_no : Tryz.prog.globalNamed "daybook/aged.steps" = some 0 := by kernel_rfl
theorem Stp.cell {w : World} (h : Stp w) (i : Nat) (hi : i < 4) : w.cell? ⟨0, i, none⟩ = some (.int .i64 (stepsL.getD i 0)) := Lib.TabIs.cell h stp_no i hi
theorem Stp.lt {w : World} (h : Stp w) : 0 < w.heap.size := by
  rcases Nat.lt_or_ge 0 w.heap.size with h' | h'
  · exact h'
  · unfold Stp Lib.TabIs World.var? at h
    rw [stp_no] at h
    simp only [Option.bind_some] at h
    rw [Array.getElem?_eq_none h'] at h; cases h
theorem Stp.keep {w w' : World} (h : Stp w) (hb : w'.heap[0]? = w.heap[0]?) : Stp w' := by
  unfold Stp Lib.TabIs World.var? at h ⊢
  rw [stp_no] at h ⊢
  simp only [Option.bind_some] at h ⊢
  rw [hb]
  exact h
theorem Stp.below {w w' : World} (h : Stp w) (hb : Below w.heap.size w w') : Stp w' := h.keep (hb.block 0 h.lt)
theorem sumTo_take (P : Pts) (t : Int) (j : Nat) (hj : j < P.length) : sumTo (P.take (j + 1)) t = sumTo (P.take j) t + (if (P[j]).1 ≤ t then (P[j]).2 else 0) := by
  rw [List.take_succ_eq_append_getElem hj, sumTo_append]
  simp [sumTo]
theorem sumAll_append (P Q : Pts) : sumAll (P ++ Q) = sumAll P + sumAll Q := by
  induction P with
  | nil => rw [List.nil_append]; show _ = 0 + _; omega
  | cons p P ih => rw [List.cons_append]; show p.2 + sumAll (P ++ Q) = p.2 + sumAll P + _; rw [ih]; omega
theorem sumAll_nonneg {P : Pts} (h : ∀ p ∈ P, 1 ≤ p.2) : 0 ≤ sumAll P := by
  have := sumTo_bounds h 0
  omega
theorem sumTo_take_le {P : Pts} (h : ∀ p ∈ P, 1 ≤ p.2) (t : Int) (j : Nat) : 0 ≤ sumTo (P.take j) t ∧ sumTo (P.take j) t ≤ sumAll P := by
  have h1 := sumTo_bounds (P := P.take j) (fun p hp => h p (List.mem_of_mem_take hp)) t
  have h2 : sumAll P = sumAll (P.take j) + sumAll (P.drop j) := by rw [← sumAll_append, List.take_append_drop]
  have h3 := sumAll_nonneg (P := P.drop j) (fun p hp => h p (List.mem_of_mem_drop hp))
  omega
def ageTo (due t : Int) (j : Nat) : Int := (stepsL.take j).foldr (fun n x => (if t - due ≥ n then 1 else 0) + x) 0
theorem ageTo_succ (due t : Int) (j : Nat) (hj : j < 4) : ageTo due t (j + 1) = ageTo due t j + (if t - due ≥ stepsL.getD j 0 then 1 else 0) := by
  have : j = 0 ∨ j = 1 ∨ j = 2 ∨ j = 3 := by omega
  rcases this with rfl | rfl | rfl | rfl <;> simp [ageTo, stepsL] <;> omega
theorem ageTo_bounds (due t : Int) (j : Nat) : 0 ≤ ageTo due t j ∧ ageTo due t j ≤ 4 := by
  unfold ageTo
  match j with
  | 0 => simp
  | 1 => simp [stepsL]; split <;> omega
  | 2 => simp [stepsL]; repeat' split
         all_goals omega
  | 3 => simp [stepsL]; repeat' split
         all_goals omega
  | n + 4 => simp [stepsL]; repeat' split
             all_goals omega
theorem cell_at {W : World} {b i : Nat} {xs : Array Value} {t : TypeId} {f : Nat × Nat} (h : W.heap[b]? = some (.cells xs t f)) : W.cell? ⟨b, i, none⟩ = xs[i]? := by simp [World.cell?, h]
theorem froz_at {W : World} {b i : Nat} {xs : Array Value} {t : TypeId} (h : W.heap[b]? = some (.cells xs t (0, 0))) : W.frozen? ⟨b, i, none⟩ = false := by simp [World.frozen?, h]
theorem heap_new (w : World) (o : Obj) : (w.alloc o).heap[w.heap.size]? = some o := by
  show (w.heap.push o)[w.heap.size]? = _
  simp
theorem heap_at {w : World} {o : Obj} {k : Nat} (h : w.heap.size = k) : (w.alloc o).heap[k]? = some o := by subst h; exact heap_new w o
theorem ix0 (W : World) : (Instr.index 198 (.agg #[.int .i64 1, .int .i64 31, .int .i64 61, .int .i64 91]) (.int .i64 0)).run Tryz.prog W = .ok (.int .i64 1) W := by kernel_rfl
theorem ix1 (W : World) : (Instr.index 198 (.agg #[.int .i64 1, .int .i64 31, .int .i64 61, .int .i64 91]) (.int .i64 1)).run Tryz.prog W = .ok (.int .i64 31) W := by kernel_rfl
theorem ix2 (W : World) : (Instr.index 198 (.agg #[.int .i64 1, .int .i64 31, .int .i64 61, .int .i64 91]) (.int .i64 2)).run Tryz.prog W = .ok (.int .i64 61) W := by kernel_rfl
theorem ix3 (W : World) : (Instr.index 198 (.agg #[.int .i64 1, .int .i64 31, .int .i64 61, .int .i64 91]) (.int .i64 3)).run Tryz.prog W = .ok (.int .i64 91) W := by kernel_rfl
theorem ix_at (i : Nat) (n : Int) (W : World) (h : [1, 31, 61, 91][i]? = some n) : (Instr.index 198 (.agg #[.int .i64 1, .int .i64 31, .int .i64 61, .int .i64 91]) (.int .i64 i)).run Tryz.prog W = .ok (.int .i64 n) W := by
  match i, h with
  | 0, h => cases h; exact ix0 W
  | 1, h => cases h; exact ix1 W
  | 2, h => cases h; exact ix2 W
  | 3, h => cases h; exact ix3 W
set_option maxRecDepth 100000 in
set_option maxHeartbeats 8000000 in
theorem share_any {W : World} {p : Nat} {c : Cl} {P : Pts} {lf a0 o0 : Int} {pp : Option Addr} {np cp : Nat} (hp : W.heap[p]? = some (.cells #[.string c.key, .string c.acc, .int .i64 c.day, .int .i64 c.due, .int .i64 c.amt, .int .i64 lf, .slice pp np cp, .int .i64 a0, .int .i64 o0] 109 (0, 0))) (hn : P.length = np) (hn2 : np ≤ 1048576) (hP : Lies kQ W pp P) (hS : Stp W) (hP1 : ∀ x ∈ P, 1 ≤ x.2) (hPs : sumAll P ≤ c.amt) (hA : 0 ≤ c.amt ∧ c.amt ≤ 9223372036854775807) (hD : 0 ≤ c.due ∧ c.due ≤ 4000000) {t : Int} (ht : 0 ≤ t ∧ t ≤ 4000000) :
    Calls Tryz.prog 113 #[ptr p, .int .i64 t] W fun e w' => e = .returned (.agg #[.int .i64 (shr c P t).1, .int .i64 (shr c P t).2]) ∧ Below W.heap.size W w' := by
  have hpl := heap_lt hp
  have h2 : W.cell? ⟨p, 2, none⟩ = some (.int .i64 c.day) := by rw [cell_at hp]; rfl
  have h3 : W.cell? ⟨p, 3, none⟩ = some (.int .i64 c.due) := by rw [cell_at hp]; rfl
  have h4 : W.cell? ⟨p, 4, none⟩ = some (.int .i64 c.amt) := by rw [cell_at hp]; rfl
  have h6 : W.cell? ⟨p, 6, none⟩ = some (.slice pp np cp) := by rw [cell_at hp]; rfl
  unfold ptr
  by_cases hday : t < c.day
  · have HF : Hid (shr c P t = (0, 0)) := by show _ = _; unfold shr; rw [if_pos hday]
    go_enter Tryz.func113, Tryz.ntmps113
    go_wp2_with fail
    refine bodyPost_ret (v := .agg #[.int .i64 0, .int .i64 0]) (by simp [results, Tryz.results113, go_sem]) rfl ⟨by rw [unhide HF], ?_⟩
    exact (Below.refl _ _).alloc (Nat.le_refl _) _
  · have HF : Hid (shr c P t = (ageOf c.due t, c.amt - sumTo P t)) := by show _ = _; unfold shr; rw [if_neg hday]
    obtain ⟨rb, hrb⟩ : ∃ rb, rb = W.heap.size := ⟨_, rfl⟩
    have HP := hide hP; have HP1 := hide hP1; have HPs := hide hPs; have HN := hide hn; have HS := hide hS; have HA := hide hA
    clear hP hP1 hPs hn hS hA hp
    go_enter Tryz.func113, Tryz.ntmps113
    go_wp2_with fail
    go_loopw [29] (fun v29 wr => ∃ (j : Nat), v29 = .int .i64 j ∧ j ≤ np ∧ Hid (Below W.heap.size W wr ∧ wr.heap[W.heap.size]? = some (.cells #[.int .i64 0, .int .i64 0] 107 (0, 0)) ∧ wr.heap[W.heap.size + 1]? = some (.cells #[.int .i64 0, .int .i64 (c.amt - sumTo (P.take j) t)] 107 (0, 0)))) (fun v29 _ => np - (intOf v29).toNat)
    case atStart =>
      refine ⟨0, rfl, by omega, ((Below.refl _ _).alloc (Nat.le_refl _) _).alloc (by simp) _, ?_, ?_⟩
      · exact (Below.heap_alloc _ _ _ (by simp)).trans (heap_new _ _)
      · rw [List.take_zero, sumTo_nil, Int.sub_zero]
        exact heap_at (by simp)
    case round =>
      obtain ⟨j, rfl, hj, hrel⟩ := hrel
      obtain ⟨hB, hr0, hs0⟩ := unhide hrel
      have hsz : W.heap.size + 1 < wr.heap.size := heap_lt hs0
      by_cases hlt : j < np
      · have hjl : j < P.length := by rw [unhide HN]; exact hlt
        obtain ⟨b, off, hb, hbl, hcell⟩ := (unhide HP).2 j hjl
        have hmem := List.getElem_mem hjl
        have hst := sumTo_take P t j hjl
        have hb1 := sumTo_take_le (unhide HP1) t j
        have hb2 := sumTo_take_le (unhide HP1) t (j + 1)
        obtain ⟨x, y, hxy⟩ : ∃ x y, P[j] = (x, y) := ⟨_, _, rfl⟩
        rw [hxy] at hcell hst
        have hy1 : 1 ≤ y := by have := unhide HP1 _ hmem; rw [hxy] at this; exact this
        have hx := (hB.cell (p := ⟨b, off + j * 2 + 0, none⟩) hbl).trans (hcell 0 _ rfl)
        have hy := (hB.cell (p := ⟨b, off + j * 2 + 1, none⟩) hbl).trans (hcell 1 _ rfl)
        obtain ⟨S, hS⟩ : ∃ S, S = sumTo (P.take j) t := ⟨_, rfl⟩
        obtain ⟨S', hS'⟩ : ∃ S', S' = sumTo (P.take (j + 1)) t := ⟨_, rfl⟩
        rw [← hS] at hs0 hst hb1
        rw [← hS'] at hst hb2
        have hA2 := unhide HA
        have hPs2 := unhide HPs
        have c1 : wr.cell? ⟨W.heap.size + 1, 1, none⟩ = some (.int .i64 (c.amt - S)) := by rw [cell_at hs0]; rfl
        have c2 : wr.frozen? ⟨W.heap.size + 1, 1, none⟩ = false := froz_at hs0
        have hne : W.heap.size + 1 ≠ wr.heap.size := by omega
        have HB := hide hB; have HR0 := hide hr0; have HS0 := hide hs0; have HSZ := hide hsz; have HS' := hide hS'
        subst hb
        simp only [Nat.add_zero] at hx
        clear hrel hxy hmem hcell hbl hr0 hs0 hB hS
        by_cases hxt : x ≤ t
        · have hw : IntKind.i64.wrap (c.amt - S - y) = c.amt - S - y := by
            rw [if_pos (show (x, y).1 ≤ t from hxt)] at hst
            have hst : S' = S + y := hst
            rw [IntKind.wrap_i64]; omega
          have he : Hid (c.amt - S - y = c.amt - S') := by
            rw [if_pos (show (x, y).1 ≤ t from hxt)] at hst
            have hst : S' = S + y := hst
            show _ = _; omega
          clear hst hb1 hb2 hA2 hPs2 hS'
          go_wp2_with fail
          refine ⟨⟨j + 1, by simp, by omega, ((unhide HB).setCell (p := ⟨W.heap.size + 1, 1, none⟩) (Nat.le_succ _) _).alloc (by simp; omega) _, ?_, ?_⟩, by simp [intOf]; omega⟩
          · rw [Below.heap_alloc _ _ _ (by simp; omega), Below.heap_setCell _ _ _ _ (by simp)]; exact unhide HR0
          · rw [← unhide HS', ← unhide he, Below.heap_alloc _ _ _ (by simp; exact unhide HSZ)]
            exact (heap_setCell_same _ _ 1 _ _ _ (unhide HS0)).trans rfl
        · have he : Hid (S = S') := by
            rw [if_neg (show ¬ (x, y).1 ≤ t from hxt)] at hst
            show _ = _; omega
          clear hst hb1 hb2 hA2 hPs2 hS'
          go_wp2_with fail
          refine ⟨⟨j + 1, by simp, by omega, (unhide HB).alloc (by omega) _, ?_, ?_⟩, by simp [intOf]; omega⟩
          · rw [Below.heap_alloc _ _ _ (by omega)]; exact unhide HR0
          · rw [← unhide HS', ← unhide he, Below.heap_alloc _ _ _ (unhide HSZ)]; exact unhide HS0
      · have hjn : j = np := by omega
        subst hjn
        have et : P.take j = P := List.take_of_length_le (by rw [unhide HN]; omega)
        rw [et] at hs0
        obtain ⟨O, hO⟩ : ∃ O, O = c.amt - sumTo P t := ⟨_, rfl⟩
        rw [← hO] at hs0
        have HO := hide hO; have HB := hide hB; have HR0 := hide hr0; have HS0 := hide hs0; have HSZ := hide hsz
        have hg0 : wr.cell? ⟨0, 0, none⟩ = some (.int .i64 1) := (hB.cell (p := ⟨0, 0, none⟩) (unhide HS).lt).trans ((unhide HS).cell 0 (by decide))
        have hg1 : wr.cell? ⟨0, 1, none⟩ = some (.int .i64 31) := (hB.cell (p := ⟨0, 1, none⟩) (unhide HS).lt).trans ((unhide HS).cell 1 (by decide))
        have hg2 : wr.cell? ⟨0, 2, none⟩ = some (.int .i64 61) := (hB.cell (p := ⟨0, 2, none⟩) (unhide HS).lt).trans ((unhide HS).cell 2 (by decide))
        have hg3 : wr.cell? ⟨0, 3, none⟩ = some (.int .i64 91) := (hB.cell (p := ⟨0, 3, none⟩) (unhide HS).lt).trans ((unhide HS).cell 3 (by decide))
        clear hO hB hr0 hs0 hrel et hlt
        go_wp2_with fail
        go_loopw [45] (fun v45 wq => ∃ (j : Nat), v45 = .int .i64 j ∧ j ≤ 4 ∧ Hid (Below W.heap.size W wq ∧ wq.heap[W.heap.size]? = some (.cells #[.int .i64 0, .int .i64 0] 107 (0, 0)) ∧ wq.heap[W.heap.size + 1]? = some (.cells #[.int .i64 (ageTo c.due t j), .int .i64 O] 107 (0, 0)))) (fun v45 _ => 4 - (intOf v45).toNat)
        case atStart => exact ⟨0, rfl, by omega, unhide HB, unhide HR0, unhide HS0⟩
        case round =>
          obtain ⟨i, rfl, hi, hrel⟩ := hrel
          obtain ⟨hB, hr0, hs0⟩ := unhide hrel
          have hsz : W.heap.size + 1 < wr.heap.size := heap_lt hs0
          have h3q : wr.cell? ⟨p, 3, none⟩ = some (.int .i64 c.due) := (hB.cell (p := ⟨p, 3, none⟩) hpl).trans h3
          have hwd : IntKind.i64.wrap (t - c.due) = t - c.due := by rw [IntKind.wrap_i64]; omega
          by_cases hlt : i < 4
          · have hag := ageTo_succ c.due t i hlt
            have hab := ageTo_bounds c.due t i
            obtain ⟨G, hG⟩ : ∃ G, G = ageTo c.due t i := ⟨_, rfl⟩
            rw [← hG] at hs0 hag hab
            obtain ⟨st, hst⟩ : ∃ st, st = stepsL.getD i 0 := ⟨_, rfl⟩
            rw [← hst] at hag
            have c0 : wr.cell? ⟨W.heap.size + 1, 0, none⟩ = some (.int .i64 G) := by rw [cell_at hs0]; rfl
            have c2 : wr.frozen? ⟨W.heap.size + 1, 0, none⟩ = false := froz_at hs0
            have hwg : IntKind.i64.wrap (G + 1) = G + 1 := by rw [IntKind.wrap_i64]; omega
            have HB2 := hide hB; have HR2 := hide hr0; have HS2 := hide hs0; have HSZ2 := hide hsz; have HAG := hide hag
            clear hrel hG hB hr0 hs0 hag hab hsz
            have hi4 : i = 0 ∨ i = 1 ∨ i = 2 ∨ i = 3 := by omega
            have hix := fun W => ix_at i (stepsL.getD i 0) W (by rcases hi4 with rfl | rfl | rfl | rfl <;> rfl)
            rcases hi4 with rfl | rfl | rfl | rfl
            all_goals
              simp only [stepsL, List.getD_cons_zero, List.getD_cons_succ] at hst hix
              simp only [Int.cast_ofNat_Int] at hix
              by_cases hge : t - c.due ≥ st
              · subst hst
                have HA2 := hide ((unhide HAG).trans (by rw [if_pos hge]))
                go_wp2_with fail
                refine ⟨⟨_, rfl, by first | decide | omega, (unhide HB2).setCell (p := ⟨W.heap.size + 1, 0, none⟩) (Nat.le_succ _) _, ?_, ?_⟩, by simp [intOf]⟩
                · rw [Below.heap_setCell _ _ _ _ (by simp)]; exact unhide HR2
                · rw [unhide HA2]
                  exact (heap_setCell_same _ _ 0 _ _ _ (unhide HS2)).trans rfl
              · subst hst
                have HA2 := hide ((unhide HAG).trans (by rw [if_neg hge, Int.add_zero]))
                go_wp2_with fail
                refine ⟨⟨_, rfl, by first | decide | omega, unhide HB2, unhide HR2, ?_⟩, by simp [intOf]⟩
                rw [unhide HA2]
                exact unhide HS2
          · have hi4 : i = 4 := by omega
            subst hi4
            obtain ⟨G, hG⟩ : ∃ G, G = ageTo c.due t 4 := ⟨_, rfl⟩
            rw [← hG] at hs0
            have hsh : Hid (shr c P t = (G, O)) := by
              show _ = _
              rw [unhide HF, unhide HO, hG]
              rfl
            have c0 : wr.cell? ⟨W.heap.size + 1, 0, none⟩ = some (.int .i64 G) := by rw [cell_at hs0]; rfl
            have c1 : wr.cell? ⟨W.heap.size + 1, 1, none⟩ = some (.int .i64 O) := by rw [cell_at hs0]; rfl
            have r0 : wr.cell? ⟨W.heap.size, 0, none⟩ = some (.int .i64 0) := by rw [cell_at hr0]; rfl
            have r1 : wr.cell? ⟨W.heap.size, 1, none⟩ = some (.int .i64 0) := by rw [cell_at hr0]; rfl
            have f0 : wr.frozen? ⟨W.heap.size, 0, none⟩ = false := froz_at hr0
            have f1 : wr.frozen? ⟨W.heap.size, 1, none⟩ = false := froz_at hr0
            have HB2 := hide hB
            clear hrel hG hB hr0 hs0 hlt
            go_wp2_with fail
            refine bodyPost_ret (v := .agg #[.int .i64 G, .int .i64 O]) (by simp [results, Tryz.results113, go_sem, *]) rfl ⟨by rw [unhide hsh], ?_⟩
            first | exact unhide HB2 | exact ((unhide HB2).setCell (Nat.le_refl _) _).setCell (Nat.le_refl _) _
end Go.Proofs.YtfclknlpdcanpaaGreatDoor
