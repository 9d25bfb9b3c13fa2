import Derived.Test.YtddpladmkmpoaabDoorRinN
import Derived.Test.YtddpladmkmpoaabDoorOnesB
import Derived.Test.YtddpladmkmpoaabDoorSumM
import Derived.Laws.AppendOwn
import Derived.Laws.AppendOwnNone
import Derived.Laws.OwnMore
import Derived.Deep.AppendLies
import Derived.Deep.MidRow
namespace Go.Proofs.YtddpladmkmpoaabDoor
open Go.ChangeShapes Go.WideShapes Go.ChangeAt Go.RowKit
set_option linter.unusedVariables false
set_option maxHeartbeats 1000000 in
theorem msub_bad (a b : Int) (w : World) (ha : -9223372036854775808 ≤ a) (hb : -9223372036854775808 ≤ b) (h : isMin a = true ∨ isMin b = true) :
    Calls Tryd.prog 11 #[.int .i64 a, .int .i64 b] w fun e w' => e = .returned (.tuple #[.int .i64 0, .int .i64 10]) ∧ w' = w := by
  have H := hide h
  clear h
  go_enter Tryd.func11, Tryd.ntmps11
  go_wp2_with (go_at_call 22; refine (both_bad _ _ _ (by omega) (by omega) (unhide H)).mono ?_; rintro e w' ⟨rfl, hw⟩; subst hw)
  go_ret2
  exact ⟨rfl, rfl⟩
set_option maxHeartbeats 1000000 in
theorem msub_ok (a b : Int) (w : World) (ha : -9223372036854775807 ≤ a) (hb : -9223372036854775807 ≤ b) (ha' : a ≤ 9223372036854775807) (hb' : b ≤ 9223372036854775807) :
    Calls Tryd.prog 11 #[.int .i64 a, .int .i64 b] w fun e w' => e = .returned (.tuple #[.int .i64 (addSpec a (-b)).1, .int .i64 (addSpec a (-b)).2]) ∧ w' = w := by
  go_enter Tryd.func11, Tryd.ntmps11
  go_wp2_with (first | (go_at_call 22; refine (both_yes _ _ _ (by omega) (by omega)).mono ?_; rintro e w' ⟨rfl, hw⟩; subst hw) | (go_at_call 9; refine (madd_any a (-b) _ (by omega) (by omega) (by omega) (by omega)).mono ?_; rintro e w' ⟨rfl, hw⟩; subst hw))
  go_ret2
  exact ⟨rfl, rfl⟩
theorem msub_any (a b : Int) (w : World) (ha : -9223372036854775808 ≤ a) (hb : -9223372036854775808 ≤ b) (ha' : a ≤ 9223372036854775807) (hb' : b ≤ 9223372036854775807) :
    Calls Tryd.prog 11 #[.int .i64 a, .int .i64 b] w fun e w' => e = .returned (.tuple #[.int .i64 (subSpec a b).1, .int .i64 (subSpec a b).2]) ∧ w' = w := by
  rcases minCases a b with h | ⟨h1, h2⟩
  · have : subSpec a b = (0, 10) := by unfold subSpec; rcases h with h | h <;> simp [h]
    rw [this]
    exact msub_bad a b w ha hb h
  · have : subSpec a b = addSpec a (-b) := by simp [subSpec, h1, h2]
    rw [this]
    have := noMin h1
    have := noMin h2
    exact msub_ok a b w (by omega) (by omega) ha' hb'
set_option maxHeartbeats 1000000 in
theorem mneg_ok (a : Int) (w : World) (ha : -9223372036854775807 ≤ a) (ha' : a ≤ 9223372036854775807) : Calls Tryd.prog 10 #[.int .i64 a] w fun e w' => e = .returned (.tuple #[.int .i64 (-a), .int .i64 0]) ∧ w' = w := by
  go_enter Tryd.func10, Tryd.ntmps10
  go_wp2_with (go_at_call 19; refine (chk_yes _ _ (by omega)).mono ?_; rintro e w' ⟨rfl, hw⟩; subst hw)
  go_ret2
  exact ⟨rfl, rfl⟩
theorem info2r : (Tryd.prog.info? 2).map (fun i => (i.zero, i.size, i.bytes)) = some (some (.int .i64 0), 1, 8) := by kernel_rfl
/-- the first n as cells -/
def cellsOf (f : Nat → Int) (n : Nat) : List Value := (List.range n).map fun i => .int .i64 (f i)
theorem cellsOf_succ (f : Nat → Int) (n : Nat) : cellsOf f (n + 1) = cellsOf f n ++ [.int .i64 (f n)] := by simp [cellsOf, List.range_succ]
theorem cellsOf_length (f : Nat → Int) (n : Nat) : (cellsOf f n).length = n := by simp [cellsOf]
theorem cellsOf_get (f : Nat → Int) (n j : Nat) (h : j < n) : (cellsOf f n)[j]? = some (.int .i64 (f j)) := by simp [cellsOf, h]
theorem cellsOf_get' {f : Nat → Int} {n j : Nat} {u : Value} (h : (cellsOf f n)[j]? = some u) : j < n ∧ u = .int .i64 (f j) := by
  by_cases hj : j < n
  · rw [cellsOf_get f n j hj] at h
    exact ⟨hj, (Option.some.inj h).symm⟩
  · rw [List.getElem?_eq_none (by rw [cellsOf_length]; omega)] at h
    cases h
theorem cellsOf_one (f : Nat → Int) (n : Nat) : ∀ u ∈ cellsOf f n, u.oneCell' = true := by
  intro u hu
  simp only [cellsOf, List.mem_map] at hu
  obtain ⟨i, _, rfl⟩ := hu
  rfl
theorem cellsOf_ext {f g : Nat → Int} (n : Nat) (h : ∀ i, i < n → f i = g i) : cellsOf f n = cellsOf g n := by
  induction n with
  | zero => rfl
  | succ n ih => rw [cellsOf_succ, cellsOf_succ, ih (fun i hi => h i (by omega)), h n (by omega)]

/-- a list that came in: none, or none of its numbers, or so many cells -/
structure LIn (zs : Nat → Int) (w : World) (a0 : Option Addr) (len cap : Nat) : Prop where
  reach : len ≤ 2097152
  bd : ∀ k, k < len → -9223372036854775808 ≤ zs k ∧ zs k ≤ 9223372036854775807
  at' : (len = 0 ∧ (a0 = none → cap = 0)) ∨ ∃ b off, a0 = some ⟨b, off, none⟩ ∧ b < w.heap.size ∧ len ≤ cap ∧ ∀ k, k < len → w.cell? ⟨b, off + k, none⟩ = some (.int .i64 (zs k))
set_option maxHeartbeats 2000000 in
theorem msum_zero (zs : Nat → Int) (a0 : Option Addr) (cap : Nat) (w : World) : Calls Tryd.prog 8 #[.slice a0 0 cap] w fun e w' => e = .returned (.tuple #[.int .i64 (sumSpec zs 0).1, .int .i64 (sumSpec zs 0).2]) ∧ w' = w := by
  rw [show sumSpec zs 0 = (0, 0) from rfl]
  go_enter Tryd.func8, Tryd.ntmps8
  go_wp2
  refine wp_loop_rounds 1 ?_
  rw [rounds_succ]
  go_wp2_with (first | (go_at_call 21; refine (sgn_any _ _ (by omega) (by omega)).mono ?_; rintro e w' ⟨rfl, hw⟩; subst hw; rw [show sgnW 0 = 0 from by decide]) | (go_at_call 19; refine (chk_yes _ _ (by omega)).mono ?_; rintro e w' ⟨rfl, hw⟩; subst hw))
  go_ret2
  exact ⟨rfl, rfl⟩
theorem msum_in {zs : Nat → Int} {w : World} {a0 : Option Addr} {len cap : Nat} (h : LIn zs w a0 len cap) (w1 : World) (hb : Below w.heap.size w w1) : Calls Tryd.prog 8 #[.slice a0 len cap] w1 fun e w' => e = .returned (.tuple #[.int .i64 (sumSpec zs len).1, .int .i64 (sumSpec zs len).2]) ∧ w' = w1 := by
  rcases h.at' with ⟨rfl, h0⟩ | ⟨b, off, rfl, hbb, hcap, hc⟩
  · exact msum_zero zs a0 cap w1
  · exact msum_any zs b off len cap (by have := h.reach; omega) h.bd w1 (fun k hk => by rw [hb.cell (show (⟨b, off + k, none⟩ : Addr).block < w.heap.size from hbb)]; exact hc k hk)
/-- a list that the call made, as one that came in -/
theorem lin_own {f : Nat → Int} {len : Nat} {v : Value} {base : Nat} {w : World} (h : w.ownsRow base 2 1 v len (cellsOf f len)) (hr : len ≤ 2097152) (hbd : ∀ k, k < len → -9223372036854775808 ≤ f k ∧ f k ≤ 9223372036854775807) : ∃ a0 c, v = .slice a0 len c ∧ LIn f w a0 len c := by
  rcases h.2 with ⟨hv, h0⟩ | ⟨g, c, cur, hv, hg, _, hle, _⟩
  · subst h0
    exact ⟨none, 0, hv, by omega, hbd, .inl ⟨rfl, fun _ => rfl⟩⟩
  · refine ⟨_, c, hv, hr, hbd, .inr ⟨g, 0, rfl, ?_, ?_, fun k hk => ?_⟩⟩
    · rw [hv] at h; exact (h.lt g rfl).2
    · omega
    · rw [hv] at h
      rw [h.cellAt (0 + k) (by omega), Nat.zero_add]
      exact cellsOf_get f len k hk
/-- append(s, l...) for a list that came in -/
theorem app_in {w : World} {ops : Array Oper} {rest : List Oper} {o : Oper} {a : Act} {Q : Exit → Act → World → Prop} (hgd : o.guard = none) (s x : Operand)
    (ho : o.op = .call { callee := .builtin .append, args := #[s, x], argTypes := #[22, 22] }) {zs : Nat → Int} {w0 : World} {a0 : Option Addr} {len cap : Nat} (hin : LIn zs w0 a0 len cap) (hb : Below w0.heap.size w0 w)
    (v : Value) (n : Nat) (xs : List Value) (hs : a.eval s = v) (hown : w.ownsRow w0.heap.size 2 1 v n xs) (hx : a.eval x = .slice a0 len cap) (hn : n ≤ 2097152)
    (h : ∀ v' w', w'.ownsRow w0.heap.size 2 1 v' (n + len) (xs ++ cellsOf zs len) → Below w0.heap.size w0 w' → wpList Tryd.prog ops Q rest (a.put o.dst v') w') : wpList Tryd.prog ops Q (o :: rest) a w := by
  obtain ⟨i0, hi, hz0, hz1, hz2⟩ := info_parts info2r
  have hr := hin.reach
  have some_case : ∀ ad : Addr, a0 = some ad → (∀ j, j < len → w.cell? (ad.add j) = some (.int .i64 (zs j))) → wpList Tryd.prog ops Q (o :: rest) a w := by
    intro ad had hc
    rw [had] at hx
    refine wpList_append_own _ hgd s x 22 ho w0.heap.size 2 i0 (.int .i64 0) 1 8 Tryd.underlying22 hi hz0 hz1 hz2 rfl (by decide) v n xs hs hown ad len cap (cellsOf zs len) hx (by rw [cellsOf_length]; omega) (fun j u hj => by obtain ⟨h1, h2⟩ := cellsOf_get' hj; rw [h2]; exact hc j h1) (cellsOf_one _ _) (by unfold maxLen; omega) (by omega) hb.size ?_
    intro v' w' h1 h2 _
    exact h v' w' h1 (Below.grown hb h2 hb.size (fun j hj => (hown.lt j hj).1))
  rcases hin.at' with ⟨hl, h0⟩ | ⟨b, off, ha, hbb, hcap, hc⟩
  · cases ha0 : a0 with
    | none =>
      have hc0 := h0 ha0
      subst hl
      refine wpList_append_own_none hgd s x 22 ho w0.heap.size 2 i0 1 Tryd.underlying22 hi v n xs hs hown (by rw [hx, ha0, hc0]) ?_
      refine h v w ?_ hb
      rw [Nat.add_zero, show cellsOf zs 0 = [] from rfl, List.append_nil]
      exact hown
    | some ad => exact some_case ad ha0 (fun j hj => by omega)
  · exact some_case _ ha (fun j hj => by rw [Addr.add_mid, hb.cell (show (⟨b, off + j, none⟩ : Addr).block < w0.heap.size from hbb)]; exact hc j hj)
end Go.Proofs.YtddpladmkmpoaabDoor
