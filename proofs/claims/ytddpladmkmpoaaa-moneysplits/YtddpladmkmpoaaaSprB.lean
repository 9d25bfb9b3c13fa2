/- Rows of quotients and rests, and six words put elsewhere. -/
import Derived.Test.YtddpladmkmpoaaaSprA
namespace Go.Proofs.Ytddpladmkmpoaaa
open Go.ChangeShapes Go.WideShapes Go.ChangeAt Go.RowKit
set_option linter.unusedVariables false
theorem info46 : (Try.prog.info? 46).map (fun i => (i.zero, i.size, i.bytes)) = some (some (.agg #[.int .u64 0, .int .u64 0, .int .u64 0, .int .u64 0, .int .u64 0, .int .u64 0]), 6, 48) := by kernel_rfl
theorem info2q : (Try.prog.info? 2).map (fun i => (i.zero, i.size, i.bytes)) = some (some (.int .i64 0), 1, 8) := by kernel_rfl
theorem grown_of_below {w w' : World} (h : Below w.heap.size w w') : w.grownBy w' none := ⟨h.os, h.tape, h.output, h.size, fun k hk _ => h.block k hk⟩
theorem heap_setCells (b : Nat) : ∀ (vs : List Value) (o : Nat) (w : World) (k : Nat), k ≠ b → (w.setCells b o vs).heap[k]? = w.heap[k]?
  | [], _, _, _, _ => rfl
  | v :: r, o, w, k, h => by
    rw [World.setCells, heap_setCells b r (o + 1) _ k h]
    exact Below.heap_setCell _ _ _ _ h
theorem grown_put6 (w : World) (b n : Nat) : w.grownBy (put6 w b n) (some b) := by
  have hB : Below 0 w (put6 w b n) := below_put6 (Below.refl _ _) (Nat.zero_le _) n
  refine ⟨hB.os, hB.tape, hB.output, hB.size, fun k hk hne => heap_setCells b _ 0 w k (fun e => hne (by rw [e]))⟩
theorem own_below {w w' : World} {base size n : Nat} {e : TypeId} {v : Value} {xs : List Value} (h : w.ownsRow base e size v n xs) (hb : Below w.heap.size w w') : w'.ownsRow base e size v n xs :=
  h.kept (grown_of_below hb) (by cases hv : v.ownBlock <;> simp)
theorem own_put6 {w : World} {lb size n : Nat} {e : TypeId} {v : Value} {xs : List Value} (h : w.ownsRow (lb + 1) e size v n xs) (m : Nat) : (put6 w lb m).ownsRow (lb + 1) e size v n xs := by
  refine h.kept (grown_put6 w lb m) ?_
  cases hv : v.ownBlock with
  | none => exact .inl rfl
  | some k =>
    have := (h.lt k hv).1
    exact .inr (by intro e'; injection e' with e'; omega)
theorem own_ne {w : World} {b b' n n' : Nat} {e e' : TypeId} {s s' : Nat} {v v' : Value} {xs xs' : List Value} (h : w.ownsRow b e s v n xs) (h' : w.ownsRow b' e' s' v' n' xs') (hne : e ≠ e') : v'.ownBlock = none ∨ v'.ownBlock ≠ v.ownBlock := by
  rcases h'.2 with ⟨rfl, _⟩ | ⟨g, cap, cur, rfl, _, hg, _⟩
  · exact .inl rfl
  · refine .inr fun e1 => ?_
    rcases h.2 with ⟨rfl, _⟩ | ⟨g2, cap2, cur2, rfl, _, hg2, _⟩
    · simp [Value.ownBlock] at e1
    · simp [Value.ownBlock] at e1
      subst e1
      rw [hg] at hg2
      injection hg2 with hg2
      injection hg2 with _ e2 _
      exact hne e2.symm
theorem own_row {w : World} {base n size : Nat} {e : TypeId} {v : Value} {xs : List Value} (h : w.ownsRow base e size v n xs) {b : Nat} (hb : w.heap.size ≤ b ∨ b < base) : some b ≠ v.ownBlock := by
  intro e1
  have := h.lt b e1.symm
  omega
theorem cell_six_new (w : World) (n : Nat) : ∀ j u, (six6 n)[j]? = some u → (w.alloc (.cells #[.int .u64 (dg n 0), .int .u64 (dg n 1), .int .u64 (dg n 2), .int .u64 (dg n 3), .int .u64 (dg n 4), .int .u64 (dg n 5)] 46)).cell? ((⟨w.heap.size, 0, none⟩ : Addr).add j) = some u := by
  intro j u hu
  have hj : j < 6 := by
    rcases Nat.lt_or_ge j 6 with h | h
    · exact h
    · rw [List.getElem?_eq_none (by simpa [six6] using h)] at hu; cases hu
  rw [six6_get n j hj] at hu
  rw [Addr.add_mid, Nat.zero_add, ← Option.some.inj hu]
  exact (Box.new w n).at' j hj
theorem six6_one (n : Nat) : ∀ u ∈ six6 n, u.oneCell' = true := by
  intro u hu
  simp only [six6, List.mem_cons, List.not_mem_nil, or_false] at hu
  rcases hu with rfl | rfl | rfl | rfl | rfl | rfl <;> rfl
/-- what the region that divides leaves -/
def Cut1 (q r : Nat) (wr : World) (a13 a14 : Value) (wx : World) : Prop := ∃ bq br : Nat, a13 = .pointer (some ⟨bq, 0, none⟩) ∧ a14 = .pointer (some ⟨br, 0, none⟩) ∧ Box wx bq q ∧ Box wx br r ∧ wr.heap.size ≤ bq ∧ wr.heap.size ≤ br ∧ Below wr.heap.size wr wx
theorem times_fit (T : Nat) (z : Int) {total : Int} (hT : total.natAbs = T) (h0 : -9223372036854775807 ≤ total) (h1 : total ≤ 9223372036854775807) (h2 : 0 ≤ z) (h3 : z ≤ 9223372036854775807) : total.natAbs < 4294967296 ^ 6 ∧ z.natAbs < 4294967296 ^ 6 ∧ total.natAbs * z.natAbs < 4294967296 ^ 6 := by
  have a : total.natAbs ≤ 9223372036854775807 := by omega
  have c : z.natAbs ≤ 9223372036854775807 := by omega
  have d := Nat.mul_le_mul a c
  rw [p6n]
  refine ⟨by omega, by omega, Nat.lt_of_le_of_lt d (by decide)⟩
theorem over_two (M D q r : Nat) (hM : M < 4294967296 ^ 6) (hD : 0 < D) (hD2 : D < 18446744073709551616) (hq : M / D = q) (hr : M % D = r) (w : World) :
    Calls Try.prog 42 #[wv M, .agg #[.int .u64 (dg D 0), .int .u64 (dg D 1), .int .u64 (dg D 2), .int .u64 (dg D 3), .int .u64 (dg D 4), .int .u64 (dg D 5)]] w fun e w' => e = .returned (.tuple #[.agg #[.int .u64 (dg q 0), .int .u64 (dg q 1), .int .u64 (dg q 2), .int .u64 (dg q 3), .int .u64 (dg q 4), .int .u64 (dg q 5)], .agg #[.int .u64 (dg r 0), .int .u64 (dg r 1), .int .u64 (dg r 2), .int .u64 (dg r 3), .int .u64 (dg r 4), .int .u64 (dg r 5)]]) ∧ Below w.heap.size w w' := by
  rw [← hq, ← hr]
  exact over_open M D hM hD hD2 w
end Go.Proofs.Ytddpladmkmpoaaa
