/- The document's Split (24): what its first loop lays: quotients, rests, what is left. -/
import Derived.Test.YtddpladmkmpoaaaWtsR
import Derived.Laws.AppendOwn
import Derived.Laws.AppendOwnNone
import Derived.Laws.OwnMore
import Derived.Deep.AppendLies
import Derived.Deep.RegionHeld3
namespace Go.Proofs.Ytddpladmkmpoaaa
open Go.ChangeShapes Go.WideShapes Go.ChangeAt Go.RowKit
set_option linter.unusedVariables false
theorem of_open (a : Int) (T : Nat) (hT : a.natAbs = T) (w : World) (h0 : -9223372036854775808 ≤ a) (h1 : a ≤ 9223372036854775807) :
    Calls Try.prog 30 #[.int .i64 a] w fun e w' => e = .returned (.agg #[.int .u64 (dg T 0), .int .u64 (dg T 1), .int .u64 (dg T 2), .int .u64 (dg T 3), .int .u64 (dg T 4), .int .u64 (dg T 5)]) ∧ Below w.heap.size w w' := by
  rw [← hT]
  exact of_any a w h0 h1
/-- the quotients as cells -/
def qCells (q : Nat → Nat) (k : Nat) : List Value := (List.range k).map fun i => .int .i64 (q i : Int)
/-- a number's six words -/
def six6 (n : Nat) : List Value := [.int .u64 (dg n 0), .int .u64 (dg n 1), .int .u64 (dg n 2), .int .u64 (dg n 3), .int .u64 (dg n 4), .int .u64 (dg n 5)]
/-- the rests as cells, six each -/
def rCells (r : Nat → Nat) : Nat → List Value
  | 0 => []
  | k + 1 => rCells r k ++ six6 (r k)
theorem qCells_succ (q : Nat → Nat) (k : Nat) : qCells q (k + 1) = qCells q k ++ [.int .i64 (q k : Int)] := by simp [qCells, List.range_succ]
theorem qCells_get (q : Nat → Nat) (k j : Nat) (h : j < k) : (qCells q k)[j]? = some (.int .i64 (q j : Int)) := by simp [qCells, h]
theorem rCells_len (r : Nat → Nat) : ∀ k, (rCells r k).length = k * 6
  | 0 => rfl
  | k + 1 => by rw [rCells, List.length_append, rCells_len r k]; simp [six6]; omega
theorem six6_get (n j : Nat) (h : j < 6) : (six6 n)[j]? = some (.int .u64 (dg n j)) := by
  have : j = 0 ∨ j = 1 ∨ j = 2 ∨ j = 3 ∨ j = 4 ∨ j = 5 := by omega
  rcases this with rfl | rfl | rfl | rfl | rfl | rfl <;> rfl
theorem rCells_get (r : Nat → Nat) : ∀ (k i j : Nat), i < k → j < 6 → (rCells r k)[i * 6 + j]? = some (.int .u64 (dg (r i) j))
  | 0, i, j, h, _ => by omega
  | k + 1, i, j, h, hj => by
    rw [rCells]
    by_cases e : i = k
    · subst e
      rw [List.getElem?_append_right (by rw [rCells_len]; omega), rCells_len, show i * 6 + j - i * 6 = j by omega]
      exact six6_get _ _ hj
    · rw [List.getElem?_append_left (by rw [rCells_len]; omega)]
      exact rCells_get r k i j (by omega) hj
structure At1 (T S : Nat) (q r cum : Nat → Nat) (sb lb : Nat) (w : World) (k : Nat) (v7 v8 : Value) (wr : World) : Prop where
  sum : Box wr sb S
  left : Box wr lb (T - cum k)
  parts : wr.ownsRow (lb + 1) 2 1 v7 k (qCells q k)
  rests : wr.ownsRow (lb + 1) 46 6 v8 k (rCells r k)
  bel : Below w.heap.size w wr
theorem Box.grown {w w' : World} {b n : Nat} {row : Option Nat} (h : Box w b n) (hg : w.grownBy w' row) (hne : some b ≠ row) : Box w' b n :=
  ⟨Nat.lt_of_lt_of_le h.lt hg.size, fun i hi => (hg.cell_far ⟨b, i, none⟩ h.lt hne).trans (h.at' i hi), fun i hi => (hg.frozen_far ⟨b, i, none⟩ h.lt hne).trans (h.fz i hi)⟩
theorem there_new (w : World) (a0 a1 a2 a3 a4 a5 : Int) : (w.alloc (.cells #[.int .u64 a0, .int .u64 a1, .int .u64 a2, .int .u64 a3, .int .u64 a4, .int .u64 a5] 46)).there w.heap.size 0 6 := by
  intro j hj
  rw [Nat.zero_add]
  have hj' : j = 0 ∨ j = 1 ∨ j = 2 ∨ j = 3 ∨ j = 4 ∨ j = 5 := by omega
  rcases hj' with rfl | rfl | rfl | rfl | rfl | rfl <;> simp
theorem there_lt {w : World} {b : Nat} (h : w.there b 0 6) : b < w.heap.size := by
  have := (h 0 (by omega)).1
  obtain ⟨u, hu⟩ := Option.isSome_iff_exists.1 this
  exact World.block_lt_of_cell? w _ hu
theorem there_below {W w1 : World} {b : Nat} (hb : Below W.heap.size W w1) (h : W.there b 0 6) : w1.there b 0 6 := by
  intro j hj
  have hl := there_lt h
  have := h j hj
  rw [hb.cell (p := ⟨b, 0 + j, none⟩) hl, hb.frozen (p := ⟨b, 0 + j, none⟩) hl]
  exact this
theorem there_alloc {w : World} {b : Nat} (o : Obj) (h : w.there b 0 6) : (w.alloc o).there b 0 6 := there_below (bal (Below.refl _ _) o) h
theorem there_put6 {w : World} {b c n : Nat} (h : w.there b 0 6) : (put6 w c n).there b 0 6 := by
  intro j hj
  have := h j hj
  unfold put6
  by_cases e : b = c
  · subst e
    refine ⟨?_, by rw [frozen_setCells]; exact this.2⟩
    have hr := World.rangeAt_setCells_same w b 0 (six6 n) h
    rw [Nat.zero_add]
    have := hr j _ (six6_get n j hj)
    rw [Nat.zero_add] at this
    exact Option.isSome_iff_exists.2 ⟨_, this⟩
  · refine ⟨?_, by rw [frozen_setCells]; exact this.2⟩
    rw [World.cell?_setCells_out _ _ _ _ _ (fun e' => absurd e' e)]
    exact this.1
end Go.Proofs.Ytddpladmkmpoaaa
/- Rows of quotients and rests, and six words put elsewhere. -/
namespace Go.Proofs.Ytddpladmkmpoaaa
open Go.ChangeShapes Go.WideShapes Go.ChangeAt Go.RowKit
set_option linter.unusedVariables false
theorem info46 : (Try.prog.info? 46).map (fun i => (i.zero, i.size, i.bytes)) = some (some (.agg #[.int .u64 0, .int .u64 0, .int .u64 0, .int .u64 0, .int .u64 0, .int .u64 0]), 6, 48) := by kernel_rfl
theorem info2q : (Try.prog.info? 2).map (fun i => (i.zero, i.size, i.bytes)) = some (some (.int .i64 0), 1, 8) := by kernel_rfl
theorem grown_of_below {w w' : World} (h : Below w.heap.size w w') : w.grownBy w' none := ⟨h.os, h.tape, h.output, h.size, fun k hk _ => h.block k hk⟩
theorem heap_setCells (b : Nat) : ∀ (vs : List Value) (o : Nat) (w : World) (k : Nat), k ≠ b → (w.setCells b o vs).heap[k]? = w.heap[k]?
  | [], _, _, _, _ => rfl
  | v :: r, o, w, k, h => by
    rw [World.setCells, heap_setCells b r (o + 1) _ k h]
    exact Below.heap_setCell _ _ _ _ h
theorem grown_put6 (w : World) (b n : Nat) : w.grownBy (put6 w b n) (some b) := by
  have hB : Below 0 w (put6 w b n) := below_put6 (Below.refl _ _) (Nat.zero_le _) n
  refine ⟨hB.os, hB.tape, hB.output, hB.size, fun k hk hne => heap_setCells b _ 0 w k (fun e => hne (by rw [e]))⟩
theorem own_below {w w' : World} {base size n : Nat} {e : TypeId} {v : Value} {xs : List Value} (h : w.ownsRow base e size v n xs) (hb : Below w.heap.size w w') : w'.ownsRow base e size v n xs :=
  h.kept (grown_of_below hb) (by cases hv : v.ownBlock <;> simp)
theorem own_put6 {w : World} {lb size n : Nat} {e : TypeId} {v : Value} {xs : List Value} (h : w.ownsRow (lb + 1) e size v n xs) (m : Nat) : (put6 w lb m).ownsRow (lb + 1) e size v n xs := by
  refine h.kept (grown_put6 w lb m) ?_
  cases hv : v.ownBlock with
  | none => exact .inl rfl
  | some k =>
    have := (h.lt k hv).1
    exact .inr (by intro e'; injection e' with e'; omega)
theorem own_ne {w : World} {b b' n n' : Nat} {e e' : TypeId} {s s' : Nat} {v v' : Value} {xs xs' : List Value} (h : w.ownsRow b e s v n xs) (h' : w.ownsRow b' e' s' v' n' xs') (hne : e ≠ e') : v'.ownBlock = none ∨ v'.ownBlock ≠ v.ownBlock := by
  rcases h'.2 with ⟨rfl, _⟩ | ⟨g, cap, cur, rfl, _, hg, _⟩
  · exact .inl rfl
  · refine .inr fun e1 => ?_
    rcases h.2 with ⟨rfl, _⟩ | ⟨g2, cap2, cur2, rfl, _, hg2, _⟩
    · simp [Value.ownBlock] at e1
    · simp [Value.ownBlock] at e1
      subst e1
      rw [hg] at hg2
      injection hg2 with hg2
      injection hg2 with _ e2 _
      exact hne e2.symm
theorem own_row {w : World} {base n size : Nat} {e : TypeId} {v : Value} {xs : List Value} (h : w.ownsRow base e size v n xs) {b : Nat} (hb : w.heap.size ≤ b ∨ b < base) : some b ≠ v.ownBlock := by
  intro e1
  have := h.lt b e1.symm
  omega
theorem cell_six_new (w : World) (n : Nat) : ∀ j u, (six6 n)[j]? = some u → (w.alloc (.cells #[.int .u64 (dg n 0), .int .u64 (dg n 1), .int .u64 (dg n 2), .int .u64 (dg n 3), .int .u64 (dg n 4), .int .u64 (dg n 5)] 46)).cell? ((⟨w.heap.size, 0, none⟩ : Addr).add j) = some u := by
  intro j u hu
  have hj : j < 6 := by
    rcases Nat.lt_or_ge j 6 with h | h
    · exact h
    · rw [List.getElem?_eq_none (by simpa [six6] using h)] at hu; cases hu
  rw [six6_get n j hj] at hu
  rw [Addr.add_mid, Nat.zero_add, ← Option.some.inj hu]
  exact (Box.new w n).at' j hj
theorem six6_one (n : Nat) : ∀ u ∈ six6 n, u.oneCell' = true := by
  intro u hu
  simp only [six6, List.mem_cons, List.not_mem_nil, or_false] at hu
  rcases hu with rfl | rfl | rfl | rfl | rfl | rfl <;> rfl
/-- what the region that divides leaves -/
def Cut1 (q r : Nat) (wr : World) (a13 a14 : Value) (wx : World) : Prop := ∃ bq br : Nat, a13 = .pointer (some ⟨bq, 0, none⟩) ∧ a14 = .pointer (some ⟨br, 0, none⟩) ∧ Box wx bq q ∧ Box wx br r ∧ wr.heap.size ≤ bq ∧ wr.heap.size ≤ br ∧ Below wr.heap.size wr wx
theorem times_fit (T : Nat) (z : Int) {total : Int} (hT : total.natAbs = T) (h0 : -9223372036854775807 ≤ total) (h1 : total ≤ 9223372036854775807) (h2 : 0 ≤ z) (h3 : z ≤ 9223372036854775807) : total.natAbs < 4294967296 ^ 6 ∧ z.natAbs < 4294967296 ^ 6 ∧ total.natAbs * z.natAbs < 4294967296 ^ 6 := by
  have a : total.natAbs ≤ 9223372036854775807 := by omega
  have c : z.natAbs ≤ 9223372036854775807 := by omega
  have d := Nat.mul_le_mul a c
  rw [p6n]
  refine ⟨by omega, by omega, Nat.lt_of_le_of_lt d (by decide)⟩
theorem over_two (M D q r : Nat) (hM : M < 4294967296 ^ 6) (hD : 0 < D) (hD2 : D < 18446744073709551616) (hq : M / D = q) (hr : M % D = r) (w : World) :
    Calls Try.prog 42 #[wv M, .agg #[.int .u64 (dg D 0), .int .u64 (dg D 1), .int .u64 (dg D 2), .int .u64 (dg D 3), .int .u64 (dg D 4), .int .u64 (dg D 5)]] w fun e w' => e = .returned (.tuple #[.agg #[.int .u64 (dg q 0), .int .u64 (dg q 1), .int .u64 (dg q 2), .int .u64 (dg q 3), .int .u64 (dg q 4), .int .u64 (dg q 5)], .agg #[.int .u64 (dg r 0), .int .u64 (dg r 1), .int .u64 (dg r 2), .int .u64 (dg r 3), .int .u64 (dg r 4), .int .u64 (dg r 5)]]) ∧ Below w.heap.size w w' := by
  rw [← hq, ← hr]
  exact over_open M D hM hD hD2 w
end Go.Proofs.Ytddpladmkmpoaaa
/- A region that draws its order, by what holds at each state of its list. -/
namespace Go.Proofs.Ytddpladmkmpoaaa
open Go
theorem wpAnyH_inv {P : Program} {md : Region.Mode} {ops : Array Oper} {Q : Exit → Act → World → Prop} {S : World → Prop} (Inv : Array Bool → Act → World → Prop)
    (hstep : ∀ listed a w, Inv listed a w → ∀ i ∈ Region.ready md ops listed, wpOp P ops Q i (fun a' w' => S w' ∧ Inv (listed.setIfInBounds i true) a' w') a w)
    (hdone : ∀ listed a w, Inv listed a w → Region.ready md ops listed = [] → Q .normal a w) (hlen : ∀ listed a w, Inv listed a w → ∀ i ∈ Region.ready md ops listed, listed.getD i true = false) :
    ∀ (fuel : Nat) (listed : Array Bool) (a : Act) (w : World), listed.count false ≤ fuel → Inv listed a w → wpAnyH P md ops Q S fuel listed a w
  | 0, listed, a, w, hf, hi => by
    have hr : Region.ready md ops listed = [] := by
      cases hr : Region.ready md ops listed with
      | nil => rfl
      | cons i r =>
        have h1 := hlen listed a w hi i (by rw [hr]; exact List.mem_cons_self)
        have h2 : false ∈ listed := by
          rcases Nat.lt_or_ge i listed.size with h' | h'
          · simp [h'] at h1
            rw [← h1]
            exact Array.getElem_mem h'
          · simp [h'] at h1
        have := Array.count_pos_iff.2 h2
        omega
    exact ⟨hr, hdone listed a w hi hr⟩
  | fuel + 1, listed, a, w, hf, hi => by
    refine ⟨hdone listed a w hi, fun i hir => wpOp_mono (fun a' w' h' => ⟨h'.1, ?_⟩) (hstep listed a w hi i hir)⟩
    refine wpAnyH_inv Inv hstep hdone hlen fuel _ a' w' ?_ h'.2
    have h1 := hlen listed a w hi i hir
    rcases Nat.lt_or_ge i listed.size with h | h
    · have h1' : listed[i] = false := by simpa [h] using h1
      have := Array.count_set (xs := listed) (i := i) (a := true) (b := false) h
      rw [Array.setIfInBounds, dif_pos h]
      simp [h1'] at this
      omega
    · simp [h] at h1
theorem ready_not {md : Region.Mode} {ops : Array Oper} {listed : Array Bool} : ∀ i ∈ Region.ready md ops listed, listed.getD i true = false := by
  intro i hi
  unfold Region.ready at hi
  have := (List.mem_filter.1 hi).2
  simp only [Bool.and_eq_true, Bool.not_eq_true'] at this
  exact this.1
end Go.Proofs.Ytddpladmkmpoaaa
/- The region that divides (ref.go:263): eleven operations are left once its moves and loads are taken; what holds at each state. -/
namespace Go.Proofs.Ytddpladmkmpoaaa
open Go Go.ChangeShapes Go.WideShapes Go.ChangeAt Go.RowKit
set_option linter.unusedVariables false
def lst (c1 c6 c7 c9 c10 c11 c12 A B s t : Bool) : Array Bool := #[true, c1, true, true, true, true, c6, c7, true, c9, c10, c11, c12, A, B, s, t]
def val (c1 c6 c7 c9 c10 c11 c12 A B s t : Bool) : Bool := (!c6 || c1) && (!c7 || c6) && (!c9 || c7) && (!c10 || c9) && (!c11 || c10) && (!c12 || c10) && (!s || c11 && A && B) && (!t || s && c12)
def cond (c1 c6 c7 c9 c10 c11 c12 A B s t : Bool) (i : Nat) : Bool :=
  (i == 1 && !c1) || (i == 6 && c1 && !c6) || (i == 7 && c6 && !c7) || (i == 9 && c7 && !c9) || (i == 10 && c9 && !c10) || (i == 11 && c10 && !c11) || (i == 12 && c10 && !c12) || (i == 13 && !A) || (i == 14 && !B) || (i == 15 && c11 && A && B && !s) || (i == 16 && s && c12 && !t)
def all1 (p : Bool → Bool) : Bool := p true && p false
theorem all1_at {p : Bool → Bool} (h : all1 p = true) (b : Bool) : p b = true := by
  unfold all1 at h
  rw [Bool.and_eq_true] at h
  cases b
  · exact h.2
  · exact h.1
/-- for all eleven -/
def all11 (p : Bool → Bool → Bool → Bool → Bool → Bool → Bool → Bool → Bool → Bool → Bool → Bool) : Bool :=
  all1 fun c1 => all1 fun c6 => all1 fun c7 => all1 fun c9 => all1 fun c10 => all1 fun c11 => all1 fun c12 => all1 fun A => all1 fun B => all1 fun s => all1 fun t => p c1 c6 c7 c9 c10 c11 c12 A B s t
theorem all11_at {p : Bool → Bool → Bool → Bool → Bool → Bool → Bool → Bool → Bool → Bool → Bool → Bool} (h : all11 p = true) (c1 c6 c7 c9 c10 c11 c12 A B s t : Bool) : p c1 c6 c7 c9 c10 c11 c12 A B s t = true :=
  all1_at (all1_at (all1_at (all1_at (all1_at (all1_at (all1_at (all1_at (all1_at (all1_at (all1_at h c1) c6) c7) c9) c10) c11) c12) A) B) s) t
theorem imp_of {a b : Bool} (h : (!a || b) = true) (ha : a = true) : b = true := by subst ha; simpa using h
theorem vl0 {c6 c7 c9 c10 c11 c12 A B s t : Bool} (hv : val false c6 c7 c9 c10 c11 c12 A B s t = true) : c6 = false ∧ c7 = false ∧ c9 = false ∧ c10 = false ∧ c11 = false ∧ c12 = false ∧ s = false ∧ t = false := by
  unfold val at hv
  rw [Bool.and_eq_true, Bool.and_eq_true, Bool.and_eq_true, Bool.and_eq_true, Bool.and_eq_true, Bool.and_eq_true, Bool.and_eq_true] at hv
  obtain ⟨⟨⟨⟨⟨⟨⟨a1, a2⟩, a3⟩, a4⟩, a5⟩, a6⟩, a7⟩, a8⟩ := hv
  simp_all
theorem vl1 {c7 c9 c10 c11 c12 A B s t : Bool} (hv : val true false c7 c9 c10 c11 c12 A B s t = true) : c7 = false ∧ c9 = false ∧ c10 = false ∧ c11 = false ∧ c12 = false ∧ s = false ∧ t = false := by
  unfold val at hv
  rw [Bool.and_eq_true, Bool.and_eq_true, Bool.and_eq_true, Bool.and_eq_true, Bool.and_eq_true, Bool.and_eq_true, Bool.and_eq_true] at hv
  obtain ⟨⟨⟨⟨⟨⟨⟨a1, a2⟩, a3⟩, a4⟩, a5⟩, a6⟩, a7⟩, a8⟩ := hv
  simp_all
theorem vl2 {c1 c9 c10 c11 c12 A B s t : Bool} (hv : val c1 true false c9 c10 c11 c12 A B s t = true) : c1 = true ∧ c9 = false ∧ c10 = false ∧ c11 = false ∧ c12 = false ∧ s = false ∧ t = false := by
  unfold val at hv
  rw [Bool.and_eq_true, Bool.and_eq_true, Bool.and_eq_true, Bool.and_eq_true, Bool.and_eq_true, Bool.and_eq_true, Bool.and_eq_true] at hv
  obtain ⟨⟨⟨⟨⟨⟨⟨a1, a2⟩, a3⟩, a4⟩, a5⟩, a6⟩, a7⟩, a8⟩ := hv
  simp_all
theorem vl3 {c1 c6 c10 c11 c12 A B s t : Bool} (hv : val c1 c6 true false c10 c11 c12 A B s t = true) : c1 = true ∧ c6 = true ∧ c10 = false ∧ c11 = false ∧ c12 = false ∧ s = false ∧ t = false := by
  unfold val at hv
  rw [Bool.and_eq_true, Bool.and_eq_true, Bool.and_eq_true, Bool.and_eq_true, Bool.and_eq_true, Bool.and_eq_true, Bool.and_eq_true] at hv
  obtain ⟨⟨⟨⟨⟨⟨⟨a1, a2⟩, a3⟩, a4⟩, a5⟩, a6⟩, a7⟩, a8⟩ := hv
  simp_all
theorem vl4 {c1 c6 c7 c11 c12 A B s t : Bool} (hv : val c1 c6 c7 true false c11 c12 A B s t = true) : c1 = true ∧ c6 = true ∧ c7 = true ∧ c11 = false ∧ c12 = false ∧ s = false ∧ t = false := by
  unfold val at hv
  rw [Bool.and_eq_true, Bool.and_eq_true, Bool.and_eq_true, Bool.and_eq_true, Bool.and_eq_true, Bool.and_eq_true, Bool.and_eq_true] at hv
  obtain ⟨⟨⟨⟨⟨⟨⟨a1, a2⟩, a3⟩, a4⟩, a5⟩, a6⟩, a7⟩, a8⟩ := hv
  simp_all
theorem vl5 {c1 c6 c7 c9 c12 A B s t : Bool} (hv : val c1 c6 c7 c9 true false c12 A B s t = true) : c1 = true ∧ c6 = true ∧ c7 = true ∧ c9 = true ∧ s = false ∧ t = false := by
  unfold val at hv
  rw [Bool.and_eq_true, Bool.and_eq_true, Bool.and_eq_true, Bool.and_eq_true, Bool.and_eq_true, Bool.and_eq_true, Bool.and_eq_true] at hv
  obtain ⟨⟨⟨⟨⟨⟨⟨a1, a2⟩, a3⟩, a4⟩, a5⟩, a6⟩, a7⟩, a8⟩ := hv
  simp_all
theorem vl6 {c1 c6 c7 c9 c11 A B s t : Bool} (hv : val c1 c6 c7 c9 true c11 false A B s t = true) : c1 = true ∧ c6 = true ∧ c7 = true ∧ c9 = true ∧ t = false := by
  unfold val at hv
  rw [Bool.and_eq_true, Bool.and_eq_true, Bool.and_eq_true, Bool.and_eq_true, Bool.and_eq_true, Bool.and_eq_true, Bool.and_eq_true] at hv
  obtain ⟨⟨⟨⟨⟨⟨⟨a1, a2⟩, a3⟩, a4⟩, a5⟩, a6⟩, a7⟩, a8⟩ := hv
  simp_all
theorem vl7 {c1 c6 c7 c9 c10 c11 c12 B s t : Bool} (hv : val c1 c6 c7 c9 c10 c11 c12 false B s t = true) : s = false ∧ t = false := by
  unfold val at hv
  rw [Bool.and_eq_true, Bool.and_eq_true, Bool.and_eq_true, Bool.and_eq_true, Bool.and_eq_true, Bool.and_eq_true, Bool.and_eq_true] at hv
  obtain ⟨⟨⟨⟨⟨⟨⟨a1, a2⟩, a3⟩, a4⟩, a5⟩, a6⟩, a7⟩, a8⟩ := hv
  simp_all
theorem vl8 {c1 c6 c7 c9 c10 c11 c12 A s t : Bool} (hv : val c1 c6 c7 c9 c10 c11 c12 A false s t = true) : s = false ∧ t = false := by
  unfold val at hv
  rw [Bool.and_eq_true, Bool.and_eq_true, Bool.and_eq_true, Bool.and_eq_true, Bool.and_eq_true, Bool.and_eq_true, Bool.and_eq_true] at hv
  obtain ⟨⟨⟨⟨⟨⟨⟨a1, a2⟩, a3⟩, a4⟩, a5⟩, a6⟩, a7⟩, a8⟩ := hv
  simp_all
theorem vl9 {c1 c6 c7 c9 c10 c12 t : Bool} (hv : val c1 c6 c7 c9 c10 true c12 true true false t = true) : c1 = true ∧ c6 = true ∧ c7 = true ∧ c9 = true ∧ c10 = true ∧ t = false := by
  unfold val at hv
  rw [Bool.and_eq_true, Bool.and_eq_true, Bool.and_eq_true, Bool.and_eq_true, Bool.and_eq_true, Bool.and_eq_true, Bool.and_eq_true] at hv
  obtain ⟨⟨⟨⟨⟨⟨⟨a1, a2⟩, a3⟩, a4⟩, a5⟩, a6⟩, a7⟩, a8⟩ := hv
  simp_all
theorem vl10 {c1 c6 c7 c9 c10 c11 A B : Bool} (hv : val c1 c6 c7 c9 c10 c11 true A B true false = true) : c1 = true ∧ c6 = true ∧ c7 = true ∧ c9 = true ∧ c10 = true ∧ c11 = true ∧ A = true ∧ B = true := by
  unfold val at hv
  rw [Bool.and_eq_true, Bool.and_eq_true, Bool.and_eq_true, Bool.and_eq_true, Bool.and_eq_true, Bool.and_eq_true, Bool.and_eq_true] at hv
  obtain ⟨⟨⟨⟨⟨⟨⟨a1, a2⟩, a3⟩, a4⟩, a5⟩, a6⟩, a7⟩, a8⟩ := hv
  simp_all
theorem vl11 {c1 c6 c7 c9 c10 c11 c12 A B s t : Bool} (hv : val c1 c6 c7 c9 c10 c11 c12 A B s t = true) (hf : (s && t) = true) : c1 = true ∧ c6 = true ∧ c7 = true ∧ c9 = true ∧ c10 = true ∧ c11 = true ∧ c12 = true ∧ A = true ∧ B = true ∧ s = true ∧ t = true := by
  unfold val at hv
  rw [Bool.and_eq_true, Bool.and_eq_true, Bool.and_eq_true, Bool.and_eq_true, Bool.and_eq_true, Bool.and_eq_true, Bool.and_eq_true] at hv
  obtain ⟨⟨⟨⟨⟨⟨⟨a1, a2⟩, a3⟩, a4⟩, a5⟩, a6⟩, a7⟩, a8⟩ := hv
  rw [Bool.and_eq_true] at hf
  obtain ⟨rfl, rfl⟩ := hf
  simp_all
theorem wl1 {c1 c6 c7 c9 c10 c11 c12 B : Bool} (hv : val c1 c6 c7 c9 c10 c11 c12 false B false false = true) : val c1 c6 c7 c9 c10 c11 c12 true B false false = true := by
  unfold val at hv ⊢
  simp_all
theorem wl2 {c1 c6 c7 c9 c10 c11 c12 A : Bool} (hv : val c1 c6 c7 c9 c10 c11 c12 A false false false = true) : val c1 c6 c7 c9 c10 c11 c12 A true false false = true := by
  unfold val at hv ⊢
  simp_all
theorem wl3 {c12 A B : Bool} (hv : val true true true true true false c12 A B false false = true) : val true true true true true true c12 A B false false = true := by
  unfold val at hv ⊢
  simp_all
theorem wl4 {c11 A B s : Bool} (hv : val true true true true true c11 false A B s false = true) : val true true true true true c11 true A B s false = true := by
  unfold val at hv ⊢
  simp_all
theorem wl5 (c12 : Bool) : val true true true true true true c12 true true true false = true := by cases c12 <;> rfl
theorem inv13 {P : Program} {ops : Array Oper} {Q : Exit → Act → World → Prop} {S : World → Prop} (J : Bool → Bool → Bool → Bool → Bool → Bool → Bool → Bool → Bool → Bool → Bool → Act → World → Prop)
    (hready : all11 (fun c1 c6 c7 c9 c10 c11 c12 A B s t => !val c1 c6 c7 c9 c10 c11 c12 A B s t || (Region.ready .any ops (lst c1 c6 c7 c9 c10 c11 c12 A B s t)).all (cond c1 c6 c7 c9 c10 c11 c12 A B s t)) = true)
    (hfin : all11 (fun c1 c6 c7 c9 c10 c11 c12 A B s t => !(val c1 c6 c7 c9 c10 c11 c12 A B s t && (Region.ready .any ops (lst c1 c6 c7 c9 c10 c11 c12 A B s t)).isEmpty) || (s && t)) = true)
    (h1 : ∀ A B a w, J false false false false false false false A B false false a w → wpOp P ops Q 1 (fun a' w' => S w' ∧ J true false false false false false false A B false false a' w') a w)
    (h6 : ∀ A B a w, J true false false false false false false A B false false a w → wpOp P ops Q 6 (fun a' w' => S w' ∧ J true true false false false false false A B false false a' w') a w)
    (h7 : ∀ A B a w, J true true false false false false false A B false false a w → wpOp P ops Q 7 (fun a' w' => S w' ∧ J true true true false false false false A B false false a' w') a w)
    (h9 : ∀ A B a w, J true true true false false false false A B false false a w → wpOp P ops Q 9 (fun a' w' => S w' ∧ J true true true true false false false A B false false a' w') a w)
    (h10 : ∀ A B a w, J true true true true false false false A B false false a w → wpOp P ops Q 10 (fun a' w' => S w' ∧ J true true true true true false false A B false false a' w') a w)
    (h11 : ∀ c12 A B a w, J true true true true true false c12 A B false false a w → wpOp P ops Q 11 (fun a' w' => S w' ∧ J true true true true true true c12 A B false false a' w') a w)
    (h12 : ∀ c11 A B s a w, J true true true true true c11 false A B s false a w → wpOp P ops Q 12 (fun a' w' => S w' ∧ J true true true true true c11 true A B s false a' w') a w)
    (h13 : ∀ c1 c6 c7 c9 c10 c11 c12 B a w, J c1 c6 c7 c9 c10 c11 c12 false B false false a w → wpOp P ops Q 13 (fun a' w' => S w' ∧ J c1 c6 c7 c9 c10 c11 c12 true B false false a' w') a w)
    (h14 : ∀ c1 c6 c7 c9 c10 c11 c12 A a w, J c1 c6 c7 c9 c10 c11 c12 A false false false a w → wpOp P ops Q 14 (fun a' w' => S w' ∧ J c1 c6 c7 c9 c10 c11 c12 A true false false a' w') a w)
    (h15 : ∀ c12 a w, J true true true true true true c12 true true false false a w → wpOp P ops Q 15 (fun a' w' => S w' ∧ J true true true true true true c12 true true true false a' w') a w)
    (h16 : ∀ a w, J true true true true true true true true true true false a w → wpOp P ops Q 16 (fun a' w' => S w' ∧ J true true true true true true true true true true true a' w') a w)
    (hdone : ∀ a w, J true true true true true true true true true true true a w → Q .normal a w)
    (a : Act) (w : World) (h0 : J false false false false false false false false false false false a w) : wpAnyH P .any ops Q S 11 (lst false false false false false false false false false false false) a w := by
  refine wpAnyH_inv (fun l a w => ∃ c1 c6 c7 c9 c10 c11 c12 A B s t, l = lst c1 c6 c7 c9 c10 c11 c12 A B s t ∧ val c1 c6 c7 c9 c10 c11 c12 A B s t = true ∧ J c1 c6 c7 c9 c10 c11 c12 A B s t a w) ?_ ?_ (fun _ _ _ _ => ready_not) 11 _ a w (by decide) ⟨_, _, _, _, _, _, _, _, _, _, _, rfl, rfl, h0⟩
  · rintro l a w ⟨c1, c6, c7, c9, c10, c11, c12, A, B, s, t, rfl, hv, hJ⟩ i hi
    have hc := List.all_eq_true.1 (imp_of (all11_at hready c1 c6 c7 c9 c10 c11 c12 A B s t) hv) i hi
    simp only [cond, Bool.or_eq_true, Bool.and_eq_true, beq_iff_eq, Bool.not_eq_true', or_assoc] at hc
    rcases hc with ⟨rfl, rfl⟩ | ⟨⟨rfl, rfl⟩, rfl⟩ | ⟨⟨rfl, rfl⟩, rfl⟩ | ⟨⟨rfl, rfl⟩, rfl⟩ | ⟨⟨rfl, rfl⟩, rfl⟩ | ⟨⟨rfl, rfl⟩, rfl⟩ | ⟨⟨rfl, rfl⟩, rfl⟩ | ⟨rfl, rfl⟩ | ⟨rfl, rfl⟩ | ⟨⟨⟨⟨rfl, rfl⟩, rfl⟩, rfl⟩, rfl⟩ | ⟨⟨⟨rfl, rfl⟩, rfl⟩, rfl⟩
    · obtain ⟨rfl, rfl, rfl, rfl, rfl, rfl, rfl, rfl⟩ : c6 = false ∧ c7 = false ∧ c9 = false ∧ c10 = false ∧ c11 = false ∧ c12 = false ∧ s = false ∧ t = false := vl0 hv
      exact wpOp_mono (fun a' w' h => ⟨h.1, _, _, _, _, _, _, _, _, _, _, _, rfl, rfl, h.2⟩) (h1 A B a w hJ)
    · obtain ⟨rfl, rfl, rfl, rfl, rfl, rfl, rfl⟩ : c7 = false ∧ c9 = false ∧ c10 = false ∧ c11 = false ∧ c12 = false ∧ s = false ∧ t = false := vl1 hv
      exact wpOp_mono (fun a' w' h => ⟨h.1, _, _, _, _, _, _, _, _, _, _, _, rfl, rfl, h.2⟩) (h6 A B a w hJ)
    · obtain ⟨rfl, rfl, rfl, rfl, rfl, rfl, rfl⟩ : c1 = true ∧ c9 = false ∧ c10 = false ∧ c11 = false ∧ c12 = false ∧ s = false ∧ t = false := vl2 hv
      exact wpOp_mono (fun a' w' h => ⟨h.1, _, _, _, _, _, _, _, _, _, _, _, rfl, rfl, h.2⟩) (h7 A B a w hJ)
    · obtain ⟨rfl, rfl, rfl, rfl, rfl, rfl, rfl⟩ : c1 = true ∧ c6 = true ∧ c10 = false ∧ c11 = false ∧ c12 = false ∧ s = false ∧ t = false := vl3 hv
      exact wpOp_mono (fun a' w' h => ⟨h.1, _, _, _, _, _, _, _, _, _, _, _, rfl, rfl, h.2⟩) (h9 A B a w hJ)
    · obtain ⟨rfl, rfl, rfl, rfl, rfl, rfl, rfl⟩ : c1 = true ∧ c6 = true ∧ c7 = true ∧ c11 = false ∧ c12 = false ∧ s = false ∧ t = false := vl4 hv
      exact wpOp_mono (fun a' w' h => ⟨h.1, _, _, _, _, _, _, _, _, _, _, _, rfl, rfl, h.2⟩) (h10 A B a w hJ)
    · obtain ⟨rfl, rfl, rfl, rfl, rfl, rfl⟩ : c1 = true ∧ c6 = true ∧ c7 = true ∧ c9 = true ∧ s = false ∧ t = false := vl5 hv
      exact wpOp_mono (fun a' w' h => ⟨h.1, _, _, _, _, _, _, _, _, _, _, _, rfl, wl3 hv, h.2⟩) (h11 c12 A B a w hJ)
    · obtain ⟨rfl, rfl, rfl, rfl, rfl⟩ : c1 = true ∧ c6 = true ∧ c7 = true ∧ c9 = true ∧ t = false := vl6 hv
      exact wpOp_mono (fun a' w' h => ⟨h.1, _, _, _, _, _, _, _, _, _, _, _, rfl, wl4 hv, h.2⟩) (h12 c11 A B s a w hJ)
    · obtain ⟨rfl, rfl⟩ : s = false ∧ t = false := vl7 hv
      have hv' : val c1 c6 c7 c9 c10 c11 c12 true B false false = true := wl1 hv
      exact wpOp_mono (fun a' w' h => ⟨h.1, _, _, _, _, _, _, _, _, _, _, _, rfl, hv', h.2⟩) (h13 c1 c6 c7 c9 c10 c11 c12 B a w hJ)
    · obtain ⟨rfl, rfl⟩ : s = false ∧ t = false := vl8 hv
      have hv' : val c1 c6 c7 c9 c10 c11 c12 A true false false = true := wl2 hv
      exact wpOp_mono (fun a' w' h => ⟨h.1, _, _, _, _, _, _, _, _, _, _, _, rfl, hv', h.2⟩) (h14 c1 c6 c7 c9 c10 c11 c12 A a w hJ)
    · obtain ⟨rfl, rfl, rfl, rfl, rfl, rfl⟩ : c1 = true ∧ c6 = true ∧ c7 = true ∧ c9 = true ∧ c10 = true ∧ t = false := vl9 hv
      exact wpOp_mono (fun a' w' h => ⟨h.1, _, _, _, _, _, _, _, _, _, _, _, rfl, wl5 c12, h.2⟩) (h15 c12 a w hJ)
    · obtain ⟨rfl, rfl, rfl, rfl, rfl, rfl, rfl, rfl⟩ : c1 = true ∧ c6 = true ∧ c7 = true ∧ c9 = true ∧ c10 = true ∧ c11 = true ∧ A = true ∧ B = true := vl10 hv
      exact wpOp_mono (fun a' w' h => ⟨h.1, _, _, _, _, _, _, _, _, _, _, _, rfl, rfl, h.2⟩) (h16 a w hJ)
  · rintro l a w ⟨c1, c6, c7, c9, c10, c11, c12, A, B, s, t, rfl, hv, hJ⟩ hr
    have hf := imp_of (all11_at hfin c1 c6 c7 c9 c10 c11 c12 A B s t) (by rw [hv, hr]; rfl)
    obtain ⟨rfl, rfl, rfl, rfl, rfl, rfl, rfl, rfl, rfl, rfl, rfl⟩ : c1 = true ∧ c6 = true ∧ c7 = true ∧ c9 = true ∧ c10 = true ∧ c11 = true ∧ c12 = true ∧ A = true ∧ B = true ∧ s = true ∧ t = true := vl11 hv hf
    exact hdone a w hJ
theorem inv13at {P : Program} {ops : Array Oper} {Q : Exit → Act → World → Prop} {S : World → Prop} (J : Act → Bool → Bool → Bool → Bool → Bool → Bool → Bool → Bool → Bool → Bool → Bool → Act → World → Prop)
    (A0 : Act) (hready : all11 (fun c1 c6 c7 c9 c10 c11 c12 A B s t => !val c1 c6 c7 c9 c10 c11 c12 A B s t || (Region.ready .any ops (lst c1 c6 c7 c9 c10 c11 c12 A B s t)).all (cond c1 c6 c7 c9 c10 c11 c12 A B s t)) = true)
    (hfin : all11 (fun c1 c6 c7 c9 c10 c11 c12 A B s t => !(val c1 c6 c7 c9 c10 c11 c12 A B s t && (Region.ready .any ops (lst c1 c6 c7 c9 c10 c11 c12 A B s t)).isEmpty) || (s && t)) = true)
    (h1 : ∀ A B a w, J A0 false false false false false false false A B false false a w → wpOp P ops Q 1 (fun a' w' => S w' ∧ J A0 true false false false false false false A B false false a' w') a w)
    (h6 : ∀ A B a w, J A0 true false false false false false false A B false false a w → wpOp P ops Q 6 (fun a' w' => S w' ∧ J A0 true true false false false false false A B false false a' w') a w)
    (h7 : ∀ A B a w, J A0 true true false false false false false A B false false a w → wpOp P ops Q 7 (fun a' w' => S w' ∧ J A0 true true true false false false false A B false false a' w') a w)
    (h9 : ∀ A B a w, J A0 true true true false false false false A B false false a w → wpOp P ops Q 9 (fun a' w' => S w' ∧ J A0 true true true true false false false A B false false a' w') a w)
    (h10 : ∀ A B a w, J A0 true true true true false false false A B false false a w → wpOp P ops Q 10 (fun a' w' => S w' ∧ J A0 true true true true true false false A B false false a' w') a w)
    (h11 : ∀ c12 A B a w, J A0 true true true true true false c12 A B false false a w → wpOp P ops Q 11 (fun a' w' => S w' ∧ J A0 true true true true true true c12 A B false false a' w') a w)
    (h12 : ∀ c11 A B s a w, J A0 true true true true true c11 false A B s false a w → wpOp P ops Q 12 (fun a' w' => S w' ∧ J A0 true true true true true c11 true A B s false a' w') a w)
    (h13 : ∀ c1 c6 c7 c9 c10 c11 c12 B a w, J A0 c1 c6 c7 c9 c10 c11 c12 false B false false a w → wpOp P ops Q 13 (fun a' w' => S w' ∧ J A0 c1 c6 c7 c9 c10 c11 c12 true B false false a' w') a w)
    (h14 : ∀ c1 c6 c7 c9 c10 c11 c12 A a w, J A0 c1 c6 c7 c9 c10 c11 c12 A false false false a w → wpOp P ops Q 14 (fun a' w' => S w' ∧ J A0 c1 c6 c7 c9 c10 c11 c12 A true false false a' w') a w)
    (h15 : ∀ c12 a w, J A0 true true true true true true c12 true true false false a w → wpOp P ops Q 15 (fun a' w' => S w' ∧ J A0 true true true true true true c12 true true true false a' w') a w)
    (h16 : ∀ a w, J A0 true true true true true true true true true true false a w → wpOp P ops Q 16 (fun a' w' => S w' ∧ J A0 true true true true true true true true true true true a' w') a w)
    (hdone : ∀ a w, J A0 true true true true true true true true true true true a w → Q .normal a w)
    (w : World) (h0 : J A0 false false false false false false false false false false false A0 w) : wpAnyH P .any ops Q S 11 (lst false false false false false false false false false false false) A0 w :=
  inv13 (J A0) hready hfin h1 h6 h7 h9 h10 h11 h12 h13 h14 h15 h16 hdone A0 w h0
end Go.Proofs.Ytddpladmkmpoaaa
/- The region that divides: its state, and how each operation turns it. -/
namespace Go.Proofs.Ytddpladmkmpoaaa
open Go Go.ChangeShapes Go.WideShapes Go.ChangeAt Go.RowKit
set_option linter.unusedVariables false
/-- a block of six words that may be written -/
structure May6 (w : World) (b : Nat) : Prop where
  th : w.there b 0 6
theorem may6_new (w : World) (a0 a1 a2 a3 a4 a5 : Int) : May6 (w.alloc (.cells #[.int .u64 a0, .int .u64 a1, .int .u64 a2, .int .u64 a3, .int .u64 a4, .int .u64 a5] 46)) w.heap.size := ⟨there_new w a0 a1 a2 a3 a4 a5⟩
theorem May6.below {W w1 : World} {b : Nat} (h : May6 W b) (hb : Below W.heap.size W w1) : May6 w1 b := ⟨there_below hb h.th⟩
theorem may6_alloc {w : World} {b : Nat} (o : Obj) (h : May6 w b) : May6 (w.alloc o) b := ⟨there_alloc o h.th⟩
theorem may6_put6 {w : World} {b c n : Nat} (h : May6 w b) : May6 (put6 w c n) b := ⟨there_put6 h.th⟩
theorem may6_drew (w : World) (b : Nat) : May6 w.drew b = May6 w b := propext ⟨fun h => ⟨h.th⟩, fun h => ⟨h.th⟩⟩
theorem run_st46m (w : World) (b n : Nat) (ht : May6 w b) : (st46 (.pointer (some ⟨b, 0, none⟩)) (.agg #[.int .u64 (dg n 0), .int .u64 (dg n 1), .int .u64 (dg n 2), .int .u64 (dg n 3), .int .u64 (dg n 4), .int .u64 (dg n 5)])).run Try.prog w = .ok () (put6 w b n) := run_put6 w b n ht.th
theorem May6.put {w : World} {b : Nat} (h : May6 w b) (n : Nat) : Box (put6 w b n) b n := by
  have hr := World.rangeAt_setCells_same w b 0 (six6 n) h.th
  refine ⟨by rw [size_put6]; exact there_lt h.th, fun i hi => ?_, fun i hi => ?_⟩
  · have := hr i _ (six6_get n i hi)
    rw [Nat.zero_add] at this
    exact this
  · have := (h.th i hi).2
    rw [Nat.zero_add] at this
    unfold put6
    rw [frozen_setCells]
    exact this
def agv (n : Nat) : Value := .agg #[.int .u64 (dg n 0), .int .u64 (dg n 1), .int .u64 (dg n 2), .int .u64 (dg n 3), .int .u64 (dg n 4), .int .u64 (dg n 5)]
def ptr (b : Nat) : Value := .pointer (some ⟨b, 0, none⟩)
structure F13 (wr : World) (q r M1 M2 : Nat) (c1 c6 c7 c9 c10 c11 c12 A B s t : Bool) (x13 x14 x41 x43 x48 x49 x51 x52 x53 : Value) (bA bB : Nat) (w : World) : Prop where
  e43 : c1 = true → x43 = wv M1
  e48 : c6 = true → x48 = wv M2
  e49 : c7 = true → x49 = wv (M1 * M2)
  e51 : c9 = true → x51 = .tuple #[agv q, agv r]
  e41 : c10 = true → x41 = .tuple #[agv q, agv r]
  e52 : c11 = true → x52 = agv q
  e53 : c12 = true → x53 = agv r
  pA : A = true → x13 = ptr bA ∧ wr.heap.size ≤ bA ∧ May6 w bA ∧ (s = true → Box w bA q)
  pB : B = true → x14 = ptr bB ∧ wr.heap.size ≤ bB ∧ May6 w bB ∧ (t = true → Box w bB r)
  ne : A = true → B = true → bA ≠ bB
  bel : Below wr.heap.size wr w
section
variable {wr w : World} {q r M1 M2 : Nat} {c1 c6 c7 c9 c10 c11 c12 A B s t : Bool} {x13 x14 x41 x43 x48 x49 x51 x52 x53 : Value} {bA bB : Nat}
theorem F13.start (h : Below wr.heap.size wr w) : F13 wr q r M1 M2 false false false false false false false false false false false x13 x14 x41 x43 x48 x49 x51 x52 x53 bA bB w :=
  ⟨nofun, nofun, nofun, nofun, nofun, nofun, nofun, nofun, nofun, nofun, h⟩
theorem F13.call (h : F13 wr q r M1 M2 c1 c6 c7 c9 c10 c11 c12 A B s t x13 x14 x41 x43 x48 x49 x51 x52 x53 bA bB w) {w1 : World} (hb : Below w.heap.size w w1) : F13 wr q r M1 M2 c1 c6 c7 c9 c10 c11 c12 A B s t x13 x14 x41 x43 x48 x49 x51 x52 x53 bA bB w1 :=
  ⟨h.e43, h.e48, h.e49, h.e51, h.e41, h.e52, h.e53, fun e => ⟨(h.pA e).1, (h.pA e).2.1, (h.pA e).2.2.1.below hb, fun e' => ((h.pA e).2.2.2 e').below hb⟩, fun e => ⟨(h.pB e).1, (h.pB e).2.1, (h.pB e).2.2.1.below hb, fun e' => ((h.pB e).2.2.2 e').below hb⟩, h.ne, h.bel.trans (hb.mono h.bel.size)⟩
theorem F13.allocA (h : F13 wr q r M1 M2 c1 c6 c7 c9 c10 c11 c12 false B false false x13 x14 x41 x43 x48 x49 x51 x52 x53 bA bB w) : F13 wr q r M1 M2 c1 c6 c7 c9 c10 c11 c12 true B false false (ptr w.heap.size) x14 x41 x43 x48 x49 x51 x52 x53 w.heap.size bB (w.alloc (.cells #[.int .u64 0, .int .u64 0, .int .u64 0, .int .u64 0, .int .u64 0, .int .u64 0] 46)) :=
  ⟨h.e43, h.e48, h.e49, h.e51, h.e41, h.e52, h.e53, fun _ => ⟨rfl, h.bel.size, may6_new w 0 0 0 0 0 0, fun e => by cases e⟩, fun e => ⟨(h.pB e).1, (h.pB e).2.1, may6_alloc _ (h.pB e).2.2.1, fun e' => by cases e'⟩, fun _ e => by have := there_lt (h.pB e).2.2.1.th; omega, h.bel.alloc h.bel.size _⟩
theorem F13.allocB (h : F13 wr q r M1 M2 c1 c6 c7 c9 c10 c11 c12 A false false false x13 x14 x41 x43 x48 x49 x51 x52 x53 bA bB w) : F13 wr q r M1 M2 c1 c6 c7 c9 c10 c11 c12 A true false false x13 (ptr w.heap.size) x41 x43 x48 x49 x51 x52 x53 bA w.heap.size (w.alloc (.cells #[.int .u64 0, .int .u64 0, .int .u64 0, .int .u64 0, .int .u64 0, .int .u64 0] 46)) :=
  ⟨h.e43, h.e48, h.e49, h.e51, h.e41, h.e52, h.e53, fun e => ⟨(h.pA e).1, (h.pA e).2.1, may6_alloc _ (h.pA e).2.2.1, fun e' => by cases e'⟩, fun _ => ⟨rfl, h.bel.size, may6_new w 0 0 0 0 0 0, fun e => by cases e⟩, fun e _ => by have := there_lt (h.pA e).2.2.1.th; omega, h.bel.alloc h.bel.size _⟩
theorem F13.putA (h : F13 wr q r M1 M2 c1 c6 c7 c9 c10 c11 c12 true true false false x13 x14 x41 x43 x48 x49 x51 x52 x53 bA bB w) : F13 wr q r M1 M2 c1 c6 c7 c9 c10 c11 c12 true true true false x13 x14 x41 x43 x48 x49 x51 x52 x53 bA bB (put6 w bA q) :=
  ⟨h.e43, h.e48, h.e49, h.e51, h.e41, h.e52, h.e53, fun e => ⟨(h.pA e).1, (h.pA e).2.1, may6_put6 (h.pA e).2.2.1, fun _ => (h.pA e).2.2.1.put q⟩, fun e => ⟨(h.pB e).1, (h.pB e).2.1, may6_put6 (h.pB e).2.2.1, fun e' => by cases e'⟩, h.ne, below_put6 h.bel (h.pA rfl).2.1 q⟩
theorem F13.putB (h : F13 wr q r M1 M2 c1 c6 c7 c9 c10 c11 c12 true true true false x13 x14 x41 x43 x48 x49 x51 x52 x53 bA bB w) : F13 wr q r M1 M2 c1 c6 c7 c9 c10 c11 c12 true true true true x13 x14 x41 x43 x48 x49 x51 x52 x53 bA bB (put6 w bB r) :=
  ⟨h.e43, h.e48, h.e49, h.e51, h.e41, h.e52, h.e53, fun e => ⟨(h.pA e).1, (h.pA e).2.1, may6_put6 (h.pA e).2.2.1, fun _ => ((h.pA e).2.2.2 rfl).other (h.ne rfl rfl) r⟩, fun e => ⟨(h.pB e).1, (h.pB e).2.1, may6_put6 (h.pB e).2.2.1, fun _ => (h.pB e).2.2.1.put r⟩, h.ne, below_put6 h.bel (h.pB rfl).2.1 r⟩
end
def fr13 (A0 : Act) (x13 x14 x41 x43 x48 x49 x51 x52 x53 : Value) : Act := ((((((((A0.put (some 13) x13).put (some 14) x14).put (some 41) x41).put (some 43) x43).put (some 48) x48).put (some 49) x49).put (some 51) x51).put (some 52) x52).put (some 53) x53
def J13 (A0 : Act) (wr : World) (q r M1 M2 : Nat) (c1 c6 c7 c9 c10 c11 c12 A B s t : Bool) (a : Act) (w : World) : Prop :=
  ∃ x13 x14 x41 x43 x48 x49 x51 x52 x53 bA bB, a = fr13 A0 x13 x14 x41 x43 x48 x49 x51 x52 x53 ∧ F13 wr q r M1 M2 c1 c6 c7 c9 c10 c11 c12 A B s t x13 x14 x41 x43 x48 x49 x51 x52 x53 bA bB w
end Go.Proofs.Ytddpladmkmpoaaa
