import Derived.Test.YtddpladmkmpoaaaShaN
namespace Go.Proofs.Ytddpladmkmpoaaa
open Go.ChangeShapes Go.WideShapes Go.ChangeAt Go.RowKit
set_option linter.unusedVariables false
set_option maxHeartbeats 1000000 in
theorem split_min (v : Value) (w : World) : Calls Try.prog 23 #[.int .i64 (-9223372036854775808), v] w fun e w' => e = .returned (.tuple #[.slice none 0 0, .int .i64 10]) ∧ w' = w := by
  go_enter Try.func23, Try.ntmps23
  go_wp2_with fail
  refine (chk_no _).mono ?_
  rintro e w0 ⟨rfl, hw⟩
  rw [hw]
  go_wp2
  go_ret2
  exact ⟨rfl, rfl⟩
set_option maxHeartbeats 1000000 in
theorem split_bad (total : Int) (ht : -9223372036854775807 ≤ total) (v : Value) (w : World) (C : Calls Try.prog 44 #[v] w fun e w' => e = .returned (.tuple #[.int .i64 0, .int .i64 13]) ∧ w' = w) : Calls Try.prog 23 #[.int .i64 total, v] w fun e w' => e = .returned (.tuple #[.slice none 0 0, .int .i64 13]) ∧ w' = w := by
  have C := hide C
  go_enter Try.func23, Try.ntmps23
  go_wp2_with fail
  refine (chk_yes _ _ ht).mono ?_
  rintro e w0 ⟨rfl, hw⟩
  rw [hw]
  clear hw w0
  go_wp2_with fail
  refine (unhide C).mono ?_
  rintro e w0 ⟨rfl, hw⟩
  rw [hw]
  clear hw w0
  go_wp2
  go_ret2
  exact ⟨rfl, rfl⟩
end Go.Proofs.Ytddpladmkmpoaaa
namespace Go.Proofs.Ytddpladmkmpoaaa
open Go.ChangeShapes Go.WideShapes Go.ChangeAt Go.RowKit
set_option linter.unusedVariables false
/-- a number with a sign -/
def sgn (neg : Bool) (x : Nat) : Int := if neg then -(x : Int) else (x : Int)
/-- the parts in their cells -/
structure Got (T S : Nat) (zs : Nat → Int) (n : Nat) (neg : Bool) (pb : Nat) (g : Nat → Int) (w : World) : Prop where
  lt : pb < w.heap.size
  cells : ∀ x, x < n → w.cell? ⟨pb, x, none⟩ = some (.int .i64 (g x))
  val : ∀ i, i < n → g i = sgn neg (part T S zs n i)
  sum : sumZ g n = sgn neg T
  le : ∀ i, i < n → part T S zs n i ≤ T
theorem Got.below {T S n pb : Nat} {zs g : Nat → Int} {neg : Bool} {w w' : World} (h : Got T S zs n neg pb g w) (hb : Below w.heap.size w w') : Got T S zs n neg pb g w' :=
  ⟨Nat.lt_of_lt_of_le h.lt hb.size, fun x hx => (hb.cell (show (⟨pb, x, none⟩ : Addr).block < w.heap.size from h.lt)).trans (h.cells x hx), h.val, h.sum, h.le⟩
def GotOut (T S : Nat) (zs : Nat → Int) (n : Nat) (neg : Bool) (w : World) (e : Ending) (w' : World) : Prop :=
  ∃ pb g, e = .returned (.tuple #[.slice (some ⟨pb, 0, none⟩) n n, .int .i64 0]) ∧ w.heap.size ≤ pb ∧ Got T S zs n neg pb g w' ∧ Below w.heap.size w w'
/-- a list of weights by which one can share -/
structure Wts (S : Nat) (zs : Nat → Int) (b off n : Nat) (w : World) : Prop where
  S0 : 0 < S
  S63 : S ≤ 9223372036854775807
  sum : sumN zs n = S
  n0 : 0 < n
  n1 : n ≤ 1000
  lt : b < w.heap.size
  pos : ∀ k, k < n → 0 ≤ zs k ∧ zs k ≤ 9223372036854775807
  cells : ∀ k, k < n → w.cell? ⟨b, off + k, none⟩ = some (.int .i64 (zs k))
theorem Wts.below {S b off n : Nat} {zs : Nat → Int} {w w' : World} (h : Wts S zs b off n w) (hb : Below w.heap.size w w') : Wts S zs b off n w' :=
  { h with lt := Nat.lt_of_lt_of_le h.lt hb.size, cells := fun k hk => (hb.cell (show (⟨b, off + k, none⟩ : Addr).block < w.heap.size from h.lt)).trans (h.cells k hk) }
theorem split_got {S b off n : Nat} {zs : Nat → Int} {w : World} (h : Wts S zs b off n w) (cap T : Nat) (total : Int) (hT : total.natAbs = T) (hT63 : T ≤ 9223372036854775807) :
    Calls Try.prog 23 #[.int .i64 total, .slice (some ⟨b, off, none⟩) n cap] w fun e w' => GotOut T S zs n (decide (total < 0)) w e w' := by
  refine (split_ok T S total zs b off n cap _ rfl hT hT63 h.sum h.S0 h.S63 h.n1 h.n0 (hide h.pos) w h.lt (hide h.cells)).mono ?_
  rintro e w' ⟨pb, c, g, rfl, hpb, hO, hL, hB⟩
  have hv : ∀ i, i < n → g i = sgn (decide (total < 0)) (part T S zs n i) := fun i hi => hL.at hO hi
  refine ⟨pb, g, rfl, hpb, ⟨?_, fun x hx => (hL.cells x hx).1, hv, ?_, fun i hi => part_le hO h.sum h.S0 hi⟩, hB⟩
  · exact World.block_lt_of_cell? _ ⟨pb, 0, none⟩ (hL.cells 0 h.n0).1
  · rw [sumZ_part _ g hv n (Nat.le_refl _), sumP_T hO h.sum h.S0]
    rfl
theorem sum_wts {S b off n : Nat} {zs : Nat → Int} {w : World} (h : Wts S zs b off n w) (cap : Nat) : Calls Try.prog 8 #[.slice (some ⟨b, off, none⟩) n cap] w fun e w' => e = .returned (.tuple #[.int .i64 S, .int .i64 0]) ∧ w' = w := by
  have hs : sumSpec zs n = ((S : Int), 0) := by
    have e1 := sumN_is n (fun k hk => (h.pos k hk).1)
    rw [h.sum] at e1
    have := h.S63
    have := h.S0
    rw [sumSpec_fits (anyMin_of (fun i hi => by have := h.pos i hi; omega)) (by omega) (by omega), ← e1]
  have hm := msum_any zs b off n cap (by have := h.n1; omega) (fun k hk => ⟨by have := h.pos k hk; omega, (h.pos k hk).2⟩) w h.cells
  rw [hs] at hm
  exact hm
theorem sgn_bd (neg : Bool) {x T : Nat} (h : x ≤ T) (hT : T ≤ 9223372036854775807) : -9223372036854775807 ≤ sgn neg x ∧ sgn neg x ≤ 9223372036854775807 := by
  unfold sgn
  cases neg <;> simp <;> omega
theorem sum_got {T S n pb : Nat} {zs g : Nat → Int} {neg : Bool} {w : World} (h : Got T S zs n neg pb g w) (hn : n ≤ 1000) (hT : T ≤ 9223372036854775807) (cap : Nat) : Calls Try.prog 8 #[.slice (some ⟨pb, 0, none⟩) n cap] w fun e w' => e = .returned (.tuple #[.int .i64 (sgn neg T), .int .i64 0]) ∧ w' = w := by
  have hb : ∀ k, k < n → -9223372036854775807 ≤ g k ∧ g k ≤ 9223372036854775807 := fun k hk => by rw [h.val k hk]; exact sgn_bd neg (h.le k hk) hT
  have hs : sumSpec g n = (sgn neg T, 0) := by
    have := sgn_bd neg (Nat.le_refl T) hT
    rw [sumSpec_fits (anyMin_of (fun i hi => by have := hb i hi; omega)) (by rw [h.sum]; omega) (by rw [h.sum]; omega), h.sum]
  have hm := msum_any g pb 0 n cap (by omega) (fun k hk => ⟨by have := hb k hk; omega, (hb k hk).2⟩) w (fun k hk => by rw [Nat.zero_add]; exact h.cells k hk)
  rw [hs] at hm
  exact hm
theorem sgn_total (total : Int) (T : Nat) (h : total.natAbs = T) : sgn (decide (total < 0)) T = total := by
  unfold sgn
  by_cases h' : total < 0 <;> simp [h'] <;> omega
end Go.Proofs.Ytddpladmkmpoaaa
