/- Both sides' Split, at every list: they hand back the same parts, or the same error. -/
import Derived.Test.YtddpladmkmpoaaaSprR
import Derived.Test.YtddpladmkmpoaaaShaB
import Derived.Test.YtddpladmkmpoaaaSumsA
namespace Go.Proofs.Ytddpladmkmpoaaa
open Go Go.ChangeShapes Go.WideShapes Go.ChangeAt Go.RowKit
set_option linter.unusedVariables false
attribute [local go_sem] setCell_drewN alloc_drewN
/-- a slice that shows so many numbers -/
def Lies (zs : Nat → Int) (v : Value) (len : Nat) (W : World) : Prop :=
  (len = 0 ∧ ∃ a0 cap, v = .slice a0 0 cap) ∨ ∃ b off cap, v = .slice (some ⟨b, off, none⟩) len cap ∧ b < W.heap.size ∧ ∀ k, k < len → W.cell? ⟨b, off + k, none⟩ = some (.int .i64 (zs k))
/-- what money's Split hands back: a row of its own -/
def Hands (m : Nat) (f : Nat → Int) (c : Int) (W : World) (e : Ending) (w' : World) : Prop :=
  ∃ v, e = .returned (.tuple #[v, .int .i64 c]) ∧ w'.ownsRow W.heap.size 2 1 v m (cellsOf f m) ∧ Below W.heap.size W w'
/-- a slice that was handed back -/
def Shows (B m : Nat) (f : Nat → Int) (v : Value) (w : World) : Prop :=
  (m = 0 ∧ v = .slice none 0 0) ∨ ∃ pb cap, v = .slice (some ⟨pb, 0, none⟩) m cap ∧ B ≤ pb ∧ pb < w.heap.size ∧ ∀ x, x < m → w.cell? ⟨pb, x, none⟩ = some (.int .i64 (f x))
def HandsR (m : Nat) (f : Nat → Int) (c : Int) (W : World) (e : Ending) (w' : World) : Prop :=
  ∃ v, e = .returned (.tuple #[v, .int .i64 c]) ∧ Shows W.heap.size m f v w' ∧ Below W.heap.size W w'
theorem Shows.below {B m : Nat} {f : Nat → Int} {v : Value} {w w' : World} (h : Shows B m f v w) (hb : Below w.heap.size w w') : Shows B m f v w' := by
  rcases h with h | ⟨pb, cap, h1, h2, h3, h4⟩
  · exact .inl h
  · exact .inr ⟨pb, cap, h1, h2, Nat.lt_of_lt_of_le h3 hb.size, fun x hx => keep1 hb h3 (h4 x hx)⟩
theorem Shows.grown {B m : Nat} {f : Nat → Int} {v : Value} {w w' : World} {row : Option Nat} (h : Shows B m f v w) (hg : w.grownBy w' row) (hr : ∀ k, row = some k → k < B) : Shows B m f v w' := by
  rcases h with h | ⟨pb, cap, h1, h2, h3, h4⟩
  · exact .inl h
  · refine .inr ⟨pb, cap, h1, h2, Nat.lt_of_lt_of_le h3 hg.size, fun x hx => (hg.cell_far ⟨pb, x, none⟩ h3 (fun e => ?_)).trans (h4 x hx)⟩
    have := hr pb e.symm
    omega
theorem Shows.of_own {B m : Nat} {f : Nat → Int} {v : Value} {w : World} (h : w.ownsRow B 2 1 v m (cellsOf f m)) : Shows B m f v w := by
  rcases h.2 with ⟨h1, h2⟩ | ⟨g, cap, cur, rfl, hb, _⟩
  · exact .inl ⟨h2, h1⟩
  · refine .inr ⟨g, cap, rfl, hb, (h.lt g rfl).2, fun x hx => ?_⟩
    rw [h.cellAt x (by omega)]
    exact cellsOf_get f m x hx
theorem Lies.of_own {B m : Nat} {f : Nat → Int} {v : Value} {w : World} (h : w.ownsRow B 2 1 v m (cellsOf f m)) : Lies f v m w := by
  rcases Shows.of_own h with ⟨rfl, rfl⟩ | ⟨pb, cap, rfl, _, h3, h4⟩
  · exact .inl ⟨rfl, none, 0, rfl⟩
  · exact .inr ⟨pb, 0, cap, rfl, h3, fun k hk => by rw [Nat.zero_add]; exact h4 k hk⟩
theorem Lies.of_in {zs : Nat → Int} {w w1 : World} {a0 : Option Addr} {len cap : Nat} (h : LIn zs w a0 len cap) (hb : Below w.heap.size w w1) : Lies zs (.slice a0 len cap) len w1 := by
  rcases h.at' with ⟨rfl, _⟩ | ⟨b, off, rfl, hbb, _, hc⟩
  · exact .inl ⟨rfl, a0, cap, rfl⟩
  · exact .inr ⟨b, off, cap, rfl, Nat.lt_of_lt_of_le hbb hb.size, fun k hk => keep1 hb hbb (hc k hk)⟩
set_option maxHeartbeats 1000000 in
theorem same_zero (a0 b0 : Option Addr) (ca cb : Nat) (w : World) : Calls Try.prog 25 #[.slice a0 0 ca, .slice b0 0 cb] w fun e w' => e = .returned (.bool true) ∧ ∃ m, w' = w.drewN m := by
  go_enter Try.func25, Try.ntmps25
  go_wp2
  go_loopw [5] (fun i wr => i = .int .i64 0 ∧ wr = w) (fun i _ => 0)
  case atStart => exact ⟨rfl, rfl⟩
  case round =>
    obtain ⟨rfl, rfl⟩ := hrel
    go_wp2
    go_ret
    exact ⟨rfl, 0, rfl⟩
theorem same_shows {B B' m : Nat} {f : Nat → Int} {v v' : Value} {w : World} (h : Shows B m f v w) (h' : Shows B' m f v' w) (hm : m ≤ 1000) : Calls Try.prog 25 #[v, v'] w fun e w' => e = .returned (.bool true) ∧ ∃ n, w' = w.drewN n := by
  by_cases h0 : m = 0
  · subst h0
    obtain ⟨a0, ca, rfl⟩ : ∃ a0 ca, v = .slice a0 0 ca := by rcases h with ⟨_, rfl⟩ | ⟨pb, cap, rfl, _⟩ <;> exact ⟨_, _, rfl⟩
    obtain ⟨b0, cb, rfl⟩ : ∃ a0 ca, v' = .slice a0 0 ca := by rcases h' with ⟨_, rfl⟩ | ⟨pb, cap, rfl, _⟩ <;> exact ⟨_, _, rfl⟩
    exact same_zero a0 b0 ca cb w
  · rcases h with ⟨h1, _⟩ | ⟨pb, cap, rfl, _, _, h4⟩
    · exact absurd h1 h0
    · rcases h' with ⟨h1, _⟩ | ⟨pb', cap', rfl, _, _, h4'⟩
      · exact absurd h1 h0
      · exact same_any f f pb pb' m cap cap' hm w (hide fun k hk => by rw [Nat.zero_add]; exact h4 k hk) (hide fun k hk => by rw [Nat.zero_add]; exact h4' k hk) (hide fun _ _ => rfl)
set_option maxRecDepth 100000 in
set_option maxHeartbeats 1000000 in
theorem rsplit_min (v : Value) (w : World) : Calls Try.prog 24 #[.int .i64 (-9223372036854775808), v] w fun e w' => e = .returned (.tuple #[.slice none 0 0, .int .i64 10]) ∧ Below w.heap.size w w' := by
  go_enter Try.func24, Try.ntmps24
  go_wp2_with (go_at_call 28; refine (is_no _).mono ?_; rintro e w0 ⟨rfl, hw⟩; rw [hw]; clear hw w0)
  go_ret2
  exact ⟨rfl, Below.refl _ _⟩
attribute [local go_sem ↓] st46_is
attribute [local go_sem] run_st46m run_st46_new may6_new may6_alloc may6_put6 may6_drew
theorem wts_open {s : Nat} {g : Bool} {w : World} {e : Ending} {w' : World} (h : WtsOut s g w e w') : ∃ t, e = .returned (.tuple #[.agg #[.int .u64 (dg t 0), .int .u64 (dg t 1), .int .u64 (dg t 2), .int .u64 (dg t 3), .int .u64 (dg t 4), .int .u64 (dg t 5)], .bool g]) ∧ (g = true → t = s) ∧ Below w.heap.size w w' := by
  obtain ⟨⟨t, he, ht⟩, hb⟩ := h
  exact ⟨t, he, ht, hb⟩
set_option maxRecDepth 100000 in
set_option maxHeartbeats 1000000 in
theorem rsplit_bad (total : Int) (ht : -9223372036854775807 ≤ total) (v : Value) (s : Nat) (w : World) (C : Calls Try.prog 49 #[v] w fun e w' => WtsOut s false w e w') : Calls Try.prog 24 #[.int .i64 total, v] w fun e w' => e = .returned (.tuple #[.slice none 0 0, .int .i64 13]) ∧ Below w.heap.size w w' := by
  have HC := hide C
  clear C
  go_enter Try.func24, Try.ntmps24
  go_wp2_with (go_at_call 28; refine (is_yes _ _ ht).mono ?_; rintro e w0 ⟨rfl, hw⟩; rw [hw]; clear hw w0)
  refine (unhide HC).mono ?_
  intro e w1 h1
  obtain ⟨t, rfl, _, hb1⟩ := wts_open h1
  have HB1 := hide hb1
  clear h1 hb1
  go_wp2_with fail
  go_ret2
  exact ⟨rfl, bal (unhide HB1) _⟩
end Go.Proofs.Ytddpladmkmpoaaa
