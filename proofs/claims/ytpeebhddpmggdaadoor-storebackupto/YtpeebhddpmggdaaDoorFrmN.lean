/- Rows of bytes, and a frame's bytes. -/
import Derived.Test.YtpeebhddpmggdaaDoorCrcA
import Derived.Laws.AppendOwn
import Derived.Laws.AppendOwnNone
import Derived.Laws.OwnMore
import Derived.Deep.AppendLies
import Derived.Deep.MidRow
import Derived.Laws.MakeOwn
namespace Go.Proofs.YtpeebhddpmggdaaDoor
open Go Go.ChangeShapes Go.WideShapes Go.ChangeAt Go.RowKit
set_option linter.unusedVariables false
theorem info5 : (Tryd.prog.info? 5).map (fun i => (i.zero, i.size, i.bytes)) = some (some (.int .u8 0), 1, 1) := by kernel_rfl
/-- bytes as cells -/
def bcells (f : Nat → Nat) (n : Nat) : List Value := (List.range n).map fun i => .int .u8 (f i : Int)
theorem bcells_len (f : Nat → Nat) (n : Nat) : (bcells f n).length = n := by simp [bcells]
theorem bcells_succ (f : Nat → Nat) (n : Nat) : bcells f (n + 1) = bcells f n ++ [.int .u8 (f n : Int)] := by simp [bcells, List.range_succ]
theorem bcells_get (f : Nat → Nat) (n j : Nat) (h : j < n) : (bcells f n)[j]? = some (.int .u8 (f j : Int)) := by simp [bcells, h]
theorem bcells_get' {f : Nat → Nat} {n j : Nat} {u : Value} (h : (bcells f n)[j]? = some u) : j < n ∧ u = .int .u8 (f j : Int) := by
  by_cases hj : j < n
  · rw [bcells_get f n j hj] at h
    exact ⟨hj, (Option.some.inj h).symm⟩
  · rw [List.getElem?_eq_none (by rw [bcells_len]; omega)] at h
    cases h
theorem bcells_one (f : Nat → Nat) (n : Nat) : ∀ u ∈ bcells f n, u.oneCell' = true := by
  intro u hu
  simp only [bcells, List.mem_map] at hu
  obtain ⟨i, _, rfl⟩ := hu
  rfl
theorem bcells_ext {f g : Nat → Nat} (n : Nat) (h : ∀ i, i < n → f i = g i) : bcells f n = bcells g n := by
  induction n with
  | zero => rfl
  | succ n ih => rw [bcells_succ, bcells_succ, ih (fun i hi => h i (by omega)), h n (by omega)]
/-- one behind the other -/
def cat (f : Nat → Nat) (n : Nat) (g : Nat → Nat) : Nat → Nat := fun i => if i < n then f i else g (i - n)
theorem cat_lt {f g : Nat → Nat} {n i : Nat} (h : i < n) : cat f n g i = f i := by simp [cat, h]
theorem cat_ge {f g : Nat → Nat} {n : Nat} (i : Nat) : cat f n g (n + i) = g i := by
  have : ¬ n + i < n := by omega
  simp only [cat, if_neg this, Nat.add_sub_cancel_left]
theorem bcells_cat (f g : Nat → Nat) (n : Nat) : ∀ m, bcells f n ++ bcells g m = bcells (cat f n g) (n + m)
  | 0 => by
    rw [Nat.add_zero, show bcells g 0 = [] from rfl, List.append_nil]
    exact bcells_ext n (fun i hi => (cat_lt hi).symm)
  | m + 1 => by rw [bcells_succ, ← List.append_assoc, bcells_cat f g n m, ← Nat.add_assoc, bcells_succ, cat_ge]
/-- a slice that shows so many bytes -/
def BLies (f : Nat → Nat) (v : Value) (n : Nat) (W : World) : Prop :=
  (n = 0 ∧ v = .slice none 0 0) ∨ ∃ b off cap, v = .slice (some ⟨b, off, none⟩) n cap ∧ (0 < n → b < W.heap.size) ∧ ∀ k, k < n → W.cell? ⟨b, off + k, none⟩ = some (.int .u8 (f k : Int))
theorem BLies.below {f : Nat → Nat} {v : Value} {n : Nat} {w w' : World} (h : BLies f v n w) (hb : Below w.heap.size w w') : BLies f v n w' := by
  rcases h with h | ⟨b, off, cap, h1, h2, h3⟩
  · exact .inl h
  · exact .inr ⟨b, off, cap, h1, fun h0 => Nat.lt_of_lt_of_le (h2 h0) hb.size, fun k hk => keep1 hb (h2 (by omega)) (h3 k hk)⟩
theorem BLies.of_own {B n : Nat} {f : Nat → Nat} {v : Value} {w : World} (h : w.ownsRow B 5 1 v n (bcells f n)) : BLies f v n w := by
  rcases h.2 with ⟨h1, h2⟩ | ⟨g, cap, cur, rfl, hb, _⟩
  · exact .inl ⟨h2, h1⟩
  · refine .inr ⟨g, 0, cap, rfl, fun _ => (h.lt g rfl).2, fun k hk => ?_⟩
    rw [Nat.zero_add, h.cellAt k (by omega)]
    exact bcells_get f n k hk
theorem grown_of_below {w w' : World} (h : Below w.heap.size w w') : w.grownBy w' none := ⟨h.os, h.tape, h.output, h.size, fun k hk _ => h.block k hk⟩
theorem below_of_grown {w w' : World} (h : w.grownBy w' none) : Below w.heap.size w w' := ⟨h.os, h.tape, h.output, h.size, fun k hk => h.block k hk (by simp)⟩
theorem own_below {w w' : World} {base size n : Nat} {e : TypeId} {v : Value} {xs : List Value} (h : w.ownsRow base e size v n xs) (hb : Below w.heap.size w w') : w'.ownsRow base e size v n xs :=
  h.kept (grown_of_below hb) (by cases hv : v.ownBlock <;> simp)
/-- a number's bytes, the lowest first -/
def lowB (v i : Nat) : Nat := v / 256 ^ i % 256
theorem crc_lt (f : Nat → Nat) (hf : ∀ k, f k < 256) (n : Nat) : crc f n < 4294967296 := xor_lt32 (crcAt_lt f hf n) (by decide)
/-- a frame's bytes -/
def frB (f : Nat → Nat) (n : Nat) : Nat → Nat := cat (cat (cat (lowB n) 2 (lowB (65535 - n))) 4 (lowB (crc f n))) 8 f
/-- what Frame hands back -/
def FOut (f : Nat → Nat) (n : Nat) (W : World) (e : Ending) (w' : World) : Prop :=
  (2048 < n → e = .returned (.tuple #[.slice none 0 0, .int .i64 3])) ∧ (n ≤ 2048 → ∃ v, e = .returned (.tuple #[v, .int .i64 0]) ∧ w'.ownsRow W.heap.size 5 1 v (8 + n) (bcells (frB f n) (8 + n))) ∧ Below W.heap.size W w'
end Go.Proofs.YtpeebhddpmggdaaDoor
