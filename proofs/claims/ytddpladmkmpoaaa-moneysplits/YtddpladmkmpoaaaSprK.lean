/- The region that divides: its state, and how each operation turns it. -/
import Derived.Test.YtddpladmkmpoaaaSprJ
namespace Go.Proofs.Ytddpladmkmpoaaa
open Go Go.ChangeShapes Go.WideShapes Go.ChangeAt Go.RowKit
set_option linter.unusedVariables false
/-- a block of six words that may be written -/
structure May6 (w : World) (b : Nat) : Prop where
  th : w.there b 0 6
theorem may6_new (w : World) (a0 a1 a2 a3 a4 a5 : Int) : May6 (w.alloc (.cells #[.int .u64 a0, .int .u64 a1, .int .u64 a2, .int .u64 a3, .int .u64 a4, .int .u64 a5] 46)) w.heap.size := ⟨there_new w a0 a1 a2 a3 a4 a5⟩
theorem May6.below {W w1 : World} {b : Nat} (h : May6 W b) (hb : Below W.heap.size W w1) : May6 w1 b := ⟨there_below hb h.th⟩
theorem may6_alloc {w : World} {b : Nat} (o : Obj) (h : May6 w b) : May6 (w.alloc o) b := ⟨there_alloc o h.th⟩
theorem may6_put6 {w : World} {b c n : Nat} (h : May6 w b) : May6 (put6 w c n) b := ⟨there_put6 h.th⟩
theorem may6_drew (w : World) (b : Nat) : May6 w.drew b = May6 w b := propext ⟨fun h => ⟨h.th⟩, fun h => ⟨h.th⟩⟩
theorem run_st46m (w : World) (b n : Nat) (ht : May6 w b) : (st46 (.pointer (some ⟨b, 0, none⟩)) (.agg #[.int .u64 (dg n 0), .int .u64 (dg n 1), .int .u64 (dg n 2), .int .u64 (dg n 3), .int .u64 (dg n 4), .int .u64 (dg n 5)])).run Try.prog w = .ok () (put6 w b n) := run_put6 w b n ht.th
theorem May6.put {w : World} {b : Nat} (h : May6 w b) (n : Nat) : Box (put6 w b n) b n := by
  have hr := World.rangeAt_setCells_same w b 0 (six6 n) h.th
  refine ⟨by rw [size_put6]; exact there_lt h.th, fun i hi => ?_, fun i hi => ?_⟩
  · have := hr i _ (six6_get n i hi)
    rw [Nat.zero_add] at this
    exact this
  · have := (h.th i hi).2
    rw [Nat.zero_add] at this
    unfold put6
    rw [frozen_setCells]
    exact this
def agv (n : Nat) : Value := .agg #[.int .u64 (dg n 0), .int .u64 (dg n 1), .int .u64 (dg n 2), .int .u64 (dg n 3), .int .u64 (dg n 4), .int .u64 (dg n 5)]
def ptr (b : Nat) : Value := .pointer (some ⟨b, 0, none⟩)
structure F13 (wr : World) (q r M1 M2 : Nat) (c1 c6 c7 c9 c10 c11 c12 A B s t : Bool) (x13 x14 x41 x43 x48 x49 x51 x52 x53 : Value) (bA bB : Nat) (w : World) : Prop where
  e43 : c1 = true → x43 = wv M1
  e48 : c6 = true → x48 = wv M2
  e49 : c7 = true → x49 = wv (M1 * M2)
  e51 : c9 = true → x51 = .tuple #[agv q, agv r]
  e41 : c10 = true → x41 = .tuple #[agv q, agv r]
  e52 : c11 = true → x52 = agv q
  e53 : c12 = true → x53 = agv r
  pA : A = true → x13 = ptr bA ∧ wr.heap.size ≤ bA ∧ May6 w bA ∧ (s = true → Box w bA q)
  pB : B = true → x14 = ptr bB ∧ wr.heap.size ≤ bB ∧ May6 w bB ∧ (t = true → Box w bB r)
  ne : A = true → B = true → bA ≠ bB
  bel : Below wr.heap.size wr w
section
variable {wr w : World} {q r M1 M2 : Nat} {c1 c6 c7 c9 c10 c11 c12 A B s t : Bool} {x13 x14 x41 x43 x48 x49 x51 x52 x53 : Value} {bA bB : Nat}
theorem F13.start (h : Below wr.heap.size wr w) : F13 wr q r M1 M2 false false false false false false false false false false false x13 x14 x41 x43 x48 x49 x51 x52 x53 bA bB w :=
  ⟨nofun, nofun, nofun, nofun, nofun, nofun, nofun, nofun, nofun, nofun, h⟩
theorem F13.call (h : F13 wr q r M1 M2 c1 c6 c7 c9 c10 c11 c12 A B s t x13 x14 x41 x43 x48 x49 x51 x52 x53 bA bB w) {w1 : World} (hb : Below w.heap.size w w1) : F13 wr q r M1 M2 c1 c6 c7 c9 c10 c11 c12 A B s t x13 x14 x41 x43 x48 x49 x51 x52 x53 bA bB w1 :=
  ⟨h.e43, h.e48, h.e49, h.e51, h.e41, h.e52, h.e53, fun e => ⟨(h.pA e).1, (h.pA e).2.1, (h.pA e).2.2.1.below hb, fun e' => ((h.pA e).2.2.2 e').below hb⟩, fun e => ⟨(h.pB e).1, (h.pB e).2.1, (h.pB e).2.2.1.below hb, fun e' => ((h.pB e).2.2.2 e').below hb⟩, h.ne, h.bel.trans (hb.mono h.bel.size)⟩
theorem F13.allocA (h : F13 wr q r M1 M2 c1 c6 c7 c9 c10 c11 c12 false B false false x13 x14 x41 x43 x48 x49 x51 x52 x53 bA bB w) : F13 wr q r M1 M2 c1 c6 c7 c9 c10 c11 c12 true B false false (ptr w.heap.size) x14 x41 x43 x48 x49 x51 x52 x53 w.heap.size bB (w.alloc (.cells #[.int .u64 0, .int .u64 0, .int .u64 0, .int .u64 0, .int .u64 0, .int .u64 0] 46)) :=
  ⟨h.e43, h.e48, h.e49, h.e51, h.e41, h.e52, h.e53, fun _ => ⟨rfl, h.bel.size, may6_new w 0 0 0 0 0 0, fun e => by cases e⟩, fun e => ⟨(h.pB e).1, (h.pB e).2.1, may6_alloc _ (h.pB e).2.2.1, fun e' => by cases e'⟩, fun _ e => by have := there_lt (h.pB e).2.2.1.th; omega, h.bel.alloc h.bel.size _⟩
theorem F13.allocB (h : F13 wr q r M1 M2 c1 c6 c7 c9 c10 c11 c12 A false false false x13 x14 x41 x43 x48 x49 x51 x52 x53 bA bB w) : F13 wr q r M1 M2 c1 c6 c7 c9 c10 c11 c12 A true false false x13 (ptr w.heap.size) x41 x43 x48 x49 x51 x52 x53 bA w.heap.size (w.alloc (.cells #[.int .u64 0, .int .u64 0, .int .u64 0, .int .u64 0, .int .u64 0, .int .u64 0] 46)) :=
  ⟨h.e43, h.e48, h.e49, h.e51, h.e41, h.e52, h.e53, fun e => ⟨(h.pA e).1, (h.pA e).2.1, may6_alloc _ (h.pA e).2.2.1, fun e' => by cases e'⟩, fun _ => ⟨rfl, h.bel.size, may6_new w 0 0 0 0 0 0, fun e => by cases e⟩, fun e _ => by have := there_lt (h.pA e).2.2.1.th; omega, h.bel.alloc h.bel.size _⟩
theorem F13.putA (h : F13 wr q r M1 M2 c1 c6 c7 c9 c10 c11 c12 true true false false x13 x14 x41 x43 x48 x49 x51 x52 x53 bA bB w) : F13 wr q r M1 M2 c1 c6 c7 c9 c10 c11 c12 true true true false x13 x14 x41 x43 x48 x49 x51 x52 x53 bA bB (put6 w bA q) :=
  ⟨h.e43, h.e48, h.e49, h.e51, h.e41, h.e52, h.e53, fun e => ⟨(h.pA e).1, (h.pA e).2.1, may6_put6 (h.pA e).2.2.1, fun _ => (h.pA e).2.2.1.put q⟩, fun e => ⟨(h.pB e).1, (h.pB e).2.1, may6_put6 (h.pB e).2.2.1, fun e' => by cases e'⟩, h.ne, below_put6 h.bel (h.pA rfl).2.1 q⟩
theorem F13.putB (h : F13 wr q r M1 M2 c1 c6 c7 c9 c10 c11 c12 true true true false x13 x14 x41 x43 x48 x49 x51 x52 x53 bA bB w) : F13 wr q r M1 M2 c1 c6 c7 c9 c10 c11 c12 true true true true x13 x14 x41 x43 x48 x49 x51 x52 x53 bA bB (put6 w bB r) :=
  ⟨h.e43, h.e48, h.e49, h.e51, h.e41, h.e52, h.e53, fun e => ⟨(h.pA e).1, (h.pA e).2.1, may6_put6 (h.pA e).2.2.1, fun _ => ((h.pA e).2.2.2 rfl).other (h.ne rfl rfl) r⟩, fun e => ⟨(h.pB e).1, (h.pB e).2.1, may6_put6 (h.pB e).2.2.1, fun _ => (h.pB e).2.2.1.put r⟩, h.ne, below_put6 h.bel (h.pB rfl).2.1 r⟩
end
def fr13 (A0 : Act) (x13 x14 x41 x43 x48 x49 x51 x52 x53 : Value) : Act := ((((((((A0.put (some 13) x13).put (some 14) x14).put (some 41) x41).put (some 43) x43).put (some 48) x48).put (some 49) x49).put (some 51) x51).put (some 52) x52).put (some 53) x53
def J13 (A0 : Act) (wr : World) (q r M1 M2 : Nat) (c1 c6 c7 c9 c10 c11 c12 A B s t : Bool) (a : Act) (w : World) : Prop :=
  ∃ x13 x14 x41 x43 x48 x49 x51 x52 x53 bA bB, a = fr13 A0 x13 x14 x41 x43 x48 x49 x51 x52 x53 ∧ F13 wr q r M1 M2 c1 c6 c7 c9 c10 c11 c12 A B s t x13 x14 x41 x43 x48 x49 x51 x52 x53 bA bB w
end Go.Proofs.Ytddpladmkmpoaaa
