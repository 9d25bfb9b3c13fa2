import Derived.Test.YtddpladmkmpoaaaBox1
import Derived.Test.YtddpladmkmpoaaaOverN
namespace Go.Proofs.Ytddpladmkmpoaaa
open Go.ChangeShapes Go.WideShapes Go.ChangeAt Go.RowKit
set_option linter.unusedVariables false

/-- the six blocks of the long division -/
structure Six (M D Q R A B : Nat) (w W : World) : Prop where
  x : Box W w.heap.size M
  y : Box W (w.heap.size + 1) D
  a : Box W (w.heap.size + 1 + 1) A
  b : Box W (w.heap.size + 1 + 1 + 1) B
  q : Box W (w.heap.size + 1 + 1 + 1 + 1) Q
  r : Box W (w.heap.size + 1 + 1 + 1 + 1 + 1) R
  bel : Below w.heap.size w W

theorem Six.below {M D Q R A B : Nat} {w W W1 : World} (h : Six M D Q R A B w W) (hb : Below W.heap.size W W1) : Six M D Q R A B w W1 :=
  ⟨h.x.below hb, h.y.below hb, h.a.below hb, h.b.below hb, h.q.below hb, h.r.below hb, h.bel.trans (hb.mono h.bel.size)⟩
theorem Six.drew {M D Q R A B : Nat} {w W : World} (h : Six M D Q R A B w W) : Six M D Q R A B w W.drew := ⟨h.x.drew, h.y.drew, h.a.drew, h.b.drew, h.q.drew, h.r.drew, h.bel.drew⟩
theorem Six.putR {M D Q R A B : Nat} {w W : World} (h : Six M D Q R A B w W) (n : Nat) : Six M D Q n A B w (put6 W (w.heap.size + 1 + 1 + 1 + 1 + 1) n) :=
  ⟨h.x.other (by omega) n, h.y.other (by omega) n, h.a.other (by omega) n, h.b.other (by omega) n, h.q.other (by omega) n, h.r.put n, below_put6 h.bel (by omega) n⟩
theorem Six.putA {M D Q R A B : Nat} {w W : World} (h : Six M D Q R A B w W) (n : Nat) : Six M D Q R n B w (put6 W (w.heap.size + 1 + 1) n) :=
  ⟨h.x.other (by omega) n, h.y.other (by omega) n, h.a.put n, h.b.other (by omega) n, h.q.other (by omega) n, h.r.other (by omega) n, below_put6 h.bel (by omega) n⟩
theorem Six.putB {M D Q R A B : Nat} {w W : World} (h : Six M D Q R A B w W) (n : Nat) : Six M D Q R A n w (put6 W (w.heap.size + 1 + 1 + 1) n) :=
  ⟨h.x.other (by omega) n, h.y.other (by omega) n, h.a.other (by omega) n, h.b.put n, h.q.other (by omega) n, h.r.other (by omega) n, below_put6 h.bel (by omega) n⟩
theorem Six.bitR {M D Q R A B : Nat} {w W : World} (h : Six M D Q (R + R) A B w W) (c : Nat) (hc : c ≤ 1) (v : Int) (hv : v = dg (R + R) 0 + c) : Six M D Q (2 * R + c) A B w (put1 W (w.heap.size + 1 + 1 + 1 + 1 + 1) 0 v) := by
  have e : R + R = 2 * R := by omega
  rw [e] at h hv
  have hm : 2 * R % 2 = 0 := by omega
  exact ⟨h.x.other1 (by omega) 0 v, h.y.other1 (by omega) 0 v, h.a.other1 (by omega) 0 v, h.b.other1 (by omega) 0 v, h.q.other1 (by omega) 0 v, h.r.put1 _ 0 v (by omega) (by rw [dg_bit0 _ _ hm hc, hv]) (fun i hi hne => dg_bitS _ _ i hm hc (by omega)), below_put1 h.bel (by omega) 0 v⟩
theorem Six.bitQ {M D Q R A B : Nat} {w W : World} (h : Six M D Q R A B w W) (j t : Nat) (hj : j < 6) (ht : t < 32) (hQ : Q % 2 ^ (32 * j + t + 1) = 0) (v : Int) (hv : v = dg Q j + ((2 ^ t : Nat) : Int)) : Six M D (Q + 2 ^ (32 * j + t)) R A B w (put1 W (w.heap.size + 1 + 1 + 1 + 1) j v) := by
  refine ⟨h.x.other1 (by omega) j v, h.y.other1 (by omega) j v, h.a.other1 (by omega) j v, h.b.other1 (by omega) j v, h.q.put1 _ j v hj (by rw [dg_setJ _ j t ht hQ, hv]) (fun i hi hne => ?_), h.r.other1 (by omega) j v, below_put1 h.bel (by omega) j v⟩
  rcases Nat.lt_or_gt_of_ne hne with hlt | hgt
  · exact dg_setL _ j t i ht hlt
  · exact dg_setH _ j t i ht hgt hQ
theorem setCells_drew (b : Nat) : ∀ (vs : List Value) (o : Nat) (w : World), w.drew.setCells b o vs = (w.setCells b o vs).drew
  | [], _, _ => rfl
  | v :: r, o, w => by
    rw [World.setCells, World.setCells]
    exact setCells_drew b r (o + 1) (w.setCell ⟨b, o, none⟩ v)
theorem put6_drew (w : World) (b n : Nat) : put6 w.drew b n = (put6 w b n).drew := setCells_drew b _ 0 w
theorem put1_drew (w : World) (b j : Nat) (v : Int) : put1 w.drew b j v = (put1 w b j v).drew := rfl
theorem bit_val (M j t i c : Nat) (a P : Int) (ht : t < 32) (hi : i = 32 * j + t) (hc : M / 2 ^ i % 2 = c) (hP : ((2 ^ t : Nat) : Int) = P) (ha : 0 ≤ a ∧ a < 4294967296) : IntKind.u64.wrap (a + (dg M j / P).tmod 2) = a + c := by
  have h := bit_at M j t ht
  rw [← hi, hc] at h
  have e : dg M j / P = ((M / 4294967296 ^ j % 4294967296 / 2 ^ t : Nat) : Int) := by
    rw [← hP]; unfold dg; exact (Int.natCast_ediv _ _).symm
  rw [e]
  generalize M / 4294967296 ^ j % 4294967296 / 2 ^ t = q at *
  have e2 : ((q : Nat) : Int).tmod 2 = (c : Int) := by
    rw [Int.tmod_eq_emod_of_nonneg (by omega)]; omega
  rw [e2, uw_id _ (by omega) (by omega)]
theorem pow_bd (t : Nat) (ht : t < 32) : 1 ≤ ((2 ^ t : Nat) : Int) ∧ ((2 ^ t : Nat) : Int) < 4294967296 := by
  have h1 : 0 < 2 ^ t := Nat.pow_pos (by decide)
  have h2 : 2 ^ t < 2 ^ 32 := Nat.pow_lt_pow_right (by decide) ht
  omega
theorem wrap_pow (t : Nat) (ht : t < 32) : IntKind.u64.wrap (2 ^ t) = ((2 ^ t : Nat) : Int) := by
  have h := pow_bd t ht
  have e : ((2 : Int) ^ t) = ((2 ^ t : Nat) : Int) := by rw [Int.natCast_pow]; rfl
  rw [e, uw_id _ (by omega) (by omega)]
theorem Six.start (M D : Nat) (w : World) : Six M D 0 0 0 0 w ((((((w.alloc (.cells #[.int .u64 (dg M 0), .int .u64 (dg M 1), .int .u64 (dg M 2), .int .u64 (dg M 3), .int .u64 (dg M 4), .int .u64 (dg M 5)] 46)).alloc (.cells #[.int .u64 (dg D 0), .int .u64 (dg D 1), .int .u64 (dg D 2), .int .u64 (dg D 3), .int .u64 (dg D 4), .int .u64 (dg D 5)] 46)).alloc (.cells #[.int .u64 0, .int .u64 0, .int .u64 0, .int .u64 0, .int .u64 0, .int .u64 0] 46)).alloc (.cells #[.int .u64 0, .int .u64 0, .int .u64 0, .int .u64 0, .int .u64 0, .int .u64 0] 46)).alloc (.cells #[.int .u64 0, .int .u64 0, .int .u64 0, .int .u64 0, .int .u64 0, .int .u64 0] 46)).alloc (.cells #[.int .u64 0, .int .u64 0, .int .u64 0, .int .u64 0, .int .u64 0, .int .u64 0] 46)) := by
  refine ⟨?_, ?_, ?_, ?_, ?_, ?_, ?_⟩
  · exact (((((Box.new w M).alloc _).alloc _).alloc _).alloc _).alloc _
  · have h := Box.new (w.alloc (.cells #[.int .u64 (dg M 0), .int .u64 (dg M 1), .int .u64 (dg M 2), .int .u64 (dg M 3), .int .u64 (dg M 4), .int .u64 (dg M 5)] 46)) D
    rw [World.size_alloc] at h
    exact (((h.alloc _).alloc _).alloc _).alloc _
  · have h := Box.zero ((w.alloc (.cells #[.int .u64 (dg M 0), .int .u64 (dg M 1), .int .u64 (dg M 2), .int .u64 (dg M 3), .int .u64 (dg M 4), .int .u64 (dg M 5)] 46)).alloc (.cells #[.int .u64 (dg D 0), .int .u64 (dg D 1), .int .u64 (dg D 2), .int .u64 (dg D 3), .int .u64 (dg D 4), .int .u64 (dg D 5)] 46))
    rw [World.size_alloc, World.size_alloc] at h
    exact ((h.alloc _).alloc _).alloc _
  · have h := Box.zero (((w.alloc (.cells #[.int .u64 (dg M 0), .int .u64 (dg M 1), .int .u64 (dg M 2), .int .u64 (dg M 3), .int .u64 (dg M 4), .int .u64 (dg M 5)] 46)).alloc (.cells #[.int .u64 (dg D 0), .int .u64 (dg D 1), .int .u64 (dg D 2), .int .u64 (dg D 3), .int .u64 (dg D 4), .int .u64 (dg D 5)] 46)).alloc (.cells #[.int .u64 0, .int .u64 0, .int .u64 0, .int .u64 0, .int .u64 0, .int .u64 0] 46))
    rw [World.size_alloc, World.size_alloc, World.size_alloc] at h
    exact (h.alloc _).alloc _
  · have h := Box.zero ((((w.alloc (.cells #[.int .u64 (dg M 0), .int .u64 (dg M 1), .int .u64 (dg M 2), .int .u64 (dg M 3), .int .u64 (dg M 4), .int .u64 (dg M 5)] 46)).alloc (.cells #[.int .u64 (dg D 0), .int .u64 (dg D 1), .int .u64 (dg D 2), .int .u64 (dg D 3), .int .u64 (dg D 4), .int .u64 (dg D 5)] 46)).alloc (.cells #[.int .u64 0, .int .u64 0, .int .u64 0, .int .u64 0, .int .u64 0, .int .u64 0] 46)).alloc (.cells #[.int .u64 0, .int .u64 0, .int .u64 0, .int .u64 0, .int .u64 0, .int .u64 0] 46))
    rw [World.size_alloc, World.size_alloc, World.size_alloc, World.size_alloc] at h
    exact h.alloc _
  · have h := Box.zero (((((w.alloc (.cells #[.int .u64 (dg M 0), .int .u64 (dg M 1), .int .u64 (dg M 2), .int .u64 (dg M 3), .int .u64 (dg M 4), .int .u64 (dg M 5)] 46)).alloc (.cells #[.int .u64 (dg D 0), .int .u64 (dg D 1), .int .u64 (dg D 2), .int .u64 (dg D 3), .int .u64 (dg D 4), .int .u64 (dg D 5)] 46)).alloc (.cells #[.int .u64 0, .int .u64 0, .int .u64 0, .int .u64 0, .int .u64 0, .int .u64 0] 46)).alloc (.cells #[.int .u64 0, .int .u64 0, .int .u64 0, .int .u64 0, .int .u64 0, .int .u64 0] 46)).alloc (.cells #[.int .u64 0, .int .u64 0, .int .u64 0, .int .u64 0, .int .u64 0, .int .u64 0] 46))
    rw [World.size_alloc, World.size_alloc, World.size_alloc, World.size_alloc, World.size_alloc] at h
    exact h
  · exact bal (bal (bal (bal (bal (bal (Below.refl _ _) _) _) _) _) _) _
end Go.Proofs.Ytddpladmkmpoaaa
