import Derived.Test.YtcafhmlpmbkhkaaGreatDoorW20
import Derived.Test.YtcafhmlpmbkhkaaGreatDoorW22
import Derived.BigRegion
namespace Go.Proofs.YtcafhmlpmbkhkaaGreatDoor.Mw
set_option linter.unusedVariables false
theorem B_is : (4294967296 : Nat) = 2 ^ 32 := by decide
theorem Bpow (j : Nat) : (4294967296 : Nat) ^ j = 2 ^ (32 * j) := by rw [B_is, ← Nat.pow_mul]
theorem dg_bit0 (n b : Nat) (h : n % 2 = 0) (hb : b ≤ 1) : dg (n + b) 0 = dg n 0 + b := by
  unfold dg
  simp only [Nat.pow_zero, Nat.div_one]
  omega
theorem dg_bitS (n b i : Nat) (h : n % 2 = 0) (hb : b ≤ 1) (hi : 1 ≤ i) : dg (n + b) i = dg n i := by
  obtain ⟨k, rfl⟩ : ∃ k, i = k + 1 := ⟨i - 1, by omega⟩
  unfold dg
  have e : ∀ m : Nat, m / 4294967296 ^ (k + 1) = m / 4294967296 / 4294967296 ^ k := fun m => by
    rw [Nat.pow_succ, Nat.mul_comm, Nat.div_div_eq_div_mul]
  rw [e, e, show (n + b) / 4294967296 = n / 4294967296 by omega]
theorem bit_at (M j t : Nat) (ht : t < 32) : M / 4294967296 ^ j % 4294967296 / 2 ^ t % 2 = M / 2 ^ (32 * j + t) % 2 := by
  have e : (4294967296 : Nat) = 2 ^ t * 2 ^ (32 - t) := by rw [← Nat.pow_add, show t + (32 - t) = 32 by omega]
  have e2 : M / 2 ^ (32 * j + t) = M / 4294967296 ^ j / 2 ^ t := by rw [Nat.pow_add, ← Bpow, Nat.div_div_eq_div_mul]
  rw [e2]
  generalize M / 4294967296 ^ j = a
  conv => lhs; rw [e, Nat.mod_mul_right_div_self]
  obtain ⟨c, hc⟩ : ∃ c, 2 ^ (32 - t) = 2 * c := ⟨2 ^ (31 - t), by rw [← Nat.pow_succ', show (31 - t).succ = 32 - t by omega]⟩
  rw [hc, Nat.mod_mul_right_mod]
theorem add_bit (a t : Nat) (ht : t < 32) (h : a % 2 ^ (t + 1) = 0) : (a + 2 ^ t) % 4294967296 = a % 4294967296 + 2 ^ t := by
  have e : (4294967296 : Nat) = 2 ^ (t + 1) * 2 ^ (31 - t) := by rw [← Nat.pow_add, show t + 1 + (31 - t) = 32 by omega]
  obtain ⟨c, hc⟩ : ∃ c, a = 2 ^ (t + 1) * c := ⟨a / 2 ^ (t + 1), by have := Nat.div_add_mod a (2 ^ (t + 1)); omega⟩
  have hp : 2 ^ (t + 1) = 2 * 2 ^ t := by rw [Nat.pow_succ, Nat.mul_comm]
  have hpos : 0 < 2 ^ t := Nat.pow_pos (by decide)
  have hm : a % 4294967296 = 2 ^ (t + 1) * (c % 2 ^ (31 - t)) := by rw [hc, e, Nat.mul_mod_mul_left]
  have hlt : c % 2 ^ (31 - t) + 1 ≤ 2 ^ (31 - t) := Nat.mod_lt _ (Nat.pow_pos (by decide))
  have hle : 2 ^ (t + 1) * (c % 2 ^ (31 - t) + 1) ≤ 4294967296 := by
    rw [e]; exact Nat.mul_le_mul_left _ hlt
  rw [Nat.mul_add, Nat.mul_one] at hle
  rw [Nat.add_mod, hm]
  have h2 : 2 ^ t < 4294967296 := by omega
  rw [Nat.mod_eq_of_lt h2, Nat.mod_eq_of_lt (by omega)]
theorem dg_setJ (Q j t : Nat) (ht : t < 32) (h : Q % 2 ^ (32 * j + t + 1) = 0) : dg (Q + 2 ^ (32 * j + t)) j = dg Q j + ((2 ^ t : Nat) : Int) := by
  unfold dg
  have e : (2 : Nat) ^ (32 * j + t) = 4294967296 ^ j * 2 ^ t := by rw [Nat.pow_add, ← Bpow]
  have hpos : 0 < (4294967296 : Nat) ^ j := Nat.pow_pos (by decide)
  rw [e, Nat.add_mul_div_left _ _ hpos]
  have ha : Q / 4294967296 ^ j % 2 ^ (t + 1) = 0 := by
    have e3 : (2 : Nat) ^ (32 * j + t + 1) = 4294967296 ^ j * 2 ^ (t + 1) := by rw [Nat.add_assoc, Nat.pow_add, ← Bpow]
    rw [e3] at h
    rw [← Nat.mod_mul_right_div_self, h, Nat.zero_div]
  rw [add_bit _ t ht ha]
  omega
theorem dg_setL (Q j t l : Nat) (ht : t < 32) (hl : l < j) : dg (Q + 2 ^ (32 * j + t)) l = dg Q l := by
  unfold dg
  have hpos : 0 < (4294967296 : Nat) ^ l := Nat.pow_pos (by decide)
  have e : (2 : Nat) ^ (32 * j + t) = 4294967296 ^ l * (4294967296 * 2 ^ (32 * (j - l - 1) + t)) := by
    rw [Bpow, B_is, ← Nat.pow_add, ← Nat.pow_add]
    congr 1
    omega
  rw [e, Nat.add_mul_div_left _ _ hpos, Nat.add_mul_mod_self_left]
theorem dg_setH (Q j t l : Nat) (ht : t < 32) (hl : j < l) (h : Q % 2 ^ (32 * j + t + 1) = 0) : dg (Q + 2 ^ (32 * j + t)) l = dg Q l := by
  unfold dg
  have e : (4294967296 : Nat) ^ l = 2 ^ (32 * j + t + 1) * 2 ^ (32 * l - (32 * j + t + 1)) := by
    rw [Bpow, ← Nat.pow_add]
    congr 1
    omega
  rw [e, ← Nat.div_div_eq_div_mul, ← Nat.div_div_eq_div_mul]
  have hp : (2 : Nat) ^ (32 * j + t + 1) = 2 * 2 ^ (32 * j + t) := by rw [Nat.pow_succ, Nat.mul_comm]
  have hpos : 0 < (2 : Nat) ^ (32 * j + t) := Nat.pow_pos (by decide)
  have hq : (Q + 2 ^ (32 * j + t)) / 2 ^ (32 * j + t + 1) = Q / 2 ^ (32 * j + t + 1) := by
    obtain ⟨c, hc⟩ : ∃ c, Q = 2 ^ (32 * j + t + 1) * c := ⟨Q / 2 ^ (32 * j + t + 1), by have := Nat.div_add_mod Q (2 ^ (32 * j + t + 1)); omega⟩
    rw [hc, Nat.mul_add_div (by omega), Nat.mul_div_cancel_left _ (by omega), Nat.div_eq_of_lt (by omega)]
    rfl
  rw [hq]
def ovR (M D k : Nat) : Nat := M / 2 ^ k % D
def ovQ (M D k : Nat) : Nat := M / 2 ^ k / D * 2 ^ k
theorem half_step (M i : Nat) : M / 2 ^ i = 2 * (M / 2 ^ (i + 1)) + M / 2 ^ i % 2 := by
  rw [Nat.pow_succ, ← Nat.div_div_eq_div_mul]
  omega
theorem ov_less (M D i : Nat) (hD : 0 < D) (h : 2 * ovR M D (i + 1) + M / 2 ^ i % 2 < D) : ovR M D i = 2 * ovR M D (i + 1) + M / 2 ^ i % 2 ∧ ovQ M D i = ovQ M D (i + 1) := by
  unfold ovR ovQ at *
  have hs := half_step M i
  generalize M / 2 ^ i % 2 = b at *
  generalize M / 2 ^ (i + 1) = A at *
  rw [hs]
  have hd := Nat.div_add_mod A D
  generalize A % D = r at *
  generalize A / D = q at *
  have e : 2 * A + b = D * (2 * q) + (2 * r + b) := by
    rw [← hd]
    have : D * (2 * q) = 2 * (D * q) := by rw [Nat.mul_left_comm]
    omega
  rw [e]
  refine ⟨by rw [Nat.mul_add_mod, Nat.mod_eq_of_lt h], ?_⟩
  rw [Nat.mul_add_div hD, Nat.div_eq_of_lt h, Nat.add_zero, Nat.pow_succ]
  rw [Nat.mul_comm 2 q, Nat.mul_assoc, Nat.mul_comm 2]
theorem ov_more (M D i : Nat) (hD : 0 < D) (h : D ≤ 2 * ovR M D (i + 1) + M / 2 ^ i % 2) : ovR M D i = 2 * ovR M D (i + 1) + M / 2 ^ i % 2 - D ∧ ovQ M D i = ovQ M D (i + 1) + 2 ^ i := by
  unfold ovR ovQ at *
  have hs := half_step M i
  have hb : M / 2 ^ i % 2 < 2 := Nat.mod_lt _ (by decide)
  generalize M / 2 ^ i % 2 = b at *
  have hr : M / 2 ^ (i + 1) % D < D := Nat.mod_lt _ hD
  generalize M / 2 ^ (i + 1) = A at *
  rw [hs]
  have hd := Nat.div_add_mod A D
  generalize A % D = r at *
  generalize A / D = q at *
  have e : 2 * A + b = D * (2 * q + 1) + (2 * r + b - D) := by
    rw [← hd]
    have : D * (2 * q + 1) = 2 * (D * q) + D := by rw [Nat.mul_add, Nat.mul_left_comm, Nat.mul_one]
    omega
  rw [e]
  refine ⟨by rw [Nat.mul_add_mod, Nat.mod_eq_of_lt (by omega)], ?_⟩
  rw [Nat.mul_add_div hD, Nat.div_eq_of_lt (by omega), Nat.add_zero, Nat.pow_succ, Nat.add_mul, Nat.one_mul]
  rw [Nat.mul_comm 2 q, Nat.mul_assoc, Nat.mul_comm 2]
theorem ovR_lt (M D k : Nat) (hD : 0 < D) : ovR M D k < D := Nat.mod_lt _ hD
theorem ovQ_mod (M D k : Nat) : ovQ M D k % 2 ^ k = 0 := Nat.mul_mod_left _ _
theorem ov_start (M D : Nat) (h : M < 4294967296 ^ 6) : ovR M D 192 = 0 ∧ ovQ M D 192 = 0 := by
  have e : (4294967296 : Nat) ^ 6 = 2 ^ 192 := Bpow 6
  rw [e] at h
  unfold ovR ovQ
  rw [Nat.div_eq_of_lt h]
  simp
theorem ov_end (M D : Nat) : ovR M D 0 = M % D ∧ ovQ M D 0 = M / D := by
  unfold ovR ovQ
  simp
end Go.Proofs.YtcafhmlpmbkhkaaGreatDoor.Mw
namespace Go.Proofs.YtcafhmlpmbkhkaaGreatDoor.Mw
open Go.ChangeShapes Go.WideShapes Go.ChangeAt Go.RowKit
set_option linter.unusedVariables false
def put1 (w : World) (b j : Nat) (v : Int) : World := w.setCell ⟨b, j, none⟩ (.int .u64 v)
def may1 (w : World) (b j : Nat) : Prop := (∃ u, w.cell? ⟨b, j, none⟩ = some u) ∧ w.frozen? ⟨b, j, none⟩ = false
def st40 (x y : Value) : Sem Unit := Instr.storeAt 199 x y
theorem st40_is (x y : Value) : Instr.storeAt 199 x y = st40 x y := rfl
theorem run_st40 (w : World) (b j : Nat) (v : Int) (h : may1 w b j) : (st40 (.pointer (some ⟨b, j, none⟩)) (.int .u64 v)).run Tryz.prog w = .ok () (put1 w b j v) := by
  obtain ⟨⟨u, hu⟩, hf⟩ := h
  unfold st40 put1
  simp [go_sem, hu, hf]
theorem Box.may {w : World} {b n j : Nat} (h : Box w b n) (hj : j < 6) : may1 w b j := ⟨⟨_, h.at' j hj⟩, h.fz j hj⟩
theorem Box.put1 {w : World} {b n : Nat} (h : Box w b n) (m j : Nat) (v : Int) (hj : j < 6) (hv : dg m j = v) (ho : ∀ i, i < 6 → i ≠ j → dg m i = dg n i) : Box (put1 w b j v) b m := by
  unfold YtcafhmlpmbkhkaaGreatDoor.Mw.put1
  refine ⟨by simpa using h.lt, fun i hi => ?_, fun i hi => by simpa using h.fz i hi⟩
  by_cases e : i = j
  · subst e
    rw [World.cell?_setCell_same _ _ _ (h.at' i hi), hv]
  · rw [World.cell?_setCell_other _ _ _ _ (by intro h'; injection h' with _ h' _; omega), h.at' i hi, ho i hi e]
theorem Box.other1 {w : World} {b n : Nat} (h : Box w b n) {c : Nat} (hc : b ≠ c) (j : Nat) (v : Int) : Box (YtcafhmlpmbkhkaaGreatDoor.Mw.put1 w c j v) b n := by
  unfold YtcafhmlpmbkhkaaGreatDoor.Mw.put1
  refine ⟨by simpa using h.lt, fun i hi => ?_, fun i hi => by simpa using h.fz i hi⟩
  rw [World.cell?_setCell_other _ _ _ _ (by intro h'; injection h' with h' _ _; exact hc h'.symm), h.at' i hi]
theorem below_put1 {B b : Nat} {a w : World} (h : Below B a w) (hb : B ≤ b) (j : Nat) (v : Int) : Below B a (put1 w b j v) := h.setCell hb _
theorem Box.drew {w : World} {b n : Nat} (h : Box w b n) : Box w.drew b n := h.drewN 1
end Go.Proofs.YtcafhmlpmbkhkaaGreatDoor.Mw
namespace Go.Proofs.YtcafhmlpmbkhkaaGreatDoor.Mw
open Go.ChangeShapes Go.WideShapes Go.ChangeAt Go.RowKit
set_option linter.unusedVariables false
structure Six (M D Q R A B : Nat) (w W : World) : Prop where
  x : Box W w.heap.size M
  y : Box W (w.heap.size + 1) D
  a : Box W (w.heap.size + 1 + 1) A
  b : Box W (w.heap.size + 1 + 1 + 1) B
  q : Box W (w.heap.size + 1 + 1 + 1 + 1) Q
  r : Box W (w.heap.size + 1 + 1 + 1 + 1 + 1) R
  bel : Below w.heap.size w W
theorem Six.below {M D Q R A B : Nat} {w W W1 : World} (h : Six M D Q R A B w W) (hb : Below W.heap.size W W1) : Six M D Q R A B w W1 :=
  ⟨h.x.below hb, h.y.below hb, h.a.below hb, h.b.below hb, h.q.below hb, h.r.below hb, h.bel.trans (hb.mono h.bel.size)⟩
theorem Six.drew {M D Q R A B : Nat} {w W : World} (h : Six M D Q R A B w W) : Six M D Q R A B w W.drew := ⟨h.x.drew, h.y.drew, h.a.drew, h.b.drew, h.q.drew, h.r.drew, h.bel.drew⟩
theorem Six.putR {M D Q R A B : Nat} {w W : World} (h : Six M D Q R A B w W) (n : Nat) : Six M D Q n A B w (put6 W (w.heap.size + 1 + 1 + 1 + 1 + 1) n) :=
  ⟨h.x.other (by omega) n, h.y.other (by omega) n, h.a.other (by omega) n, h.b.other (by omega) n, h.q.other (by omega) n, h.r.put n, below_put6 h.bel (by omega) n⟩
theorem Six.putA {M D Q R A B : Nat} {w W : World} (h : Six M D Q R A B w W) (n : Nat) : Six M D Q R n B w (put6 W (w.heap.size + 1 + 1) n) :=
  ⟨h.x.other (by omega) n, h.y.other (by omega) n, h.a.put n, h.b.other (by omega) n, h.q.other (by omega) n, h.r.other (by omega) n, below_put6 h.bel (by omega) n⟩
theorem Six.putB {M D Q R A B : Nat} {w W : World} (h : Six M D Q R A B w W) (n : Nat) : Six M D Q R A n w (put6 W (w.heap.size + 1 + 1 + 1) n) :=
  ⟨h.x.other (by omega) n, h.y.other (by omega) n, h.a.other (by omega) n, h.b.put n, h.q.other (by omega) n, h.r.other (by omega) n, below_put6 h.bel (by omega) n⟩
theorem Six.bitR {M D Q R A B : Nat} {w W : World} (h : Six M D Q (R + R) A B w W) (c : Nat) (hc : c ≤ 1) (v : Int) (hv : v = dg (R + R) 0 + c) : Six M D Q (2 * R + c) A B w (put1 W (w.heap.size + 1 + 1 + 1 + 1 + 1) 0 v) := by
  have e : R + R = 2 * R := by omega
  rw [e] at h hv
  have hm : 2 * R % 2 = 0 := by omega
  exact ⟨h.x.other1 (by omega) 0 v, h.y.other1 (by omega) 0 v, h.a.other1 (by omega) 0 v, h.b.other1 (by omega) 0 v, h.q.other1 (by omega) 0 v, h.r.put1 _ 0 v (by omega) (by rw [dg_bit0 _ _ hm hc, hv]) (fun i hi hne => dg_bitS _ _ i hm hc (by omega)), below_put1 h.bel (by omega) 0 v⟩
theorem Six.bitQ {M D Q R A B : Nat} {w W : World} (h : Six M D Q R A B w W) (j t : Nat) (hj : j < 6) (ht : t < 32) (hQ : Q % 2 ^ (32 * j + t + 1) = 0) (v : Int) (hv : v = dg Q j + ((2 ^ t : Nat) : Int)) : Six M D (Q + 2 ^ (32 * j + t)) R A B w (put1 W (w.heap.size + 1 + 1 + 1 + 1) j v) := by
  refine ⟨h.x.other1 (by omega) j v, h.y.other1 (by omega) j v, h.a.other1 (by omega) j v, h.b.other1 (by omega) j v, h.q.put1 _ j v hj (by rw [dg_setJ _ j t ht hQ, hv]) (fun i hi hne => ?_), h.r.other1 (by omega) j v, below_put1 h.bel (by omega) j v⟩
  rcases Nat.lt_or_gt_of_ne hne with hlt | hgt
  · exact dg_setL _ j t i ht hlt
  · exact dg_setH _ j t i ht hgt hQ
theorem bit_val (M j t i c : Nat) (a P : Int) (ht : t < 32) (hi : i = 32 * j + t) (hc : M / 2 ^ i % 2 = c) (hP : ((2 ^ t : Nat) : Int) = P) (ha : 0 ≤ a ∧ a < 4294967296) : IntKind.u64.wrap (a + (dg M j / P).tmod 2) = a + c := by
  have h := bit_at M j t ht
  rw [← hi, hc] at h
  have e : dg M j / P = ((M / 4294967296 ^ j % 4294967296 / 2 ^ t : Nat) : Int) := by
    rw [← hP]; unfold dg; exact (Int.natCast_ediv _ _).symm
  rw [e]
  generalize M / 4294967296 ^ j % 4294967296 / 2 ^ t = q at *
  have e2 : ((q : Nat) : Int).tmod 2 = (c : Int) := by
    rw [Int.tmod_eq_emod_of_nonneg (by omega)]; omega
  rw [e2, uw_id _ (by omega) (by omega)]
theorem pow_bd (t : Nat) (ht : t < 32) : 1 ≤ ((2 ^ t : Nat) : Int) ∧ ((2 ^ t : Nat) : Int) < 4294967296 := by
  have h1 : 0 < 2 ^ t := Nat.pow_pos (by decide)
  have h2 : 2 ^ t < 2 ^ 32 := Nat.pow_lt_pow_right (by decide) ht
  omega
theorem wrap_pow (t : Nat) (ht : t < 32) : IntKind.u64.wrap (2 ^ t) = ((2 ^ t : Nat) : Int) := by
  have h := pow_bd t ht
  have e : ((2 : Int) ^ t) = ((2 ^ t : Nat) : Int) := by rw [Int.natCast_pow]; rfl
  rw [e, uw_id _ (by omega) (by omega)]
theorem Six.start (M D : Nat) (w : World) : Six M D 0 0 0 0 w ((((((w.alloc (.cells #[.int .u64 (dg M 0), .int .u64 (dg M 1), .int .u64 (dg M 2), .int .u64 (dg M 3), .int .u64 (dg M 4), .int .u64 (dg M 5)] 202)).alloc (.cells #[.int .u64 (dg D 0), .int .u64 (dg D 1), .int .u64 (dg D 2), .int .u64 (dg D 3), .int .u64 (dg D 4), .int .u64 (dg D 5)] 202)).alloc (.cells #[.int .u64 0, .int .u64 0, .int .u64 0, .int .u64 0, .int .u64 0, .int .u64 0] 202)).alloc (.cells #[.int .u64 0, .int .u64 0, .int .u64 0, .int .u64 0, .int .u64 0, .int .u64 0] 202)).alloc (.cells #[.int .u64 0, .int .u64 0, .int .u64 0, .int .u64 0, .int .u64 0, .int .u64 0] 202)).alloc (.cells #[.int .u64 0, .int .u64 0, .int .u64 0, .int .u64 0, .int .u64 0, .int .u64 0] 202)) := by
  refine ⟨?_, ?_, ?_, ?_, ?_, ?_, ?_⟩
  · exact (((((Box.new w M).alloc _).alloc _).alloc _).alloc _).alloc _
  · have h := Box.new (w.alloc (.cells #[.int .u64 (dg M 0), .int .u64 (dg M 1), .int .u64 (dg M 2), .int .u64 (dg M 3), .int .u64 (dg M 4), .int .u64 (dg M 5)] 202)) D
    rw [World.size_alloc] at h
    exact (((h.alloc _).alloc _).alloc _).alloc _
  · have h := Box.zero ((w.alloc (.cells #[.int .u64 (dg M 0), .int .u64 (dg M 1), .int .u64 (dg M 2), .int .u64 (dg M 3), .int .u64 (dg M 4), .int .u64 (dg M 5)] 202)).alloc (.cells #[.int .u64 (dg D 0), .int .u64 (dg D 1), .int .u64 (dg D 2), .int .u64 (dg D 3), .int .u64 (dg D 4), .int .u64 (dg D 5)] 202))
    rw [World.size_alloc, World.size_alloc] at h
    exact ((h.alloc _).alloc _).alloc _
  · have h := Box.zero (((w.alloc (.cells #[.int .u64 (dg M 0), .int .u64 (dg M 1), .int .u64 (dg M 2), .int .u64 (dg M 3), .int .u64 (dg M 4), .int .u64 (dg M 5)] 202)).alloc (.cells #[.int .u64 (dg D 0), .int .u64 (dg D 1), .int .u64 (dg D 2), .int .u64 (dg D 3), .int .u64 (dg D 4), .int .u64 (dg D 5)] 202)).alloc (.cells #[.int .u64 0, .int .u64 0, .int .u64 0, .int .u64 0, .int .u64 0, .int .u64 0] 202))
    rw [World.size_alloc, World.size_alloc, World.size_alloc] at h
    exact (h.alloc _).alloc _
  · have h := Box.zero ((((w.alloc (.cells #[.int .u64 (dg M 0), .int .u64 (dg M 1), .int .u64 (dg M 2), .int .u64 (dg M 3), .int .u64 (dg M 4), .int .u64 (dg M 5)] 202)).alloc (.cells #[.int .u64 (dg D 0), .int .u64 (dg D 1), .int .u64 (dg D 2), .int .u64 (dg D 3), .int .u64 (dg D 4), .int .u64 (dg D 5)] 202)).alloc (.cells #[.int .u64 0, .int .u64 0, .int .u64 0, .int .u64 0, .int .u64 0, .int .u64 0] 202)).alloc (.cells #[.int .u64 0, .int .u64 0, .int .u64 0, .int .u64 0, .int .u64 0, .int .u64 0] 202))
    rw [World.size_alloc, World.size_alloc, World.size_alloc, World.size_alloc] at h
    exact h.alloc _
  · have h := Box.zero (((((w.alloc (.cells #[.int .u64 (dg M 0), .int .u64 (dg M 1), .int .u64 (dg M 2), .int .u64 (dg M 3), .int .u64 (dg M 4), .int .u64 (dg M 5)] 202)).alloc (.cells #[.int .u64 (dg D 0), .int .u64 (dg D 1), .int .u64 (dg D 2), .int .u64 (dg D 3), .int .u64 (dg D 4), .int .u64 (dg D 5)] 202)).alloc (.cells #[.int .u64 0, .int .u64 0, .int .u64 0, .int .u64 0, .int .u64 0, .int .u64 0] 202)).alloc (.cells #[.int .u64 0, .int .u64 0, .int .u64 0, .int .u64 0, .int .u64 0, .int .u64 0] 202)).alloc (.cells #[.int .u64 0, .int .u64 0, .int .u64 0, .int .u64 0, .int .u64 0, .int .u64 0] 202))
    rw [World.size_alloc, World.size_alloc, World.size_alloc, World.size_alloc, World.size_alloc] at h
    exact h
  · exact bal (bal (bal (bal (bal (bal (Below.refl _ _) _) _) _) _) _) _
end Go.Proofs.YtcafhmlpmbkhkaaGreatDoor.Mw
namespace Go.Proofs.YtcafhmlpmbkhkaaGreatDoor.Mw
open Go.ChangeShapes Go.WideShapes Go.ChangeAt Go.RowKit
set_option linter.unusedVariables false
attribute [local go_sem] setCell_drewN alloc_drewN
attribute [local go_sem ↓] st46_is st40_is
attribute [local go_sem] run_st46 run_st46_new run_st40
set_option maxHeartbeats 4000000 in
theorem over_walk (M D : Nat) (hM : M < 4294967296 ^ 6) (hD : 0 < D) (hD2 : D < 18446744073709551616) (w : World) :
    Calls Tryz.prog 241 #[.agg #[.int .u64 (dg M 0), .int .u64 (dg M 1), .int .u64 (dg M 2), .int .u64 (dg M 3), .int .u64 (dg M 4), .int .u64 (dg M 5)], .agg #[.int .u64 (dg D 0), .int .u64 (dg D 1), .int .u64 (dg D 2), .int .u64 (dg D 3), .int .u64 (dg D 4), .int .u64 (dg D 5)]] w fun e w' => e = .returned (.tuple #[wv (M / D), wv (M % D)]) ∧ Below w.heap.size w w' := by
  have hst := hide (ov_start M D hM)
  have HD := hide (show D < 4294967296 ^ 6 by rw [p6n]; omega)
  clear hM
  go_enter Tryz.func241, Tryz.ntmps241
  go_wp2
  go_loopw [8] (fun i wr => ∃ (k : Nat) (z : Int), k ≤ 192 ∧ i = .int .i64 z ∧ z = (k : Int) - 1 ∧ Six M D (ovQ M D k) (ovR M D k) 0 0 w wr) (fun i _ => (intOf i + 1).toNat)
  case atStart => exact ⟨192, 191, by omega, rfl, by omega, by rw [(unhide hst).1, (unhide hst).2]; exact Six.start M D w⟩
  case round =>
    rename_i wr
    obtain ⟨k, z, hk, rfl, hz, hs⟩ := hrel
    have HS := hide hs
    by_cases hk0 : k = 0
    · subst hk0
      have hz' : z = -1 := by omega
      subst hz'
      rw [(ov_end M D).1, (ov_end M D).2] at hs
      clear HS hz hk
      have HS := hide hs
      have q0 := hs.q.at' 0 (by omega)
      have q1 := hs.q.at' 1 (by omega)
      have q2 := hs.q.at' 2 (by omega)
      have q3 := hs.q.at' 3 (by omega)
      have q4 := hs.q.at' 4 (by omega)
      have q5 := hs.q.at' 5 (by omega)
      have r0 := hs.r.at' 0 (by omega)
      have r1 := hs.r.at' 1 (by omega)
      have r2 := hs.r.at' 2 (by omega)
      have r3 := hs.r.at' 3 (by omega)
      have r4 := hs.r.at' 4 (by omega)
      have r5 := hs.r.at' 5 (by omega)
      have tA := hs.a.there
      have tAd : wr.drew.there (w.heap.size + 1 + 1) 0 6 := tA
      have SA := hs.drew.putA (M / D)
      have tB := SA.b.there
      have ra0 := SA.r.at' 0 (by omega)
      have ra1 := SA.r.at' 1 (by omega)
      have ra2 := SA.r.at' 2 (by omega)
      have ra3 := SA.r.at' 3 (by omega)
      have ra4 := SA.r.at' 4 (by omega)
      have ra5 := SA.r.at' 5 (by omega)
      have SAB := hide (SA.putB (M % D))
      clear hs SA
      go_wp2
      go_region
      go_wp2
      generalize put6 (put6 wr.drew (w.heap.size + 1 + 1) (M / D)) (w.heap.size + 1 + 1 + 1) (M % D) = WE at *
      have fa0 := (unhide SAB).a.at' 0 (by omega)
      have fa1 := (unhide SAB).a.at' 1 (by omega)
      have fa2 := (unhide SAB).a.at' 2 (by omega)
      have fa3 := (unhide SAB).a.at' 3 (by omega)
      have fa4 := (unhide SAB).a.at' 4 (by omega)
      have fa5 := (unhide SAB).a.at' 5 (by omega)
      have fb0 := (unhide SAB).b.at' 0 (by omega)
      have fb1 := (unhide SAB).b.at' 1 (by omega)
      have fb2 := (unhide SAB).b.at' 2 (by omega)
      have fb3 := (unhide SAB).b.at' 3 (by omega)
      have fb4 := (unhide SAB).b.at' 4 (by omega)
      have fb5 := (unhide SAB).b.at' 5 (by omega)
      exact bodyPost_ret (v := .tuple #[.agg #[.int .u64 (dg (M / D) 0), .int .u64 (dg (M / D) 1), .int .u64 (dg (M / D) 2), .int .u64 (dg (M / D) 3), .int .u64 (dg (M / D) 4), .int .u64 (dg (M / D) 5)], .agg #[.int .u64 (dg (M % D) 0), .int .u64 (dg (M % D) 1), .int .u64 (dg (M % D) 2), .int .u64 (dg (M % D) 3), .int .u64 (dg (M % D) 4), .int .u64 (dg (M % D) 5)]]) (by simp [results, Tryz.results241, go_sem, fa0, fa1, fa2, fa3, fa4, fa5, fb0, fb1, fb2, fb3, fb4, fb5]) rfl ⟨rfl, (unhide SAB).bel⟩
    · obtain ⟨i, rfl⟩ : ∃ i, k = i + 1 := ⟨k - 1, by omega⟩
      obtain ⟨j, t, hjt, ht⟩ : ∃ j t, i = 32 * j + t ∧ t < 32 := ⟨i / 32, i % 32, by omega, by omega⟩
      have hj : j < 6 := by omega
      have hz0 : 0 ≤ z := by omega
      have hz1 : z ≤ 191 := by omega
      have ez : z / 32 = (j : Int) := by omega
      have et : z % 32 = (t : Int) := by omega
      have bj0 : (0 : Int) ≤ (j : Int) := by omega
      have bj1 : (j : Int) < 6 := by omega
      have Hz := hide hz
      have Hjt := hide hjt
      have Hk := hide hk
      clear hz hjt hk hk0
      have hRlt := ovR_lt M D (i + 1) hD
      have fit := hide (show ovR M D (i + 1) + ovR M D (i + 1) < 4294967296 ^ 6 by rw [p6n]; omega)
      obtain ⟨R, hR⟩ : ∃ R, ovR M D (i + 1) = R := ⟨_, rfl⟩
      obtain ⟨Q, hQ⟩ : ∃ Q, ovQ M D (i + 1) = Q := ⟨_, rfl⟩
      rw [hR] at fit hRlt hs
      rw [hQ] at hs
      have HQ := hide hQ
      have HR := hide hR
      clear hQ hR HS
      have HS := hide hs
      have r0 := hs.r.at' 0 (by omega)
      have r1 := hs.r.at' 1 (by omega)
      have r2 := hs.r.at' 2 (by omega)
      have r3 := hs.r.at' 3 (by omega)
      have r4 := hs.r.at' 4 (by omega)
      have r5 := hs.r.at' 5 (by omega)
      clear hs
      go_wp2_with (go_at_call 144; refine (plus_any R R (unhide fit) _).mono ?_; rintro e w1 ⟨rfl, hb1⟩; have S1 := hide ((unhide HS).below hb1); have hth := (unhide S1).r.there; unfold wv)
      have S6 := hide ((unhide S1).putR (R + R))
      clear hth S1 hb1 HS r0 r1 r2 r3 r4 r5
      generalize put6 w1 (w.heap.size + 1 + 1 + 1 + 1 + 1) (R + R) = W6 at *
      have f0 := (unhide S6).r.at' 0 (by omega)
      have fx := (unhide S6).x.at' j hj
      have hm := (unhide S6).r.may (j := 0) (by omega)
      have hmd : may1 W6.drew (w.heap.size + 1 + 1 + 1 + 1 + 1) 0 := hm
      have bd0 := digs_dg (R + R) 0
      have bdx := digs_dg M j
      obtain ⟨P, hP⟩ : ∃ P : Int, ((2 ^ t : Nat) : Int) = P := ⟨_, rfl⟩
      have bP := pow_bd t ht
      rw [hP] at bP
      have eP : IntKind.u64.wrap (2 ^ t) = P := by rw [← hP]; exact wrap_pow t ht
      have HP := hide hP
      clear hP
      go_region
      obtain ⟨c, hc⟩ : ∃ c, M / 2 ^ i % 2 = c := ⟨_, rfl⟩
      have hc1 : c ≤ 1 := by omega
      have ev : IntKind.u64.wrap (dg (R + R) 0 + (dg M j / P).tmod 2) = dg (R + R) 0 + c := bit_val M j t i c _ P ht (unhide Hjt) hc (unhide HP) bd0
      rw [ev]
      have S7 := hide ((unhide S6).drew.bitR c hc1 _ rfl)
      have HC := hide hc
      clear ev hc S6 f0 fx hm hmd bd0 bdx
      generalize put1 W6.drew (w.heap.size + 1 + 1 + 1 + 1 + 1) 0 (dg (R + R) 0 + c) = W7 at *
      have e0 := (unhide S7).r.at' 0 (by omega)
      have e1 := (unhide S7).r.at' 1 (by omega)
      have e2 := (unhide S7).r.at' 2 (by omega)
      have e3 := (unhide S7).r.at' 3 (by omega)
      have e4 := (unhide S7).r.at' 4 (by omega)
      have e5 := (unhide S7).r.at' 5 (by omega)
      have y0 := (unhide S7).y.at' 0 (by omega)
      have y1 := (unhide S7).y.at' 1 (by omega)
      have y2 := (unhide S7).y.at' 2 (by omega)
      have y3 := (unhide S7).y.at' 3 (by omega)
      have y4 := (unhide S7).y.at' 4 (by omega)
      have y5 := (unhide S7).y.at' 5 (by omega)
      have hmore := hide (ov_more M D i hD)
      have hless := hide (ov_less M D i hD)
      rw [unhide HR, unhide HC] at hmore hless
      rw [unhide HQ] at hmore hless
      have fit2 := hide (show 2 * R + c < 4294967296 ^ 6 by rw [p6n]; omega)
      by_cases hcmp : 2 * R + c < D
      · have HCMP := hide hcmp
        clear hcmp
        go_wp2_with (go_at_call 146; refine (below_yes (2 * R + c) D (unhide fit2) (unhide HD) (unhide HCMP) _).mono ?_; rintro e w2 ⟨rfl, hb2⟩; have HB2 := hide hb2; clear hb2)
        refine ⟨⟨i, z - 1, by have := unhide Hk; omega, rfl, by have := unhide Hz; omega, ?_⟩, by simp [intOf]; omega⟩
        have hl := (unhide hless) (unhide HCMP)
        rw [hl.1, hl.2]
        exact (unhide S7).below (unhide HB2)
      · have HCMP := hide hcmp
        have hle : D ≤ 2 * R + c := by omega
        have HLE := hide hle
        clear hcmp hle
        go_wp2_with (first | (go_at_call 146; refine (below_no (2 * R + c) D (unhide fit2) (unhide HD) (unhide HCMP) _).mono ?_; rintro e w2 ⟨rfl, hb2⟩; have S8 := hide ((unhide S7).below hb2); clear hb2; have g0 := (unhide S8).r.at' 0 (by omega); have k0 := (unhide S8).y.at' 0 (by omega); have g1 := (unhide S8).r.at' 1 (by omega); have k1 := (unhide S8).y.at' 1 (by omega); have g2 := (unhide S8).r.at' 2 (by omega); have k2 := (unhide S8).y.at' 2 (by omega); have g3 := (unhide S8).r.at' 3 (by omega); have k3 := (unhide S8).y.at' 3 (by omega); have g4 := (unhide S8).r.at' 4 (by omega); have k4 := (unhide S8).y.at' 4 (by omega); have g5 := (unhide S8).r.at' 5 (by omega); have k5 := (unhide S8).y.at' 5 (by omega)) | (go_at_call 147; refine (minus_open (2 * R + c) D (unhide fit2) (unhide HLE) _).mono ?_; rintro e w3 ⟨rfl, hb3⟩; have S9 := hide ((unhide S8).below hb3); clear hb3; have hth9 := (unhide S9).r.there))
        have S10 := hide ((unhide S9).putR (2 * R + c - D))
        clear hth9 S9 S8 S7
        generalize put6 w3 (w.heap.size + 1 + 1 + 1 + 1 + 1) (2 * R + c - D) = W10 at *
        have fq := (unhide S10).q.at' j hj
        have hmq := (unhide S10).q.may (j := j) hj
        have hmqd : may1 W10.drew (w.heap.size + 1 + 1 + 1 + 1) j := hmq
        have bdq := digs_dg Q j
        go_region
        go_wp2
        refine ⟨⟨i, z - 1, by have := unhide Hk; omega, rfl, by have := unhide Hz; omega, ?_⟩, by simp [intOf]; omega⟩
        have hl := (unhide hmore) (unhide HLE)
        rw [hl.1, hl.2, unhide Hjt]
        refine (unhide S10).drew.bitQ j t hj ht ?_ _ ?_
        · have := ovQ_mod M D (i + 1)
          rw [unhide HQ, unhide Hjt] at this
          exact this
        · rw [unhide HP]
end Go.Proofs.YtcafhmlpmbkhkaaGreatDoor.Mw
