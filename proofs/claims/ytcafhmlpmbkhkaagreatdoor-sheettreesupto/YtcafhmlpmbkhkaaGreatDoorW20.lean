import GoSem.Claim
import Derived.Test.YtcafhmlpmbkhkaaGreatDoorProg
import Derived.WalkKit
import Derived.ProofKit
import Derived.OpenShut
import Derived.WalkLawsBesides
import Derived.Deep.QuietTactic
import Derived.BigQuiet
/- Plain numbers: words of 32 bits, lowest first. Nothing of the program. -/
namespace Go.Proofs.YtcafhmlpmbkhkaaGreatDoor.Mw

/-- the sum of the first k words -/
def sm (z : Nat → Int) : Nat → Int
  | 0 => 0
  | k + 1 => sm z k + z k * 4294967296 ^ k

def upd (z : Nat → Int) (k : Nat) (v : Int) : Nat → Int := fun i => if i = k then v else z i

/-- words from 0 to 2^32 - 1 -/
def digs (z : Nat → Int) : Prop := ∀ i, 0 ≤ z i ∧ z i < 4294967296

def dg (n : Nat) : Nat → Int := fun i => ((n / 4294967296 ^ i % 4294967296 : Nat) : Int)

theorem digs_dg (n : Nat) : digs (dg n) := by
  intro i
  unfold dg
  have : n / 4294967296 ^ i % 4294967296 < 4294967296 := Nat.mod_lt _ (by decide)
  omega

theorem digs_upd {z : Nat → Int} (h : digs z) (k : Nat) (v : Int) (h0 : 0 ≤ v) (h1 : v < 4294967296) : digs (upd z k v) := by
  intro i
  unfold upd
  split
  · exact ⟨h0, h1⟩
  · exact h i

theorem sm_upd_lt (z : Nat → Int) (k : Nat) (v : Int) : ∀ j, j ≤ k → sm (upd z k v) j = sm z j
  | 0, _ => rfl
  | j + 1, h => by
    have hj : j ≠ k := by omega
    simp only [sm, sm_upd_lt z k v j (by omega), upd, if_neg hj]

theorem sm_upd (z : Nat → Int) (k : Nat) (v : Int) : ∀ j, k < j → sm (upd z k v) j = sm z j + (v - z k) * 4294967296 ^ k
  | 0, h => by omega
  | j + 1, h => by
    by_cases e : j = k
    · subst e
      simp only [sm, sm_upd_lt z j v j (Nat.le_refl _), upd, if_true, Int.sub_mul]
      omega
    · have hj := sm_upd z k v j (by omega)
      simp only [sm, hj, upd, if_neg e]
      omega

theorem sm_dg (n : Nat) : ∀ k, sm (dg n) k = ((n % 4294967296 ^ k : Nat) : Int)
  | 0 => by simp [sm, Nat.mod_one]
  | k + 1 => by
    simp only [sm, sm_dg n k, dg]
    rw [Nat.pow_succ, Nat.mod_mul]
    simp only [Int.natCast_add, Int.natCast_mul, Int.natCast_pow]
    rw [Int.mul_comm]
    simp

theorem sm_dg6 (n : Nat) (h : n < 4294967296 ^ 6) : sm (dg n) 6 = n := by
  rw [sm_dg, Nat.mod_eq_of_lt h]

theorem sm_nonneg {z : Nat → Int} (h : digs z) : ∀ k, 0 ≤ sm z k ∧ sm z k < 4294967296 ^ k
  | 0 => by simp [sm]
  | k + 1 => by
    obtain ⟨a, b⟩ := sm_nonneg h k
    obtain ⟨c, d⟩ := h k
    have hp : (0 : Int) < 4294967296 ^ k := Int.pow_pos (by decide)
    have h1 : 0 ≤ z k * 4294967296 ^ k := Int.mul_nonneg c (Int.le_of_lt hp)
    have h2 : (z k + 1) * 4294967296 ^ k ≤ 4294967296 * 4294967296 ^ k := Int.mul_le_mul_of_nonneg_right (by omega) (Int.le_of_lt hp)
    have h3 : (z k + 1) * 4294967296 ^ k = z k * 4294967296 ^ k + 4294967296 ^ k := by rw [Int.add_mul, Int.one_mul]
    have h4 : (4294967296 : Int) ^ (k + 1) = 4294967296 * 4294967296 ^ k := by rw [Int.pow_succ, Int.mul_comm]
    simp only [sm]
    rw [h4]
    omega

/-- six words with that sum are the number's -/
theorem dg_of_sm {z : Nat → Int} (h : digs z) (n : Nat) (hs : sm z 6 = n) : ∀ i, i < 6 → z i = dg n i := by
  have d0 := h 0; have d1 := h 1; have d2 := h 2; have d3 := h 3; have d4 := h 4; have d5 := h 5
  simp only [sm] at hs
  have e : (z 0 + 4294967296 * (z 1 + 4294967296 * (z 2 + 4294967296 * (z 3 + 4294967296 * (z 4 + 4294967296 * z 5))))) = (n : Int) := by
    simp only [show (4294967296 : Int) ^ 0 = 1 from rfl, show (4294967296 : Int) ^ 1 = 4294967296 from by decide, show (4294967296 : Int) ^ 2 = 18446744073709551616 from by decide, show (4294967296 : Int) ^ 3 = 79228162514264337593543950336 from by decide, show (4294967296 : Int) ^ 4 = 340282366920938463463374607431768211456 from by decide, show (4294967296 : Int) ^ 5 = 1461501637330902918203684832716283019655932542976 from by decide] at hs
    omega
  have q0 : n / 4294967296 ^ 0 = n := by simp
  have q1 : n / 4294967296 ^ 1 = n / 4294967296 := by simp
  have q2 : n / 4294967296 ^ 2 = n / 4294967296 / 4294967296 := by rw [Nat.div_div_eq_div_mul]
  have q3 : n / 4294967296 ^ 3 = n / 4294967296 / 4294967296 / 4294967296 := by rw [Nat.div_div_eq_div_mul, Nat.div_div_eq_div_mul]
  have q4 : n / 4294967296 ^ 4 = n / 4294967296 / 4294967296 / 4294967296 / 4294967296 := by rw [Nat.div_div_eq_div_mul, Nat.div_div_eq_div_mul, Nat.div_div_eq_div_mul]
  have q5 : n / 4294967296 ^ 5 = n / 4294967296 / 4294967296 / 4294967296 / 4294967296 / 4294967296 := by rw [Nat.div_div_eq_div_mul, Nat.div_div_eq_div_mul, Nat.div_div_eq_div_mul, Nat.div_div_eq_div_mul]
  have r1 : (z 1 + 4294967296 * (z 2 + 4294967296 * (z 3 + 4294967296 * (z 4 + 4294967296 * z 5)))) = ((n / 4294967296 : Nat) : Int) := by omega
  have r2 : (z 2 + 4294967296 * (z 3 + 4294967296 * (z 4 + 4294967296 * z 5))) = ((n / 4294967296 / 4294967296 : Nat) : Int) := by omega
  have r3 : (z 3 + 4294967296 * (z 4 + 4294967296 * z 5)) = ((n / 4294967296 / 4294967296 / 4294967296 : Nat) : Int) := by omega
  have r4 : (z 4 + 4294967296 * z 5) = ((n / 4294967296 / 4294967296 / 4294967296 / 4294967296 : Nat) : Int) := by omega
  have r5 : z 5 = ((n / 4294967296 / 4294967296 / 4294967296 / 4294967296 / 4294967296 : Nat) : Int) := by omega
  intro i hi
  have hi' : i = 0 ∨ i = 1 ∨ i = 2 ∨ i = 3 ∨ i = 4 ∨ i = 5 := by omega
  rcases hi' with rfl | rfl | rfl | rfl | rfl | rfl <;> simp only [dg, q0, q1, q2, q3, q4, q5] <;> omega

/-! ### Plus -/
def plusRel (x y z : Nat → Int) (k : Nat) (c : Int) : Prop := (∀ i, k ≤ i → z i = 0) ∧ sm z k + c * 4294967296 ^ k = sm x k + sm y k

theorem plusRel_zero (x y : Nat → Int) : plusRel x y (fun _ => 0) 0 0 := ⟨fun _ _ => rfl, by simp [sm]⟩

theorem plusRel_step {x y z : Nat → Int} {k : Nat} {c : Int} (h : plusRel x y z k c) (q r : Int) (hqr : q * 4294967296 + r = c + x k + y k) : plusRel x y (upd z k r) (k + 1) q := by
  obtain ⟨h0, h1⟩ := h
  refine ⟨fun i hi => ?_, ?_⟩
  · have : i ≠ k := by omega
    simp only [upd, if_neg this]
    exact h0 i (by omega)
  · have e1 : sm (upd z k r) (k + 1) = sm z k + r * 4294967296 ^ k := by
      simp only [sm, sm_upd_lt z k r k (Nat.le_refl _), upd, if_true]
    have e2 : (4294967296 : Int) ^ (k + 1) = 4294967296 * 4294967296 ^ k := by rw [Int.pow_succ, Int.mul_comm]
    rw [e1, e2]
    simp only [sm]
    generalize (4294967296 : Int) ^ k = p at *
    have e3 : q * (4294967296 * p) = (q * 4294967296) * p := by rw [Int.mul_assoc]
    have e4 : (q * 4294967296) * p = (c + x k + y k - r) * p := by rw [← hqr]; congr 1; omega
    rw [e3, e4]
    simp only [Int.sub_mul, Int.add_mul]
    omega

/-! ### Minus -/
def minusRel (x y z : Nat → Int) (k : Nat) (b : Int) : Prop := sm z k - b * 4294967296 ^ k = sm x k - sm y k

theorem minusRel_zero (x y : Nat → Int) : minusRel x y (fun _ => 0) 0 0 := by simp [minusRel, sm]

theorem minusRel_step {x y z : Nat → Int} {k : Nat} {b : Int} (h : minusRel x y z k b) (d q r : Int) (hqr : q * 4294967296 + r = d) (hd : d = x k + 4294967296 - y k - b) : minusRel x y (upd z k r) (k + 1) (1 - q) := by
  unfold minusRel at *
  have e1 : sm (upd z k r) (k + 1) = sm z k + r * 4294967296 ^ k := by
    simp only [sm, sm_upd_lt z k r k (Nat.le_refl _), upd, if_true]
  have e2 : (4294967296 : Int) ^ (k + 1) = 4294967296 * 4294967296 ^ k := by rw [Int.pow_succ, Int.mul_comm]
  rw [e1, e2]
  simp only [sm]
  generalize (4294967296 : Int) ^ k = p at *
  have e3 : (1 - q) * (4294967296 * p) = (4294967296 - q * 4294967296) * p := by rw [← Int.mul_assoc, Int.sub_mul, Int.one_mul]
  have e4 : (4294967296 - q * 4294967296) * p = (r + y k + b - x k) * p := by congr 1; omega
  rw [e3, e4]
  simp only [Int.sub_mul, Int.add_mul]
  omega

/-! ### Below -/
theorem below_high {x y : Nat → Int} (hx : digs x) (hy : digs y) (k : Nat) (hk : k < 6) (he : ∀ i, k < i → i < 6 → x i = y i) (hlt : x k < y k) : sm x 6 < sm y 6 := by
  have key : ∀ j, k + 1 + j ≤ 6 → sm x (k + 1 + j) < sm y (k + 1 + j)
    := by
    intro j
    induction j with
    | zero =>
      intro _
      have hxk := sm_nonneg hx k
      have hyk := sm_nonneg hy k
      simp only [sm]
      generalize (4294967296 : Int) ^ k = p at *
      have : (x k + 1) * p ≤ y k * p := Int.mul_le_mul_of_nonneg_right (by omega) (by omega)
      rw [Int.add_mul, Int.one_mul] at this
      omega
    | succ j ih =>
      intro hj
      have h1 := ih (by omega)
      have h2 := he (k + 1 + j) (by omega) (by omega)
      have : k + 1 + (j + 1) = (k + 1 + j) + 1 := by omega
      rw [this]
      simp only [sm, h2]
      omega
  have := key (5 - k) (by omega)
  have e : k + 1 + (5 - k) = 6 := by omega
  rwa [e] at this

theorem below_same {x y : Nat → Int} (he : ∀ i, i < 6 → x i = y i) : sm x 6 = sm y 6 := by
  have key : ∀ j, j ≤ 6 → sm x j = sm y j := by
    intro j
    induction j with
    | zero => intro _; rfl
    | succ j ih => intro hj; simp only [sm, ih (by omega), he j (by omega)]
  exact key 6 (Nat.le_refl _)

/-! ### Times -/
/-- the outer loop's: with i words of x taken -/
def outRel (x y z : Nat → Int) (i : Nat) : Prop := ∃ q, sm z 6 + q * 4294967296 ^ 6 = sm x i * sm y 6
/-- the inner loop's: and j words of y -/
def inRel (x y z : Nat → Int) (i j : Nat) (c : Int) : Prop := ∃ q, sm z 6 + c * 4294967296 ^ (i + j) + q * 4294967296 ^ 6 = sm x i * sm y 6 + x i * 4294967296 ^ i * sm y j

theorem outRel_zero (x y : Nat → Int) : outRel x y (fun _ => 0) 0 := ⟨0, by simp [sm]⟩

theorem inRel_of_out {x y z : Nat → Int} {i : Nat} (h : outRel x y z i) : inRel x y z i 0 0 := by
  obtain ⟨q, hq⟩ := h
  refine ⟨q, ?_⟩
  simp only [sm, Int.zero_mul, Int.mul_zero, Int.add_zero]
  simpa only [sm] using hq

theorem inRel_step {x y z : Nat → Int} {i j : Nat} {c : Int} (h : inRel x y z i j c) (hij : i + j < 6) (q r : Int) (hqr : q * 4294967296 + r = c + z (i + j) + x i * y j) : inRel x y (upd z (i + j) r) i (j + 1) q := by
  obtain ⟨Q, hQ⟩ := h
  refine ⟨Q, ?_⟩
  rw [sm_upd z (i + j) r 6 hij]
  have e2 : (4294967296 : Int) ^ (i + (j + 1)) = 4294967296 * 4294967296 ^ (i + j) := by rw [← Nat.add_assoc, Int.pow_succ, Int.mul_comm]
  have e5 : (4294967296 : Int) ^ (i + j) = 4294967296 ^ i * 4294967296 ^ j := Int.pow_add _ _ _
  have e6 : sm y (j + 1) = sm y j + y j * 4294967296 ^ j := rfl
  rw [e2, e6]
  have e7 : x i * 4294967296 ^ i * (sm y j + y j * 4294967296 ^ j) = x i * 4294967296 ^ i * sm y j + x i * y j * 4294967296 ^ (i + j) := by
    rw [e5, Int.mul_add]
    congr 1
    simp only [Int.mul_assoc, Int.mul_left_comm]
  rw [e7]
  generalize (4294967296 : Int) ^ (i + j) = p at *
  have e3 : q * (4294967296 * p) = (q * 4294967296) * p := by rw [Int.mul_assoc]
  have e4 : (q * 4294967296) * p = (c + z (i + j) + x i * y j - r) * p := by rw [← hqr]; congr 1; omega
  rw [e3, e4]
  simp only [Int.sub_mul, Int.add_mul]
  omega

theorem sm_high (y : Nat → Int) (j : Nat) : ∀ m, ∃ t, sm y (j + m) = sm y j + t * 4294967296 ^ j
  | 0 => ⟨0, by simp⟩
  | m + 1 => by
    obtain ⟨t, ht⟩ := sm_high y j m
    refine ⟨t + y (j + m) * 4294967296 ^ m, ?_⟩
    have : j + (m + 1) = (j + m) + 1 := by omega
    rw [this]
    simp only [sm, ht, Int.add_mul, Int.pow_add]
    rw [Int.mul_assoc, Int.mul_comm (4294967296 ^ j) (4294967296 ^ m)]
    omega

theorem outRel_of_in {x y z : Nat → Int} {i j : Nat} {c : Int} (h : inRel x y z i j c) (hij : i + j = 6) : outRel x y z (i + 1) := by
  obtain ⟨Q, hQ⟩ := h
  obtain ⟨t, ht⟩ := sm_high y j (6 - j)
  have e : j + (6 - j) = 6 := by omega
  rw [e] at ht
  rw [hij] at hQ
  refine ⟨c + Q + x i * t, ?_⟩
  have e1 : sm x (i + 1) * sm y 6 = sm x i * sm y 6 + x i * 4294967296 ^ i * sm y 6 := by simp only [sm, Int.add_mul]
  have e2 : x i * 4294967296 ^ i * sm y 6 = x i * 4294967296 ^ i * sm y j + x i * t * 4294967296 ^ 6 := by
    rw [ht, Int.mul_add, ← hij, Int.pow_add]
    congr 1
    simp only [Int.mul_assoc, Int.mul_left_comm]
  rw [e1, e2, Int.add_mul, Int.add_mul]
  omega

theorem times_of_out {x y z : Nat → Int} (hz : digs z) (h : outRel x y z 6) (m n : Nat) (hm : sm x 6 = m) (hn : sm y 6 = n) (hr : m * n < 4294967296 ^ 6) : sm z 6 = ((m * n : Nat) : Int) := by
  obtain ⟨Q, hQ⟩ := h
  rw [hm, hn] at hQ
  have hb := sm_nonneg hz 6
  have e6 : ((4294967296 ^ 6 : Nat) : Int) = 4294967296 ^ 6 := by rw [Int.natCast_pow]; rfl
  have hr' : ((m * n : Nat) : Int) < 4294967296 ^ 6 := by rw [← e6]; exact Int.ofNat_lt.2 hr
  rw [Int.natCast_mul] at hr' ⊢
  have h0 : (0 : Int) ≤ (m : Int) * n := by rw [← Int.natCast_mul]; exact Int.natCast_nonneg _
  generalize (m : Int) * n = M at *
  generalize (4294967296 : Int) ^ 6 = P at *
  have q0 : Q = 0 := by
    rcases Int.lt_trichotomy Q 0 with hq | hq | hq
    · have : (Q + 1) * P ≤ 0 * P := Int.mul_le_mul_of_nonneg_right (by omega) (by omega)
      rw [Int.add_mul, Int.one_mul, Int.zero_mul] at this
      omega
    · exact hq
    · have : 1 * P ≤ Q * P := Int.mul_le_mul_of_nonneg_right (by omega) (by omega)
      rw [Int.one_mul] at this
      omega
  subst q0
  omega
end Go.Proofs.YtcafhmlpmbkhkaaGreatDoor.Mw
namespace Go.Proofs.YtcafhmlpmbkhkaaGreatDoor.Mw
open Go.ChangeShapes Go.WideShapes Go.ChangeAt Go.RowKit
set_option linter.unusedVariables false

theorem setCell_drewN (w : World) (n : Nat) (a : Addr) (v : Value) : (w.drewN n).setCell a v = (w.setCell a v).drewN n := rfl
theorem alloc_drewN (w : World) (n : Nat) (o : Obj) : (w.drewN n).alloc o = (w.alloc o).drewN n := rfl
attribute [local go_sem] setCell_drewN alloc_drewN
theorem bal {w W : World} (h : Below w.heap.size w W) (o : Obj) : Below w.heap.size w (W.alloc o) := h.alloc h.size o

/-- a number's six words, as a value -/
def wv (n : Nat) : Value := .agg #[.int .u64 (dg n 0), .int .u64 (dg n 1), .int .u64 (dg n 2), .int .u64 (dg n 3), .int .u64 (dg n 4), .int .u64 (dg n 5)]

theorem wv_of {z : Nat → Int} (h : digs z) (n : Nat) (hs : sm z 6 = n) : Value.agg #[.int .u64 (z 0), .int .u64 (z 1), .int .u64 (z 2), .int .u64 (z 3), .int .u64 (z 4), .int .u64 (z 5)] = wv n := by
  have e := dg_of_sm h n hs
  simp only [wv, e 0 (by omega), e 1 (by omega), e 2 (by omega), e 3 (by omega), e 4 (by omega), e 5 (by omega)]
theorem ret_wv {z : Nat → Int} (h : digs z) (n : Nat) (hs : sm z 6 = n) : Ending.returned (.agg #[.int .u64 (z 0), .int .u64 (z 1), .int .u64 (z 2), .int .u64 (z 3), .int .u64 (z 4), .int .u64 (z 5)]) = .returned (wv n) := by
  rw [wv_of h n hs]

set_option maxHeartbeats 2000000 in
theorem plus_raw (x y : Nat → Int) (hx : digs x) (hy : digs y) (w : World) :
    Calls Tryz.prog 144 #[.agg #[.int .u64 (x 0), .int .u64 (x 1), .int .u64 (x 2), .int .u64 (x 3), .int .u64 (x 4), .int .u64 (x 5)], .agg #[.int .u64 (y 0), .int .u64 (y 1), .int .u64 (y 2), .int .u64 (y 3), .int .u64 (y 4), .int .u64 (y 5)]] w fun e w' => ∃ (z : Nat → Int) (c : Int), e = .returned (.agg #[.int .u64 (z 0), .int .u64 (z 1), .int .u64 (z 2), .int .u64 (z 3), .int .u64 (z 4), .int .u64 (z 5)]) ∧ 0 ≤ c ∧ c ≤ 1 ∧ digs z ∧ plusRel x y z 6 c ∧ Below w.heap.size w w' := by
  go_enter Tryz.func144, Tryz.ntmps144
  go_wp2
  go_loopw [6, 7] (fun c i wr => ∃ (k : Nat) (c' : Int) (n : Nat) (z : Nat → Int), k ≤ 6 ∧ i = .int .i64 k ∧ c = .int .u64 c' ∧ 0 ≤ c' ∧ c' ≤ 1 ∧ digs z ∧ plusRel x y z k c' ∧ wr = ((((w.alloc (.cells #[.int .u64 (x 0), .int .u64 (x 1), .int .u64 (x 2), .int .u64 (x 3), .int .u64 (x 4), .int .u64 (x 5)] 202)).alloc (.cells #[.int .u64 (y 0), .int .u64 (y 1), .int .u64 (y 2), .int .u64 (y 3), .int .u64 (y 4), .int .u64 (y 5)] 202)).alloc (.cells #[.int .u64 0, .int .u64 0, .int .u64 0, .int .u64 0, .int .u64 0, .int .u64 0] 202)).alloc (.cells #[.int .u64 (z 0), .int .u64 (z 1), .int .u64 (z 2), .int .u64 (z 3), .int .u64 (z 4), .int .u64 (z 5)] 202)).drewN n) (fun _ i _ => 6 - (intOf i).toNat)
  case atStart => exact ⟨0, 0, 0, fun _ => 0, by omega, rfl, rfl, by omega, by omega, fun _ => by simp, plusRel_zero x y, rfl⟩
  case round =>
    obtain ⟨k, c', n, z, hk, rfl, rfl, hc0, hc1, hz, hr, rfl⟩ := hrel
    have hk' : k = 6 ∨ k = 0 ∨ k = 1 ∨ k = 2 ∨ k = 3 ∨ k = 4 ∨ k = 5 := by omega
    rcases hk' with rfl | hk'
    · go_wp2
      exact bodyPost_ret (v := .agg #[.int .u64 (z 0), .int .u64 (z 1), .int .u64 (z 2), .int .u64 (z 3), .int .u64 (z 4), .int .u64 (z 5)]) (by simp [results, Tryz.results144, go_sem]) rfl ⟨z, c', rfl, hc0, hc1, hz, hr, by repeat (first | exact Below.refl _ _ | apply below_drewN | apply bal)⟩
    rcases hk' with rfl | rfl | rfl | rfl | rfl | rfl
    · obtain ⟨hx0, hx1⟩ := hx 0
      obtain ⟨hy0, hy1⟩ := hy 0
      go_wp2
      go_quiet (fail)
      go_wp2
      exact ⟨⟨1, (c' + x 0 + y 0) / 4294967296, n + nq, upd z 0 ((c' + x 0 + y 0) % 4294967296), by omega, rfl, rfl, by omega, by omega, digs_upd hz _ _ (by omega) (by omega), plusRel_step hr _ _ (by omega), by simp [upd]⟩, by simp [intOf]⟩
    · obtain ⟨hx0, hx1⟩ := hx 1
      obtain ⟨hy0, hy1⟩ := hy 1
      go_wp2
      go_quiet (fail)
      go_wp2
      exact ⟨⟨2, (c' + x 1 + y 1) / 4294967296, n + nq, upd z 1 ((c' + x 1 + y 1) % 4294967296), by omega, rfl, rfl, by omega, by omega, digs_upd hz _ _ (by omega) (by omega), plusRel_step hr _ _ (by omega), by simp [upd]⟩, by simp [intOf]⟩
    · obtain ⟨hx0, hx1⟩ := hx 2
      obtain ⟨hy0, hy1⟩ := hy 2
      go_wp2
      go_quiet (fail)
      go_wp2
      exact ⟨⟨3, (c' + x 2 + y 2) / 4294967296, n + nq, upd z 2 ((c' + x 2 + y 2) % 4294967296), by omega, rfl, rfl, by omega, by omega, digs_upd hz _ _ (by omega) (by omega), plusRel_step hr _ _ (by omega), by simp [upd]⟩, by simp [intOf]⟩
    · obtain ⟨hx0, hx1⟩ := hx 3
      obtain ⟨hy0, hy1⟩ := hy 3
      go_wp2
      go_quiet (fail)
      go_wp2
      exact ⟨⟨4, (c' + x 3 + y 3) / 4294967296, n + nq, upd z 3 ((c' + x 3 + y 3) % 4294967296), by omega, rfl, rfl, by omega, by omega, digs_upd hz _ _ (by omega) (by omega), plusRel_step hr _ _ (by omega), by simp [upd]⟩, by simp [intOf]⟩
    · obtain ⟨hx0, hx1⟩ := hx 4
      obtain ⟨hy0, hy1⟩ := hy 4
      go_wp2
      go_quiet (fail)
      go_wp2
      exact ⟨⟨5, (c' + x 4 + y 4) / 4294967296, n + nq, upd z 4 ((c' + x 4 + y 4) % 4294967296), by omega, rfl, rfl, by omega, by omega, digs_upd hz _ _ (by omega) (by omega), plusRel_step hr _ _ (by omega), by simp [upd]⟩, by simp [intOf]⟩
    · obtain ⟨hx0, hx1⟩ := hx 5
      obtain ⟨hy0, hy1⟩ := hy 5
      go_wp2
      go_quiet (fail)
      go_wp2
      exact ⟨⟨6, (c' + x 5 + y 5) / 4294967296, n + nq, upd z 5 ((c' + x 5 + y 5) % 4294967296), by omega, rfl, rfl, by omega, by omega, digs_upd hz _ _ (by omega) (by omega), plusRel_step hr _ _ (by omega), by simp [upd]⟩, by simp [intOf]⟩

theorem plus_any (m n : Nat) (h : m + n < 4294967296 ^ 6) (w : World) :
    Calls Tryz.prog 144 #[wv m, wv n] w fun e w' => e = .returned (wv (m + n)) ∧ Below w.heap.size w w' := by
  unfold wv
  refine (plus_raw (dg m) (dg n) (digs_dg m) (digs_dg n) w).mono fun e w' hh => ?_
  obtain ⟨z, c, rfl, hc0, hc1, hz, ⟨_, hr⟩, hb⟩ := hh
  refine ⟨?_, hb⟩
  have hm : m < 4294967296 ^ 6 := by omega
  have hn : n < 4294967296 ^ 6 := by omega
  rw [sm_dg6 m hm, sm_dg6 n hn] at hr
  have hs := sm_nonneg hz 6
  exact ret_wv hz _ (by
    simp only [show (4294967296 : Int) ^ 6 = 6277101735386680763835789423207666416102355444464034512896 from by decide] at hr hs
    simp only [show 4294967296 ^ 6 = 6277101735386680763835789423207666416102355444464034512896 from by decide] at h
    omega)
end Go.Proofs.YtcafhmlpmbkhkaaGreatDoor.Mw
