/- Plain numbers: what Add, Sub, Neg, Mul answer. Nothing of the program. -/
import Derived.Test.YtddpladmkmpoaaaSumN
namespace Go.Proofs.Ytddpladmkmpoaaa
def two (a b : Int) : Nat → Int := fun i => if i = 0 then a else b
def addSpec (a b : Int) : Int × Int := sumSpec (two a b) 2
def isMin (a : Int) : Bool := a == -9223372036854775808
def subSpec (a b : Int) : Int × Int := if isMin a || isMin b then (0, 10) else addSpec a (-b)
def negSpec (a : Int) : Int × Int := if isMin a then (0, 10) else (-a, 0)
def mulSpec (a n : Int) : Int × Int := if isMin a || isMin n then (0, 10) else if -9223372036854775808 < a * n ∧ a * n < 9223372036854775808 then (a * n, 0) else (0, 11)
def chkSpec (a : Int) : Int := if isMin a then 10 else 0

theorem isMin_yes {a : Int} (h : a = -9223372036854775808) : isMin a = true := by simp [isMin, h]
theorem isMin_no {a : Int} (h : ¬ a = -9223372036854775808) : isMin a = false := by simp [isMin, h]
theorem two_any (a b : Int) : anyMin (two a b) 2 = (isMin a || isMin b) := by simp [anyMin, two, isMin]
theorem two_sum (a b : Int) : sumZ (two a b) 2 = a + b := by simp [sumZ, two]
theorem addSpec_is (a b : Int) : addSpec a b = if isMin a || isMin b then (0, 10) else if -9223372036854775808 < a + b ∧ a + b < 9223372036854775808 then (a + b, 0) else (0, 11) := by
  unfold addSpec sumSpec
  rw [two_any, two_sum]
theorem addSpec_bad (a b : Int) (h : isMin a = true ∨ isMin b = true) : addSpec a b = (0, 10) := by
  rw [addSpec_is]
  rcases h with h | h <;> simp [h]
theorem addSpec_fits (a b : Int) (ha : isMin a = false) (hb : isMin b = false) (h1 : -9223372036854775808 < a + b) (h2 : a + b < 9223372036854775808) : addSpec a b = (a + b, 0) := by
  rw [addSpec_is]
  simp [ha, hb, h1, h2]
theorem addSpec_over (a b : Int) (ha : isMin a = false) (hb : isMin b = false) (h : ¬ (-9223372036854775808 < a + b ∧ a + b < 9223372036854775808)) : addSpec a b = (0, 11) := by
  rw [addSpec_is]
  simp [ha, hb, h]

/-- a product's size -/
theorem natAbs_mul (a n : Int) : (a * n).natAbs = a.natAbs * n.natAbs := Int.natAbs_mul a n
theorem mul_sign (a n : Int) : a * n = if (decide (a < 0) != decide (n < 0)) then -((a.natAbs * n.natAbs : Nat) : Int) else ((a.natAbs * n.natAbs : Nat) : Int) := by
  rw [Int.natCast_mul]
  by_cases ha : a < 0 <;> by_cases hn : n < 0
  · have e1 : ((a.natAbs : Nat) : Int) = -a := by omega
    have e2 : ((n.natAbs : Nat) : Int) = -n := by omega
    simp only [ha, hn, e1, e2, bne_self_eq_false, Bool.false_eq_true, if_false, Int.neg_mul_neg]
  · have e1 : ((a.natAbs : Nat) : Int) = -a := by omega
    have e2 : ((n.natAbs : Nat) : Int) = n := by omega
    simp [ha, hn, e1, e2, Int.neg_mul]
  · have e1 : ((a.natAbs : Nat) : Int) = a := by omega
    have e2 : ((n.natAbs : Nat) : Int) = -n := by omega
    simp [ha, hn, e1, e2, Int.mul_neg]
  · have e1 : ((a.natAbs : Nat) : Int) = a := by omega
    have e2 : ((n.natAbs : Nat) : Int) = n := by omega
    simp [ha, hn, e1, e2]
theorem mulSpec_bad (a n : Int) (h : isMin a = true ∨ isMin n = true) : mulSpec a n = (0, 10) := by
  unfold mulSpec
  rcases h with h | h <;> simp [h]
/-- by sizes and signs -/
theorem mulSpec_fits (a n : Int) (s : Bool) (ha : isMin a = false) (hn : isMin n = false) (h : a.natAbs * n.natAbs < 9223372036854775808) (hs : (decide (a < 0) != decide (n < 0)) = s) : mulSpec a n = (if s then -((a.natAbs * n.natAbs : Nat) : Int) else ((a.natAbs * n.natAbs : Nat) : Int), 0) := by
  unfold mulSpec
  have e := mul_sign a n
  rw [hs] at e
  rw [ha, hn, e]
  generalize a.natAbs * n.natAbs = M at *
  cases s
  · simp only [Bool.or_self, Bool.false_eq_true, if_false]
    rw [if_pos (by omega)]
  · simp only [Bool.or_self, Bool.false_eq_true, if_false, if_true]
    rw [if_pos (by omega)]
theorem mulSpec_over (a n : Int) (ha : isMin a = false) (hn : isMin n = false) (h : 9223372036854775808 ≤ a.natAbs * n.natAbs) : mulSpec a n = (0, 11) := by
  unfold mulSpec
  have e := mul_sign a n
  rw [ha, hn, e]
  generalize a.natAbs * n.natAbs = M at *
  cases (decide (a < 0) != decide (n < 0))
  · simp only [Bool.or_self, Bool.false_eq_true, if_false]
    rw [if_neg (by omega)]
  · simp only [Bool.or_self, Bool.false_eq_true, if_false, if_true]
    rw [if_neg (by omega)]
end Go.Proofs.Ytddpladmkmpoaaa
