import Derived.Test.YtddpladmkmpoaabDoorTxtA
namespace Go.Proofs.YtddpladmkmpoaabDoor
open Go.ChangeShapes Go.WideShapes Go.ChangeAt Go.RowKit
set_option linter.unusedVariables false

/-- a digit's byte -/
def ch (c : Nat) : UInt8 := UInt8.ofNat (48 + c)
/-- a text's length -/
def szOf : Value → Nat | .string t => t.size | _ => 0
theorem bapp (a b : List UInt8) : (⟨a.toArray⟩ : ByteArray) ++ ⟨b.toArray⟩ = ⟨(a ++ b).toArray⟩ := by
  apply ByteArray.ext
  simp [ByteArray.data_append]
/-- at least so many digits -/
def dmin : Nat → Nat → Nat → List UInt8
  | 0, _, _ => []
  | f + 1, v, l => if 0 < v ∨ 0 < l then dmin f (v / 10) (l - 1) ++ [ch (v % 10)] else []

theorem dmin_go {f v l : Nat} (h : 0 < v ∨ 0 < l) : dmin (f + 1) v l = dmin f (v / 10) (l - 1) ++ [ch (v % 10)] := by simp [dmin, h]
theorem dmin_end {f v l : Nat} (h : ¬ (0 < v ∨ 0 < l)) : dmin f v l = [] := by
  cases f with
  | zero => rfl
  | succ f => simp [dmin, h]
theorem bal {w W : World} (h : Below w.heap.size w W) (o : Obj) : Below w.heap.size w (W.alloc o) := h.alloc h.size o

structure DigAt (v least k x : Nat) (s : List UInt8) : Prop where
  len : s.length = k
  xv : x = v / 10 ^ k
  all : dmin 40 v least = dmin (40 - k) x (least - k) ++ s
theorem DigAt.small {v least k x : Nat} {s : List UInt8} (h : DigAt v least k x s) (hv : v ≤ 9223372036854775807) (hx : 0 < x) : k ≤ 18 := by
  by_cases hk : k ≤ 18
  · exact hk
  · have h1 : 10 ^ 19 ≤ 10 ^ k := Nat.pow_le_pow_right (by decide) (by omega)
    have h2 : v < 10 ^ k := by omega
    rw [h.xv, Nat.div_eq_of_lt h2] at hx
    omega
theorem DigAt.step {v least k x : Nat} {s : List UInt8} (h : DigAt v least k x s) (hk : k < 40) (hg : 0 < x ∨ k < least) : DigAt v least (k + 1) (x / 10) (ch (x % 10) :: s) := by
  refine ⟨by simp [h.len], by rw [h.xv, Nat.pow_succ, Nat.div_div_eq_div_mul], ?_⟩
  have e : 40 - k = (40 - (k + 1)) + 1 := by omega
  rw [h.all, e, dmin_go (by omega), List.append_assoc, show least - k - 1 = least - (k + 1) by omega]
  rfl

theorem retS {a b : ByteArray} (h : a = b) : Ending.returned (.string a) = .returned (.string b) := by rw [h]
end Go.Proofs.YtddpladmkmpoaabDoor
