import Derived.Test.YtjipemnphpnmiaaDoorPbA
namespace Go.Proofs.YtjipemnphpnmiaaDoor
set_option linter.unusedVariables false
theorem bl_ch {a b : Nat} {x y : List UInt8} (ha : a < 10) (hb : b < 10) : Op.bytesLess (ch a :: x) (ch b :: y) = (decide (a < b) || (decide (a = b) && Op.bytesLess x y)) := by
  have e1 := ch_nat a ha
  have e2 := ch_nat b hb
  have h1 : (ch a < ch b) ↔ a < b := by rw [UInt8.lt_iff_toNat_lt, e1, e2]; omega
  have h2 : (ch a == ch b) = decide (a = b) := by
    rw [Bool.eq_iff_iff, beq_iff_eq, decide_eq_true_iff]
    constructor
    · intro h
      have := congrArg UInt8.toNat h
      omega
    · intro h
      rw [h]
  rw [Op.bytesLess, h2]
  simp only [h1]
theorem bl_eq (c : UInt8) (x y : List UInt8) : Op.bytesLess (c :: x) (c :: y) = Op.bytesLess x y := by
  rw [Op.bytesLess]
  simp
theorem bl_p4 {a b : Nat} {x y : List UInt8} (ha : a < 10000) (hb : b < 10000) : Op.bytesLess (p4 a ++ x) (p4 b ++ y) = (decide (a < b) || (decide (a = b) && Op.bytesLess x y)) := by
  unfold p4
  simp only [List.cons_append, List.nil_append]
  rw [bl_ch (by omega) (by omega), bl_ch (by omega) (by omega), bl_ch (by omega) (by omega), bl_ch (by omega) (by omega)]
  generalize Op.bytesLess x y = B
  rw [Bool.eq_iff_iff]
  cases B <;> simp <;> omega
theorem bl_p2 {a b : Nat} {x y : List UInt8} (ha : a < 100) (hb : b < 100) : Op.bytesLess (p2 a ++ x) (p2 b ++ y) = (decide (a < b) || (decide (a = b) && Op.bytesLess x y)) := by
  unfold p2
  simp only [List.cons_append, List.nil_append]
  rw [bl_ch (by omega) (by omega), bl_ch (by omega) (by omega)]
  generalize Op.bytesLess x y = B
  rw [Bool.eq_iff_iff]
  cases B <;> simp <;> omega
theorem bl_tx {y m d y' m' d' : Nat} (h1 : y < 10000) (h2 : y' < 10000) (h3 : m < 100) (h4 : m' < 100) (h5 : d < 100) (h6 : d' < 100) :
    Op.bytesLess (⟨(tx y m d).toArray⟩ : ByteArray).toList (⟨(tx y' m' d').toArray⟩ : ByteArray).toList = (decide (y < y') || (decide (y = y') && (decide (m < m') || (decide (m = m') && decide (d < d'))))) := by
  rw [ByteArray.toList_eq, ByteArray.toList_eq]
  show Op.bytesLess (tx y m d) (tx y' m' d') = _
  unfold tx
  simp only [List.append_assoc]
  rw [bl_p4 h1 h2]
  simp only [List.cons_append, List.nil_append]
  rw [bl_eq, bl_p2 h3 h4, bl_eq]
  have e := bl_p2 (x := []) (y := []) h5 h6
  rw [List.append_nil, List.append_nil] at e
  rw [e, Op.bytesLess]
  simp
end Go.Proofs.YtjipemnphpnmiaaDoor
