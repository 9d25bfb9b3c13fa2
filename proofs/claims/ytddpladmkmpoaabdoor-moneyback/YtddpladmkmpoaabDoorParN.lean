/- Plain lists of bytes: what an amount's text says. Nothing of the program. -/
import GoSem.Claim
import Derived.Lib.ParseIntBCases
import Derived.Lib.CutLaws
namespace Go.Proofs.YtddpladmkmpoaabDoor
def isDig (c : UInt8) : Bool := decide (48 ≤ c.toNat) && decide (c.toNat ≤ 57)
def dstep (v : Nat) (c : UInt8) : Nat := v * 10 + (c.toNat - 48)
theorem dstep_eq (v : Nat) (c : UInt8) : dstep v c = v * 10 + (c.toNat - 48) := by unfold dstep; rfl
def decFrom (v : Nat) (l : List UInt8) : Nat := l.foldl dstep v
abbrev cutP (u : List UInt8) : List UInt8 × List UInt8 × Bool := Lib.cut u [46]
theorem cut_nil : cutP [] = ([], [], false) := by decide
theorem cut_dot (r : List UInt8) : cutP (46 :: r) = ([], r, true) := by
  have e : Lib.index (46 :: r) [46] = 0 := by simp [Lib.index]
  unfold cutP Lib.cut
  rw [e]
  rfl
theorem cut_other {c : UInt8} (h : ¬ c = 46) (r : List UInt8) : cutP (c :: r) = (c :: (cutP r).1, (cutP r).2.1, (cutP r).2.2) := by
  have e : Lib.index (c :: r) [46] = if Lib.index r [46] == -1 then -1 else Lib.index r [46] + 1 := by
    have : ¬ ([46] : List UInt8).isPrefixOf (c :: r) = true := by simp [List.isPrefixOf]; intro e; exact absurd e.symm h
    simp [Lib.index]
    intro e; exact absurd e.symm h
  have hg := Lib.index_ge r [46]
  unfold cutP Lib.cut
  rw [e]
  by_cases hi : Lib.index r [46] = -1
  · rw [hi]; rfl
  · have h0 : 0 ≤ Lib.index r [46] := by omega
    have hb : (Lib.index r [46] == -1) = false := by simpa using hi
    rw [hb]
    simp only [Bool.false_eq_true, if_false, if_pos h0, if_pos (show 0 ≤ Lib.index r [46] + 1 by omega)]
    have e1 : (Lib.index r [46] + 1).toNat = (Lib.index r [46]).toNat + 1 := by omega
    rw [e1]
    simp only [List.take_succ_cons, List.length_cons, List.length_nil]
    rw [show (Lib.index r [46]).toNat + 1 + (0 + 1) = ((Lib.index r [46]).toNat + (0 + 1)) + 1 by omega]
    rfl
/-- what the document's loop does -/
def scan (D : Nat) : List UInt8 → Nat → Nat → Int → Option (Nat × Nat × Int)
  | [], v, w, b => some (v, w, b)
  | c :: r, v, w, b =>
    if c = 46 ∧ b < 0 ∧ 0 < D then scan D r v w 0
    else if isDig c then scan D r (v * 10 + (c.toNat - 48)) (if b < 0 then w + 1 else w) (if b < 0 then b else b + 1)
    else none
def fin (D : Nat) : Option (Nat × Nat × Int) → Option Nat
  | none => none
  | some (v, w, b) => if w = 0 ∨ b = 0 ∨ (D : Int) < b then none else some (v * 10 ^ (D - b.toNat))
theorem scan_nil (D v w : Nat) (b : Int) : scan D [] v w b = some (v, w, b) := rfl
theorem scan_cons (D : Nat) (c : UInt8) (r : List UInt8) (v w : Nat) (b : Int) : scan D (c :: r) v w b = if c = 46 ∧ b < 0 ∧ 0 < D then scan D r v w 0
    else if isDig c then scan D r (v * 10 + (c.toNat - 48)) (if b < 0 then w + 1 else w) (if b < 0 then b else b + 1) else none := rfl
theorem decFrom_nil (v : Nat) : decFrom v [] = v := rfl
theorem decFrom_cons (v : Nat) (c : UInt8) (r : List UInt8) : decFrom v (c :: r) = decFrom (v * 10 + (c.toNat - 48)) r := by unfold decFrom; rw [List.foldl_cons, dstep_eq]
theorem fin_none (D : Nat) : fin D none = none := rfl
theorem fin_some (D v w : Nat) (b : Int) : fin D (some (v, w, b)) = if w = 0 ∨ b = 0 ∨ (D : Int) < b then none else some (v * 10 ^ (D - b.toNat)) := rfl
theorem dig46 : isDig 46 = false := by decide
theorem scan_pos (D : Nat) (l : List UInt8) : ∀ (v w b : Nat), fin D (scan D l v w b) = if l.all isDig ∧ ¬ w = 0 ∧ ¬ b + l.length = 0 ∧ b + l.length ≤ D then some (decFrom v l * 10 ^ (D - (b + l.length))) else none := by
  induction l with
  | nil =>
    intro v w b
    rw [scan_nil, fin_some, decFrom_nil, Int.toNat_natCast, List.length_nil, Nat.add_zero]
    by_cases h : w = 0 ∨ (b : Int) = 0 ∨ (D : Int) < b
    · rw [if_pos h, if_neg (by omega)]
    · rw [if_neg h, if_pos (by refine ⟨rfl, ?_⟩; omega)]
  | cons c r ih =>
    intro v w b
    have h1 : ¬ (c = 46 ∧ (b : Int) < 0 ∧ 0 < D) := by omega
    have h2 : ¬ (b : Int) < 0 := by omega
    rw [scan_cons, if_neg h1, if_neg h2, if_neg h2]
    by_cases hd : isDig c = true
    · rw [if_pos hd]
      have e := ih (v * 10 + (c.toNat - 48)) w (b + 1)
      rw [show (((b + 1 : Nat) : Int)) = (b : Int) + 1 by omega] at e
      rw [e, List.all_cons, hd, Bool.true_and, List.length_cons, decFrom_cons, show b + 1 + r.length = b + (r.length + 1) by omega]
    · rw [if_neg hd, fin_none]
      have : (List.all (c :: r) isDig) = false := by simp [hd]
      rw [this, if_neg]
      rintro ⟨h, _⟩
      cases h
/-- may it be an amount's text, and which number is it without its point? -/
def pN (D : Nat) (u : List UInt8) : Option Nat :=
  if ((cutP u).1.all isDig ∧ ¬ (cutP u).1.length = 0) ∧ ((cutP u).2.2 = true → (cutP u).2.1.all isDig ∧ ¬ (cutP u).2.1.length = 0) ∧ (cutP u).2.1.length ≤ D
  then some (decFrom 0 ((cutP u).1 ++ (cutP u).2.1) * 10 ^ (D - (cutP u).2.1.length)) else none
theorem if_iff {p q : Prop} [Decidable p] [Decidable q] {α} {a b : α} (h : p ↔ q) : (if p then a else b) = if q then a else b := by
  by_cases hp : p
  · rw [if_pos hp, if_pos (h.1 hp)]
  · rw [if_neg hp, if_neg (fun hq => hp (h.2 hq))]
theorem scan_neg (D : Nat) (l : List UInt8) : ∀ (v w : Nat), fin D (scan D l v w (-1)) =
    if ((cutP l).1.all isDig ∧ ¬ w + (cutP l).1.length = 0) ∧ ((cutP l).2.2 = true → (cutP l).2.1.all isDig ∧ ¬ (cutP l).2.1.length = 0) ∧ (cutP l).2.1.length ≤ D
    then some (decFrom v ((cutP l).1 ++ (cutP l).2.1) * 10 ^ (D - (cutP l).2.1.length)) else none := by
  induction l with
  | nil =>
    intro v w
    rw [cut_nil, scan_nil, fin_some, List.append_nil, decFrom_nil]
    by_cases h : w = 0
    · rw [if_pos (.inl h), if_neg]
      rintro ⟨⟨_, h'⟩, _⟩
      exact h' h
    · rw [if_neg (by omega), if_pos ⟨⟨rfl, by simpa using h⟩, fun h => (Bool.noConfusion h), Nat.zero_le _⟩]
      rfl
  | cons c r ih =>
    intro v w
    by_cases hc : c = 46
    · subst hc
      rw [cut_dot, scan_cons]
      by_cases hD : 0 < D
      · have h1 : ((46 : UInt8) = 46 ∧ (-1 : Int) < 0 ∧ 0 < D) := ⟨rfl, by decide, hD⟩
        rw [if_pos h1]
        have e := scan_pos D r v w 0
        rw [show (((0 : Nat) : Int)) = (0 : Int) from rfl] at e
        rw [e, Nat.zero_add, List.nil_append]
        refine if_iff ?_
        constructor
        · rintro ⟨a, b, c, d⟩
          exact ⟨⟨rfl, b⟩, fun _ => ⟨a, c⟩, d⟩
        · rintro ⟨⟨_, b⟩, h, d⟩
          exact ⟨(h rfl).1, b, (h rfl).2, d⟩
      · have h1 : ¬ ((46 : UInt8) = 46 ∧ (-1 : Int) < 0 ∧ 0 < D) := by rintro ⟨_, _, h⟩; exact hD h
        rw [if_neg h1, dig46, if_neg (by decide), fin_none, if_neg]
        rintro ⟨_, h, d⟩
        have h' := (h rfl).2
        exact h' (by omega)
    · have h1 : ¬ (c = 46 ∧ (-1 : Int) < 0 ∧ 0 < D) := by rintro ⟨h, _⟩; exact hc h
      have h2 : (-1 : Int) < 0 := by decide
      rw [cut_other hc, scan_cons, if_neg h1, if_pos h2, if_pos h2]
      by_cases hd : isDig c = true
      · rw [if_pos hd, ih]
        simp only [List.all_cons, hd, Bool.true_and, List.length_cons, List.cons_append, show w + 1 + (cutP r).1.length = w + ((cutP r).1.length + 1) by omega]
        rw [decFrom_cons]
      · rw [if_neg hd, fin_none, if_neg]
        rintro ⟨⟨h, _⟩, _⟩
        simp [hd] at h
theorem scan_pN (D : Nat) (u : List UInt8) : fin D (scan D u 0 0 (-1)) = pN D u := by
  rw [scan_neg]
  simp only [Nat.zero_add]
  rfl
def minusB (t : List UInt8) : Bool := t.head? == some 45
def unsg (t : List UInt8) : List UInt8 := if minusB t then t.tail else t
/-- the answer of Parse at a text that is not too long and digits that may be -/
def parSpec (t : List UInt8) (D : Nat) : Int × Int :=
  match pN D (unsg t) with
  | none => (0, 12)
  | some n => if n < 9223372036854775808 then (if minusB t then -(n : Int) else n, 0) else (0, 11)
/-- numbers of so many digits -/
theorem decFrom_lt (l : List UInt8) : ∀ (v : Nat), l.all isDig = true → decFrom v l < (v + 1) * 10 ^ l.length := by
  induction l with
  | nil => intro v _; rw [decFrom_nil, List.length_nil, Nat.pow_zero]; omega
  | cons c r ih =>
    intro v h
    rw [List.all_cons, Bool.and_eq_true] at h
    have e := ih (v * 10 + (c.toNat - 48)) h.2
    have hc : c.toNat ≤ 57 := by have := h.1; simp [isDig] at this; exact this.2
    rw [decFrom_cons, List.length_cons]
    refine Nat.lt_of_lt_of_le e ?_
    rw [Nat.pow_succ, show (v + 1) * (10 ^ r.length * 10) = ((v + 1) * 10) * 10 ^ r.length by rw [Nat.mul_comm (10 ^ r.length) 10, Nat.mul_assoc]]
    exact Nat.mul_le_mul_right _ (by omega)
theorem decFrom_app (l m : List UInt8) : ∀ (v : Nat), decFrom v (l ++ m) = decFrom (decFrom v l) m := by
  induction l with
  | nil => intro v; rfl
  | cons c r ih => intro v; rw [List.cons_append, decFrom_cons, decFrom_cons, ih]
theorem decFrom_zeros (n : Nat) : ∀ (v : Nat), decFrom v (List.replicate n 48) = v * 10 ^ n := by
  induction n with
  | zero => intro v; rw [List.replicate_zero, decFrom_nil, Nat.pow_zero, Nat.mul_one]
  | succ n ih =>
    intro v
    rw [List.replicate_succ, decFrom_cons, show (48 : UInt8).toNat - 48 = 0 from rfl, ih, Nat.pow_succ, Nat.add_zero, Nat.mul_assoc, Nat.mul_comm 10]
theorem decFrom_mono (l : List UInt8) : ∀ (v : Nat), v ≤ decFrom v l := by
  induction l with
  | nil => intro v; exact Nat.le_refl v
  | cons c r ih =>
    intro v
    rw [decFrom_cons]
    have := ih (v * 10 + (c.toNat - 48))
    omega
theorem parseM_cons (M acc : Nat) (c : UInt8) (r : List UInt8) : Lib.parseUintM M acc (c :: r) = if 48 ≤ c.toNat ∧ c.toNat ≤ 57 then (if 1844674407370955162 ≤ acc then .range else if M < acc * 10 + (c.toNat - 48) then .range else Lib.parseUintM M (acc * 10 + (c.toNat - 48)) r) else .syntax := rfl
/-- the library's reading of decimal digits alone -/
theorem parseM (M : Nat) (hM : M = 18446744073709551615) (l : List UInt8) : ∀ (acc : Nat), l.all isDig = true → acc ≤ M →
    Lib.parseUintM M acc l = if decFrom acc l ≤ M then .ok (decFrom acc l) else .range := by
  induction l with
  | nil => intro acc _ h; rw [decFrom_nil, if_pos h]; rfl
  | cons c r ih =>
    intro acc h ha
    rw [List.all_cons, Bool.and_eq_true] at h
    have hc : 48 ≤ c.toNat ∧ c.toNat ≤ 57 := by have := h.1; simp [isDig] at this; exact this
    have hm := decFrom_mono r (acc * 10 + (c.toNat - 48))
    rw [parseM_cons, if_pos hc, decFrom_cons]
    by_cases h1 : 1844674407370955162 ≤ acc
    · rw [if_pos h1, if_neg (by omega)]
    · rw [if_neg h1]
      by_cases h2 : M < acc * 10 + (c.toNat - 48)
      · rw [if_pos h2, if_neg (by omega)]
      · rw [if_neg h2, ih _ h.2 (by omega)]
theorem parseI {l : List UInt8} (h : l.all isDig = true) (hne : ¬ l.length = 0) : Lib.parseIntB 64 l = if decFrom 0 l < 9223372036854775808 then .ok (decFrom 0 l : Int) else .range := by
  cases l with
  | nil => exact absurd rfl hne
  | cons c r =>
    have hc : 48 ≤ c.toNat ∧ c.toNat ≤ 57 := by simp only [List.all_cons, Bool.and_eq_true] at h; have := h.1; simp [isDig] at this; exact this
    rw [Lib.parseIntB_plain 64 c r (by omega) (by omega)]
    have e : Lib.parseUintB 64 (c :: r) = if decFrom 0 (c :: r) ≤ 18446744073709551615 then .ok (decFrom 0 (c :: r)) else .range := by
      unfold Lib.parseUintB
      rw [if_neg (by simp)]
      exact parseM _ rfl (c :: r) 0 h (by decide)
    rw [e]
    generalize decFrom 0 (c :: r) = n
    by_cases h1 : n ≤ 18446744073709551615
    · rw [if_pos h1]
      unfold Lib.signlessC
      by_cases h2 : n < 9223372036854775808
      · rw [if_pos h2]
        simp [show ¬ (9223372036854775808 ≤ n) by omega]
      · rw [if_neg h2]
        simp [show (9223372036854775808 ≤ n) by omega]
    · rw [if_neg h1, if_neg (by omega)]
      rfl
end Go.Proofs.YtddpladmkmpoaabDoor
