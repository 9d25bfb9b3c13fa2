import GoSem.Claim
import Derived.Test.YtcafhmlpmbkhkaaGreatDoorProg
import Derived.WalkKit
import Derived.ProofKit
import Derived.OpenShut
import Derived.WalkLawsBesides
import Derived.BigCall
import Derived.BigQuiet
import Derived.Deep.QuietTactic
import Derived.Laws.BitsAll
import Derived.Below
import Derived.Lib.Bytes
/- Plain numbers: the sums of a list, above and below 0. Nothing of the program. -/
namespace Go.Proofs.YtcafhmlpmbkhkaaGreatDoor

def sumZ (zs : Nat → Int) : Nat → Int
  | 0 => 0
  | k + 1 => sumZ zs k + zs k
def upN (zs : Nat → Int) : Nat → Nat
  | 0 => 0
  | k + 1 => upN zs k + (if 0 ≤ zs k then (zs k).natAbs else 0)
def dnN (zs : Nat → Int) : Nat → Nat
  | 0 => 0
  | k + 1 => dnN zs k + (if 0 ≤ zs k then 0 else (zs k).natAbs)
def anyMin (zs : Nat → Int) : Nat → Bool
  | 0 => false
  | k + 1 => anyMin zs k || zs k == -9223372036854775808
/-- the document's answer of Sum: the sum and its error -/
def sumSpec (zs : Nat → Int) (len : Nat) : Int × Int :=
  if anyMin zs len then (0, 10)
  else if -9223372036854775808 < sumZ zs len ∧ sumZ zs len < 9223372036854775808 then (sumZ zs len, 0) else (0, 11)

theorem upN_pos {zs : Nat → Int} {k : Nat} (h : 0 ≤ zs k) : upN zs (k + 1) = upN zs k + (zs k).natAbs := by simp [upN, h]
theorem upN_neg {zs : Nat → Int} {k : Nat} (h : ¬ 0 ≤ zs k) : upN zs (k + 1) = upN zs k := by simp [upN, h]
theorem dnN_pos {zs : Nat → Int} {k : Nat} (h : 0 ≤ zs k) : dnN zs (k + 1) = dnN zs k := by simp [dnN, h]
theorem dnN_neg {zs : Nat → Int} {k : Nat} (h : ¬ 0 ≤ zs k) : dnN zs (k + 1) = dnN zs k + (zs k).natAbs := by simp [dnN, h]

theorem up_dn (zs : Nat → Int) : ∀ k, (upN zs k : Int) - dnN zs k = sumZ zs k
  | 0 => rfl
  | k + 1 => by
    have := up_dn zs k
    by_cases h : 0 ≤ zs k
    · rw [upN_pos h, dnN_pos h]; simp only [sumZ]; omega
    · rw [upN_neg h, dnN_neg h]; simp only [sumZ]; omega

theorem up_dn_bd (zs : Nat → Int) (len : Nat) (hz : ∀ k, k < len → -9223372036854775808 ≤ zs k ∧ zs k ≤ 9223372036854775807) : ∀ k, k ≤ len → upN zs k ≤ k * 9223372036854775808 ∧ dnN zs k ≤ k * 9223372036854775808
  | 0, _ => by simp [upN, dnN]
  | k + 1, hk => by
    have h1 := up_dn_bd zs len hz k (by omega)
    have h2 := hz k (by omega)
    have h3 : (zs k).natAbs ≤ 9223372036854775808 := by omega
    have h4 : (k + 1) * 9223372036854775808 = k * 9223372036854775808 + 9223372036854775808 := Nat.succ_mul _ _
    rw [h4]
    clear h2 hz h4
    generalize k * 9223372036854775808 = K at *
    by_cases h : 0 ≤ zs k
    · rw [upN_pos h, dnN_pos h]
      exact ⟨Nat.add_le_add h1.1 h3, Nat.le_trans h1.2 (Nat.le_add_right _ _)⟩
    · rw [upN_neg h, dnN_neg h]
      exact ⟨Nat.le_trans h1.1 (Nat.le_add_right _ _), Nat.add_le_add h1.2 h3⟩

theorem anyMin_mono (zs : Nat → Int) (k : Nat) (h : anyMin zs k = true) : ∀ j, k ≤ j → anyMin zs j = true
  | 0, hj => by
    have : k = 0 := by omega
    subst this
    exact h
  | j + 1, hj => by
    by_cases e : k = j + 1
    · subst e; exact h
    · have := anyMin_mono zs k h j (by omega)
      simp [anyMin, this]

theorem anyMin_ext {zs ys : Nat → Int} (n : Nat) (h : ∀ i, i < n → zs i = ys i) : anyMin zs n = anyMin ys n := by
  induction n with
  | zero => rfl
  | succ n ih => simp only [anyMin, ih (fun i hi => h i (by omega)), h n (by omega)]
theorem sumZ_ext {zs ys : Nat → Int} (n : Nat) (h : ∀ i, i < n → zs i = ys i) : sumZ zs n = sumZ ys n := by
  induction n with
  | zero => rfl
  | succ n ih => simp only [sumZ, ih (fun i hi => h i (by omega)), h n (by omega)]
theorem sumSpec_ext {zs ys : Nat → Int} (n : Nat) (h : ∀ i, i < n → zs i = ys i) : sumSpec zs n = sumSpec ys n := by
  simp only [sumSpec, anyMin_ext n h, sumZ_ext n h]

theorem sumSpec_bad {zs : Nat → Int} {len k : Nat} (hk : k < len) (hb : zs k = -9223372036854775808) : sumSpec zs len = (0, 10) := by
  have h1 : anyMin zs (k + 1) = true := by simp [anyMin, hb]
  have h2 := anyMin_mono zs (k + 1) h1 len (by omega)
  simp [sumSpec, h2]
theorem sumSpec_fits {zs : Nat → Int} {len : Nat} (h : anyMin zs len = false) (h1 : -9223372036854775808 < sumZ zs len) (h2 : sumZ zs len < 9223372036854775808) : sumSpec zs len = (sumZ zs len, 0) := by
  simp [sumSpec, h, h1, h2]
theorem sumSpec_over {zs : Nat → Int} {len : Nat} (h : anyMin zs len = false) (h1 : ¬ (-9223372036854775808 < sumZ zs len ∧ sumZ zs len < 9223372036854775808)) : sumSpec zs len = (0, 11) := by
  simp [sumSpec, h, h1]
theorem anyMin_step {zs : Nat → Int} {k : Nat} (h : anyMin zs k = false) (hk : ¬ zs k = -9223372036854775808) : anyMin zs (k + 1) = false := by
  simp [anyMin, h, hk]

/-- the sum of less than 2^63 numbers, in six words -/
theorem room (zs : Nat → Int) (len : Nat) (hl : len ≤ 9223372036854775807) (hz : ∀ k, k < len → -9223372036854775808 ≤ zs k ∧ zs k ≤ 9223372036854775807) (k : Nat) (hk : k ≤ len) : upN zs k < 340282366920938463463374607431768211456 ∧ dnN zs k < 340282366920938463463374607431768211456 := by
  have h := up_dn_bd zs len hz k hk
  have : k * 9223372036854775808 ≤ 9223372036854775807 * 9223372036854775808 := Nat.mul_le_mul_right _ (by omega)
  omega
end Go.Proofs.YtcafhmlpmbkhkaaGreatDoor
/- names: which bytes (166, 170, 174, 171, 167, 158, 162), texts byte by byte (157), keys, tags, memos, parts (149, 161, 152, 155). -/
namespace Go.Proofs.YtcafhmlpmbkhkaaGreatDoor
open Go Go.ChangeShapes Go.WideShapes Go.ChangeAt Go.RowKit
set_option linter.unusedVariables false
theorem hide {p : Prop} (h : p) : Hid p := h
theorem unhide {p : Prop} (h : Hid p) : p := h
def upB (c : Nat) : Bool := decide (65 ≤ c) && decide (c ≤ 90)
def loB (c : Nat) : Bool := decide (97 ≤ c) && decide (c ≤ 122)
def dgB (c : Nat) : Bool := decide (48 ≤ c) && decide (c ≤ 57)
def tagB (c : Nat) : Bool := loB c || dgB c || decide (c = 45)
def partB (c : Nat) : Bool := upB c || tagB c
def keyB (c : Nat) : Bool := partB c || decide (c = 95) || decide (c = 46)
def memoB (c : Nat) : Bool := decide (32 ≤ c) && decide (c ≤ 126) && !decide (c = 34)

theorem isUpper_any (c : Nat) (w : World) : Calls Tryz.prog 251 #[.int .u8 (c : Int)] w fun e w' => e = .returned (.bool (upB c)) ∧ w' = w := by
  unfold upB
  by_cases h1 : 65 ≤ c
  · have i1 : (65 : Int) ≤ (c : Int) := by omega
    by_cases h2 : c ≤ 90
    · have i2 : (c : Int) ≤ 90 := by omega
      go_enter Tryz.func251, Tryz.ntmps251
      go_wp2_with fail
      go_ret
      exact ⟨by simp_all, rfl⟩
    · have i2 : ¬ (c : Int) ≤ 90 := by omega
      go_enter Tryz.func251, Tryz.ntmps251
      go_wp2_with fail
      go_ret
      exact ⟨by simp_all, rfl⟩
  · have i1 : ¬ (65 : Int) ≤ (c : Int) := by omega
    go_enter Tryz.func251, Tryz.ntmps251
    go_wp2_with fail
    go_ret
    exact ⟨by simp_all, rfl⟩
theorem isLower_any (c : Nat) (w : World) : Calls Tryz.prog 310 #[.int .u8 (c : Int)] w fun e w' => e = .returned (.bool (loB c)) ∧ w' = w := by
  unfold loB
  by_cases h1 : 97 ≤ c
  · have i1 : (97 : Int) ≤ (c : Int) := by omega
    by_cases h2 : c ≤ 122
    · have i2 : (c : Int) ≤ 122 := by omega
      go_enter Tryz.func310, Tryz.ntmps310
      go_wp2_with fail
      go_ret
      exact ⟨by simp_all, rfl⟩
    · have i2 : ¬ (c : Int) ≤ 122 := by omega
      go_enter Tryz.func310, Tryz.ntmps310
      go_wp2_with fail
      go_ret
      exact ⟨by simp_all, rfl⟩
  · have i1 : ¬ (97 : Int) ≤ (c : Int) := by omega
    go_enter Tryz.func310, Tryz.ntmps310
    go_wp2_with fail
    go_ret
    exact ⟨by simp_all, rfl⟩
theorem isDigit_any (c : Nat) (w : World) : Calls Tryz.prog 311 #[.int .u8 (c : Int)] w fun e w' => e = .returned (.bool (dgB c)) ∧ w' = w := by
  unfold dgB
  by_cases h1 : 48 ≤ c
  · have i1 : (48 : Int) ≤ (c : Int) := by omega
    by_cases h2 : c ≤ 57
    · have i2 : (c : Int) ≤ 57 := by omega
      go_enter Tryz.func311, Tryz.ntmps311
      go_wp2_with fail
      go_ret
      exact ⟨by simp_all, rfl⟩
    · have i2 : ¬ (c : Int) ≤ 57 := by omega
      go_enter Tryz.func311, Tryz.ntmps311
      go_wp2_with fail
      go_ret
      exact ⟨by simp_all, rfl⟩
  · have i1 : ¬ (48 : Int) ≤ (c : Int) := by omega
    go_enter Tryz.func311, Tryz.ntmps311
    go_wp2_with fail
    go_ret
    exact ⟨by simp_all, rfl⟩
set_option maxHeartbeats 1000000 in
theorem inTag_any (c : Nat) (w : World) : Calls Tryz.prog 287 #[.int .u8 (c : Int)] w fun e w' => e = .returned (.bool (tagB c)) ∧ w' = w := by
  have d0 := hide (isLower_any c)
  have d1 := hide (isDigit_any c)
  by_cases h0 : loB c = true
  · rw [h0] at d0
    have hf := hide (show tagB c = true from by unfold tagB; rw [h0]; rfl)
    go_enter Tryz.func287, Tryz.ntmps287
    go_wp2_with fail
    refine (unhide d0 w).mono ?_
    rintro e w1 ⟨rfl, hw⟩
    rw [hw]
    go_wp2_with fail
    go_ret
    exact ⟨by rw [unhide hf]; rfl, rfl⟩
  · have k0 : loB c = false := by simpa using h0
    rw [k0] at d0
    by_cases h1 : dgB c = true
    · rw [h1] at d1
      have hf := hide (show tagB c = true from by unfold tagB; rw [k0, h1]; rfl)
      go_enter Tryz.func287, Tryz.ntmps287
      go_wp2_with fail
      refine (unhide d0 w).mono ?_
      rintro e w1 ⟨rfl, hw⟩
      rw [hw]
      go_wp2_with fail
      refine (unhide d1 w).mono ?_
      rintro e w1 ⟨rfl, hw⟩
      rw [hw]
      go_wp2_with fail
      go_ret
      exact ⟨by rw [unhide hf]; rfl, rfl⟩
    · have k1 : dgB c = false := by simpa using h1
      rw [k1] at d1
      by_cases h2 : c = 45
      · subst h2
        go_enter Tryz.func287, Tryz.ntmps287
        go_wp2_with fail
        refine (unhide d0 w).mono ?_
        rintro e w1 ⟨rfl, hw⟩
        rw [hw]
        go_wp2_with fail
        refine (unhide d1 w).mono ?_
        rintro e w1 ⟨rfl, hw⟩
        rw [hw]
        go_wp2_with fail
        go_ret
        exact ⟨rfl, rfl⟩
      · have j2 : ((c : Int) == 45) = false := by simp; omega
        have hf := hide (show tagB c = false from by unfold tagB; rw [k0, k1, decide_eq_false h2]; rfl)
        go_enter Tryz.func287, Tryz.ntmps287
        go_wp2_with fail
        refine (unhide d0 w).mono ?_
        rintro e w1 ⟨rfl, hw⟩
        rw [hw]
        go_wp2_with fail
        refine (unhide d1 w).mono ?_
        rintro e w1 ⟨rfl, hw⟩
        rw [hw]
        go_wp2_with fail
        go_ret
        exact ⟨by rw [unhide hf]; rfl, rfl⟩
set_option maxHeartbeats 1000000 in
theorem inPart_any (c : Nat) (w : World) : Calls Tryz.prog 252 #[.int .u8 (c : Int)] w fun e w' => e = .returned (.bool (partB c)) ∧ w' = w := by
  have d0 := hide (isUpper_any c)
  have d1 := hide (inTag_any c)
  by_cases h0 : upB c = true
  · rw [h0] at d0
    have hf := hide (show partB c = true from by unfold partB; rw [h0]; rfl)
    go_enter Tryz.func252, Tryz.ntmps252
    go_wp2_with fail
    refine (unhide d0 w).mono ?_
    rintro e w1 ⟨rfl, hw⟩
    rw [hw]
    go_wp2_with fail
    go_ret
    exact ⟨by rw [unhide hf]; rfl, rfl⟩
  · have k0 : upB c = false := by simpa using h0
    rw [k0] at d0
    by_cases h1 : tagB c = true
    · rw [h1] at d1
      have hf := hide (show partB c = true from by unfold partB; rw [k0, h1]; rfl)
      go_enter Tryz.func252, Tryz.ntmps252
      go_wp2_with fail
      refine (unhide d0 w).mono ?_
      rintro e w1 ⟨rfl, hw⟩
      rw [hw]
      go_wp2_with fail
      refine (unhide d1 w).mono ?_
      rintro e w1 ⟨rfl, hw⟩
      rw [hw]
      go_wp2_with fail
      go_ret
      exact ⟨by rw [unhide hf]; rfl, rfl⟩
    · have k1 : tagB c = false := by simpa using h1
      rw [k1] at d1
      have hf := hide (show partB c = false from by unfold partB; rw [k0, k1]; rfl)
      go_enter Tryz.func252, Tryz.ntmps252
      go_wp2_with fail
      refine (unhide d0 w).mono ?_
      rintro e w1 ⟨rfl, hw⟩
      rw [hw]
      go_wp2_with fail
      refine (unhide d1 w).mono ?_
      rintro e w1 ⟨rfl, hw⟩
      rw [hw]
      go_wp2_with fail
      go_ret
      exact ⟨by rw [unhide hf]; rfl, rfl⟩
set_option maxHeartbeats 1000000 in
/-- each byte of a text is so -/
def allL (p : Nat → Bool) (s : ByteArray) : Bool := s.data.toList.all fun b => p b.toNat
theorem all_bad {p : Nat → Bool} {s : ByteArray} {k : Nat} (h : k < s.size) (hb : p (s[k]).toNat = false) : allL p s = false := by
  unfold allL
  rw [List.all_eq_false]
  refine ⟨s[k], ?_, by simp [hb]⟩
  have : s[k] = s.data.toList[k]'(by simpa using h) := by simp; rfl
  rw [this]
  exact List.getElem_mem _
theorem all_good {p : Nat → Bool} {s : ByteArray} (h : ∀ k (hk : k < s.size), p (s[k]).toNat = true) : allL p s = true := by
  unfold allL
  rw [List.all_eq_true]
  intro x hx
  obtain ⟨i, hi, rfl⟩ := List.getElem_of_mem hx
  have hi' : i < s.size := by simpa using hi
  have t : p (s.data[i]'hi').toNat = true := h i hi'
  simpa using t
set_option maxHeartbeats 1000000 in
set_option maxHeartbeats 1000000 in
set_option maxHeartbeats 1000000 in
set_option maxHeartbeats 1000000 in
theorem all_inPart (s : ByteArray) (hs : s.size ≤ 9223372036854775807) (w : World) : Calls Tryz.prog 207 #[.string s, .func (.func 252) #[] #[]] w fun e w' => e = .returned (.bool (allL partB s)) ∧ w' = w := by
  go_enter Tryz.func207, Tryz.ntmps207
  go_wp2_with fail
  go_loopw [8, 5] (fun vi v5 wr => ∃ k : Nat, k ≤ s.size ∧ vi = .int .i64 k ∧ (∀ j (hj : j < s.size), j < k → partB (s[j]).toNat = true) ∧ wr = w) (fun i _ _ => s.size - (RowKit.intOf i).toNat)
  case atStart => exact ⟨0, by omega, rfl, fun j hj h => by omega, rfl⟩
  case round =>
    obtain ⟨k, hk, rfl, hd, rfl⟩ := hrel
    have H := hide hd
    clear hd
    by_cases hlt : k < s.size
    · have hI : (k : Int) < (s.size : Int) := by omega
      have hI0 : (0 : Int) ≤ (k : Int) := by omega
      obtain ⟨B, hB⟩ : ∃ B : Nat, (s[k]).toNat = B := ⟨_, rfl⟩
      have HB := hide hB
      have HC := hide (inPart_any B)
      have HL := hide hlt
      by_cases hp : partB B = true
      · rw [hp] at HC
        go_wp2_with fail
        refine (unhide HC _).mono ?_
        rintro e w1 ⟨rfl, hw⟩
        rw [hw]
        go_wp2_with fail
        refine ⟨⟨k + 1, by omega, by go_num, ?_, trivial⟩, by simp [RowKit.intOf]; omega⟩
        intro j hj hjk
        by_cases e : j = k
        · subst e; rw [unhide HB]; exact hp
        · exact unhide H j hj (by omega)
      · have hp' : partB B = false := by simpa using hp
        rw [hp'] at HC
        have hno := hide (all_bad (p := partB) (unhide HL) (by rw [unhide HB]; exact hp'))
        go_wp2_with fail
        refine (unhide HC _).mono ?_
        rintro e w1 ⟨rfl, hw⟩
        rw [hw]
        go_wp2_with fail
        go_ret
        exact ⟨by rw [unhide hno]; rfl, rfl⟩
    · have hkl : k = s.size := by omega
      have hI : ¬ (k : Int) < (s.size : Int) := by omega
      have hall := hide (all_good (p := partB) (fun j hj => unhide H j hj (by omega)))
      clear hkl
      go_wp2_with fail
      go_ret
      exact ⟨by rw [unhide hall]; rfl, rfl⟩
end Go.Proofs.YtcafhmlpmbkhkaaGreatDoor
/- names: keys, memos, tags, parts; the document's Key, Memo, Tag. -/
namespace Go.Proofs.YtcafhmlpmbkhkaaGreatDoor
open Go Go.ChangeShapes Go.WideShapes Go.ChangeAt Go.RowKit
set_option linter.unusedVariables false
theorem empty_of_size {s : ByteArray} (h : s.size = 0) : s = ⟨#[]⟩ := by
  obtain ⟨d⟩ := s
  have : d = #[] := Array.eq_empty_of_size_eq_zero h
  rw [this]
theorem ne_of_size {s : ByteArray} (h : ¬ s.size = 0) : s.toList.isEmpty = false := by
  rw [Lib.toList_data, List.isEmpty_eq_false_iff]
  intro e
  have := congrArg List.length e
  exact h (by simpa using this)
def keyS (s : ByteArray) : Bool := decide (1 ≤ s.size) && decide (s.size ≤ 24) && allL keyB s
def memoS (s : ByteArray) : Bool := decide (s.size ≤ 80) && allL memoB s
set_option maxHeartbeats 1000000 in
set_option maxHeartbeats 1000000 in
/-- a text's first byte -/
def b0 (s : ByteArray) : Nat := (s.data.toList.getD 0 0).toNat
theorem b0_eq {s : ByteArray} (h : 0 < s.size) : (s[0]'h).toNat = b0 s := by
  obtain ⟨⟨l⟩⟩ := s
  cases l with
  | nil => exact absurd h (Nat.lt_irrefl 0)
  | cons a l => rfl
def tail1 (s : ByteArray) : ByteArray := s.extract 1 s.size
theorem tail1_size (s : ByteArray) : (tail1 s).size = s.size - 1 := by
  unfold tail1
  rw [ByteArray.size_extract]
  omega
def tagS (s : ByteArray) : Bool := decide (s.size = 0) || (decide (s.size ≤ 16) && loB (b0 s) && allL tagB (tail1 s))
def partS (s : ByteArray) : Bool := !decide (s.size = 0) && decide (s.size ≤ 16) && upB (b0 s) && allL partB (tail1 s)
set_option maxHeartbeats 1000000 in
set_option maxHeartbeats 1000000 in
theorem isPart_any (s : ByteArray) (hs : s.size ≤ 9223372036854775807) (w : World) : Calls Tryz.prog 206 #[.string s] w fun e w' => e = .returned (.bool (partS s)) ∧ w' = w := by
  have ha := hide (all_inPart (tail1 s) (by rw [tail1_size]; omega))
  by_cases h0 : s.size = 0
  · have e := empty_of_size h0
    subst e
    go_enter Tryz.func206, Tryz.ntmps206
    go_wp2_with fail
    go_ret
    exact ⟨rfl, rfl⟩
  · have hne := ne_of_size h0
    have hp : 0 < s.size := by omega
    have hc := hide (isUpper_any (b0 s))
    have hb := b0_eq hp
    by_cases h1 : s.size ≤ 16
    · have i1 : (s.size : Int) ≤ 16 := by omega
      by_cases h2 : upB (b0 s) = true
      · rw [h2] at hc
        have hf := hide (show partS s = allL partB (tail1 s) from by unfold partS; rw [decide_eq_false h0, decide_eq_true h1, h2]; rfl)
        go_enter Tryz.func206, Tryz.ntmps206
        go_wp2_with fail
        refine (unhide hc w).mono ?_
        rintro e w1 ⟨rfl, hw⟩
        rw [hw]
        go_wp2_with fail
        refine (unhide ha w).mono ?_
        rintro e w1 ⟨rfl, hw⟩
        rw [hw]
        go_wp2_with fail
        go_ret
        exact ⟨by rw [unhide hf]; rfl, rfl⟩
      · have h2' : upB (b0 s) = false := by simpa using h2
        rw [h2'] at hc
        have hf := hide (show partS s = false from by unfold partS; rw [decide_eq_false h0, decide_eq_true h1, h2']; rfl)
        go_enter Tryz.func206, Tryz.ntmps206
        go_wp2_with fail
        refine (unhide hc w).mono ?_
        rintro e w1 ⟨rfl, hw⟩
        rw [hw]
        go_wp2_with fail
        go_ret
        exact ⟨by rw [unhide hf]; rfl, rfl⟩
    · have i1 : ¬ (s.size : Int) ≤ 16 := by omega
      have hf := hide (show partS s = false from by unfold partS; rw [decide_eq_false h0, decide_eq_false h1]; rfl)
      go_enter Tryz.func206, Tryz.ntmps206
      go_wp2_with fail
      go_ret
      exact ⟨by rw [unhide hf]; rfl, rfl⟩
end Go.Proofs.YtcafhmlpmbkhkaaGreatDoor
