import Derived.Test.YtdeibifjiefapaaGreatDoorProg
import Derived.WalkKit
import Derived.ProofKit
import Derived.OpenShut
import Derived.WalkLawsBesides
import Derived.BigCall
import Derived.BigQuiet
import Derived.Deep.QuietTactic
import Derived.Laws.BitsAll
import Derived.Below
import Derived.Lib.Bytes
import Derived.Lib.SplitLaws
import Derived.Lib.LastIndexByte
/- names: which bytes (166, 170, 174, 171, 167, 158, 162), texts byte by byte (157), keys, tags, memos, parts (149, 161, 152, 155). -/
namespace Go.Proofs.YtdeibifjiefapaaGreatDoor
open Go Go.ChangeShapes Go.WideShapes Go.ChangeAt Go.RowKit
set_option linter.unusedVariables false
theorem hide {p : Prop} (h : p) : Hid p := h
theorem unhide {p : Prop} (h : Hid p) : p := h
def upB (c : Nat) : Bool := decide (65 ≤ c) && decide (c ≤ 90)
def loB (c : Nat) : Bool := decide (97 ≤ c) && decide (c ≤ 122)
def dgB (c : Nat) : Bool := decide (48 ≤ c) && decide (c ≤ 57)
def tagB (c : Nat) : Bool := loB c || dgB c || decide (c = 45)
def partB (c : Nat) : Bool := upB c || tagB c
def keyB (c : Nat) : Bool := partB c || decide (c = 95) || decide (c = 46)
def memoB (c : Nat) : Bool := decide (32 ≤ c) && decide (c ≤ 126) && !decide (c = 34)

theorem isUpper_any (c : Nat) (w : World) : Calls Tryz.prog 263 #[.int .u8 (c : Int)] w fun e w' => e = .returned (.bool (upB c)) ∧ w' = w := by
  unfold upB
  by_cases h1 : 65 ≤ c
  · have i1 : (65 : Int) ≤ (c : Int) := by omega
    by_cases h2 : c ≤ 90
    · have i2 : (c : Int) ≤ 90 := by omega
      go_enter Tryz.func263, Tryz.ntmps263
      go_wp2_with fail
      go_ret
      exact ⟨by simp_all, rfl⟩
    · have i2 : ¬ (c : Int) ≤ 90 := by omega
      go_enter Tryz.func263, Tryz.ntmps263
      go_wp2_with fail
      go_ret
      exact ⟨by simp_all, rfl⟩
  · have i1 : ¬ (65 : Int) ≤ (c : Int) := by omega
    go_enter Tryz.func263, Tryz.ntmps263
    go_wp2_with fail
    go_ret
    exact ⟨by simp_all, rfl⟩
theorem isLower_any (c : Nat) (w : World) : Calls Tryz.prog 289 #[.int .u8 (c : Int)] w fun e w' => e = .returned (.bool (loB c)) ∧ w' = w := by
  unfold loB
  by_cases h1 : 97 ≤ c
  · have i1 : (97 : Int) ≤ (c : Int) := by omega
    by_cases h2 : c ≤ 122
    · have i2 : (c : Int) ≤ 122 := by omega
      go_enter Tryz.func289, Tryz.ntmps289
      go_wp2_with fail
      go_ret
      exact ⟨by simp_all, rfl⟩
    · have i2 : ¬ (c : Int) ≤ 122 := by omega
      go_enter Tryz.func289, Tryz.ntmps289
      go_wp2_with fail
      go_ret
      exact ⟨by simp_all, rfl⟩
  · have i1 : ¬ (97 : Int) ≤ (c : Int) := by omega
    go_enter Tryz.func289, Tryz.ntmps289
    go_wp2_with fail
    go_ret
    exact ⟨by simp_all, rfl⟩
theorem isDigit_any (c : Nat) (w : World) : Calls Tryz.prog 290 #[.int .u8 (c : Int)] w fun e w' => e = .returned (.bool (dgB c)) ∧ w' = w := by
  unfold dgB
  by_cases h1 : 48 ≤ c
  · have i1 : (48 : Int) ≤ (c : Int) := by omega
    by_cases h2 : c ≤ 57
    · have i2 : (c : Int) ≤ 57 := by omega
      go_enter Tryz.func290, Tryz.ntmps290
      go_wp2_with fail
      go_ret
      exact ⟨by simp_all, rfl⟩
    · have i2 : ¬ (c : Int) ≤ 57 := by omega
      go_enter Tryz.func290, Tryz.ntmps290
      go_wp2_with fail
      go_ret
      exact ⟨by simp_all, rfl⟩
  · have i1 : ¬ (48 : Int) ≤ (c : Int) := by omega
    go_enter Tryz.func290, Tryz.ntmps290
    go_wp2_with fail
    go_ret
    exact ⟨by simp_all, rfl⟩
set_option maxHeartbeats 1000000 in
theorem inTag_any (c : Nat) (w : World) : Calls Tryz.prog 278 #[.int .u8 (c : Int)] w fun e w' => e = .returned (.bool (tagB c)) ∧ w' = w := by
  have d0 := hide (isLower_any c)
  have d1 := hide (isDigit_any c)
  by_cases h0 : loB c = true
  · rw [h0] at d0
    have hf := hide (show tagB c = true from by unfold tagB; rw [h0]; rfl)
    go_enter Tryz.func278, Tryz.ntmps278
    go_wp2_with fail
    refine (unhide d0 w).mono ?_
    rintro e w1 ⟨rfl, hw⟩
    rw [hw]
    go_wp2_with fail
    go_ret
    exact ⟨by rw [unhide hf]; rfl, rfl⟩
  · have k0 : loB c = false := by simpa using h0
    rw [k0] at d0
    by_cases h1 : dgB c = true
    · rw [h1] at d1
      have hf := hide (show tagB c = true from by unfold tagB; rw [k0, h1]; rfl)
      go_enter Tryz.func278, Tryz.ntmps278
      go_wp2_with fail
      refine (unhide d0 w).mono ?_
      rintro e w1 ⟨rfl, hw⟩
      rw [hw]
      go_wp2_with fail
      refine (unhide d1 w).mono ?_
      rintro e w1 ⟨rfl, hw⟩
      rw [hw]
      go_wp2_with fail
      go_ret
      exact ⟨by rw [unhide hf]; rfl, rfl⟩
    · have k1 : dgB c = false := by simpa using h1
      rw [k1] at d1
      by_cases h2 : c = 45
      · subst h2
        go_enter Tryz.func278, Tryz.ntmps278
        go_wp2_with fail
        refine (unhide d0 w).mono ?_
        rintro e w1 ⟨rfl, hw⟩
        rw [hw]
        go_wp2_with fail
        refine (unhide d1 w).mono ?_
        rintro e w1 ⟨rfl, hw⟩
        rw [hw]
        go_wp2_with fail
        go_ret
        exact ⟨rfl, rfl⟩
      · have j2 : ((c : Int) == 45) = false := by simp; omega
        have hf := hide (show tagB c = false from by unfold tagB; rw [k0, k1, decide_eq_false h2]; rfl)
        go_enter Tryz.func278, Tryz.ntmps278
        go_wp2_with fail
        refine (unhide d0 w).mono ?_
        rintro e w1 ⟨rfl, hw⟩
        rw [hw]
        go_wp2_with fail
        refine (unhide d1 w).mono ?_
        rintro e w1 ⟨rfl, hw⟩
        rw [hw]
        go_wp2_with fail
        go_ret
        exact ⟨by rw [unhide hf]; rfl, rfl⟩
set_option maxHeartbeats 1000000 in
theorem inPart_any (c : Nat) (w : World) : Calls Tryz.prog 265 #[.int .u8 (c : Int)] w fun e w' => e = .returned (.bool (partB c)) ∧ w' = w := by
  have d0 := hide (isUpper_any c)
  have d1 := hide (inTag_any c)
  by_cases h0 : upB c = true
  · rw [h0] at d0
    have hf := hide (show partB c = true from by unfold partB; rw [h0]; rfl)
    go_enter Tryz.func265, Tryz.ntmps265
    go_wp2_with fail
    refine (unhide d0 w).mono ?_
    rintro e w1 ⟨rfl, hw⟩
    rw [hw]
    go_wp2_with fail
    go_ret
    exact ⟨by rw [unhide hf]; rfl, rfl⟩
  · have k0 : upB c = false := by simpa using h0
    rw [k0] at d0
    by_cases h1 : tagB c = true
    · rw [h1] at d1
      have hf := hide (show partB c = true from by unfold partB; rw [k0, h1]; rfl)
      go_enter Tryz.func265, Tryz.ntmps265
      go_wp2_with fail
      refine (unhide d0 w).mono ?_
      rintro e w1 ⟨rfl, hw⟩
      rw [hw]
      go_wp2_with fail
      refine (unhide d1 w).mono ?_
      rintro e w1 ⟨rfl, hw⟩
      rw [hw]
      go_wp2_with fail
      go_ret
      exact ⟨by rw [unhide hf]; rfl, rfl⟩
    · have k1 : tagB c = false := by simpa using h1
      rw [k1] at d1
      have hf := hide (show partB c = false from by unfold partB; rw [k0, k1]; rfl)
      go_enter Tryz.func265, Tryz.ntmps265
      go_wp2_with fail
      refine (unhide d0 w).mono ?_
      rintro e w1 ⟨rfl, hw⟩
      rw [hw]
      go_wp2_with fail
      refine (unhide d1 w).mono ?_
      rintro e w1 ⟨rfl, hw⟩
      rw [hw]
      go_wp2_with fail
      go_ret
      exact ⟨by rw [unhide hf]; rfl, rfl⟩
set_option maxHeartbeats 1000000 in
/-- each byte of a text is so -/
def allL (p : Nat → Bool) (s : ByteArray) : Bool := s.data.toList.all fun b => p b.toNat
theorem all_bad {p : Nat → Bool} {s : ByteArray} {k : Nat} (h : k < s.size) (hb : p (s[k]).toNat = false) : allL p s = false := by
  unfold allL
  rw [List.all_eq_false]
  refine ⟨s[k], ?_, by simp [hb]⟩
  have : s[k] = s.data.toList[k]'(by simpa using h) := by simp; rfl
  rw [this]
  exact List.getElem_mem _
theorem all_good {p : Nat → Bool} {s : ByteArray} (h : ∀ k (hk : k < s.size), p (s[k]).toNat = true) : allL p s = true := by
  unfold allL
  rw [List.all_eq_true]
  intro x hx
  obtain ⟨i, hi, rfl⟩ := List.getElem_of_mem hx
  have hi' : i < s.size := by simpa using hi
  have t : p (s.data[i]'hi').toNat = true := h i hi'
  simpa using t
set_option maxHeartbeats 1000000 in
set_option maxHeartbeats 1000000 in
set_option maxHeartbeats 1000000 in
set_option maxHeartbeats 1000000 in
theorem all_inPart (s : ByteArray) (hs : s.size ≤ 9223372036854775807) (w : World) : Calls Tryz.prog 264 #[.string s, .func (.func 265) #[] #[]] w fun e w' => e = .returned (.bool (allL partB s)) ∧ w' = w := by
  go_enter Tryz.func264, Tryz.ntmps264
  go_wp2_with fail
  go_loopw [8, 5] (fun vi v5 wr => ∃ k : Nat, k ≤ s.size ∧ vi = .int .i64 k ∧ (∀ j (hj : j < s.size), j < k → partB (s[j]).toNat = true) ∧ wr = w) (fun i _ _ => s.size - (RowKit.intOf i).toNat)
  case atStart => exact ⟨0, by omega, rfl, fun j hj h => by omega, rfl⟩
  case round =>
    obtain ⟨k, hk, rfl, hd, rfl⟩ := hrel
    have H := hide hd
    clear hd
    by_cases hlt : k < s.size
    · have hI : (k : Int) < (s.size : Int) := by omega
      have hI0 : (0 : Int) ≤ (k : Int) := by omega
      obtain ⟨B, hB⟩ : ∃ B : Nat, (s[k]).toNat = B := ⟨_, rfl⟩
      have HB := hide hB
      have HC := hide (inPart_any B)
      have HL := hide hlt
      by_cases hp : partB B = true
      · rw [hp] at HC
        go_wp2_with fail
        refine (unhide HC _).mono ?_
        rintro e w1 ⟨rfl, hw⟩
        rw [hw]
        go_wp2_with fail
        refine ⟨⟨k + 1, by omega, by go_num, ?_, trivial⟩, by simp [RowKit.intOf]; omega⟩
        intro j hj hjk
        by_cases e : j = k
        · subst e; rw [unhide HB]; exact hp
        · exact unhide H j hj (by omega)
      · have hp' : partB B = false := by simpa using hp
        rw [hp'] at HC
        have hno := hide (all_bad (p := partB) (unhide HL) (by rw [unhide HB]; exact hp'))
        go_wp2_with fail
        refine (unhide HC _).mono ?_
        rintro e w1 ⟨rfl, hw⟩
        rw [hw]
        go_wp2_with fail
        go_ret
        exact ⟨by rw [unhide hno]; rfl, rfl⟩
    · have hkl : k = s.size := by omega
      have hI : ¬ (k : Int) < (s.size : Int) := by omega
      have hall := hide (all_good (p := partB) (fun j hj => unhide H j hj (by omega)))
      clear hkl
      go_wp2_with fail
      go_ret
      exact ⟨by rw [unhide hall]; rfl, rfl⟩
end Go.Proofs.YtdeibifjiefapaaGreatDoor
/- names: keys, memos, tags, parts; the document's Key, Memo, Tag. -/
namespace Go.Proofs.YtdeibifjiefapaaGreatDoor
open Go Go.ChangeShapes Go.WideShapes Go.ChangeAt Go.RowKit
set_option linter.unusedVariables false
theorem empty_of_size {s : ByteArray} (h : s.size = 0) : s = ⟨#[]⟩ := by
  obtain ⟨d⟩ := s
  have : d = #[] := Array.eq_empty_of_size_eq_zero h
  rw [this]
theorem ne_of_size {s : ByteArray} (h : ¬ s.size = 0) : s.toList.isEmpty = false := by
  rw [Lib.toList_data, List.isEmpty_eq_false_iff]
  intro e
  have := congrArg List.length e
  exact h (by simpa using this)
def keyS (s : ByteArray) : Bool := decide (1 ≤ s.size) && decide (s.size ≤ 24) && allL keyB s
def memoS (s : ByteArray) : Bool := decide (s.size ≤ 80) && allL memoB s
set_option maxHeartbeats 1000000 in
set_option maxHeartbeats 1000000 in
/-- a text's first byte -/
def b0 (s : ByteArray) : Nat := (s.data.toList.getD 0 0).toNat
theorem b0_eq {s : ByteArray} (h : 0 < s.size) : (s[0]'h).toNat = b0 s := by
  obtain ⟨⟨l⟩⟩ := s
  cases l with
  | nil => exact absurd h (Nat.lt_irrefl 0)
  | cons a l => rfl
def tail1 (s : ByteArray) : ByteArray := s.extract 1 s.size
theorem tail1_size (s : ByteArray) : (tail1 s).size = s.size - 1 := by
  unfold tail1
  rw [ByteArray.size_extract]
  omega
def tagS (s : ByteArray) : Bool := decide (s.size = 0) || (decide (s.size ≤ 16) && loB (b0 s) && allL tagB (tail1 s))
def partS (s : ByteArray) : Bool := !decide (s.size = 0) && decide (s.size ≤ 16) && upB (b0 s) && allL partB (tail1 s)
set_option maxHeartbeats 1000000 in
set_option maxHeartbeats 1000000 in
theorem isPart_any (s : ByteArray) (hs : s.size ≤ 9223372036854775807) (w : World) : Calls Tryz.prog 217 #[.string s] w fun e w' => e = .returned (.bool (partS s)) ∧ w' = w := by
  have ha := hide (all_inPart (tail1 s) (by rw [tail1_size]; omega))
  by_cases h0 : s.size = 0
  · have e := empty_of_size h0
    subst e
    go_enter Tryz.func217, Tryz.ntmps217
    go_wp2_with fail
    go_ret
    exact ⟨rfl, rfl⟩
  · have hne := ne_of_size h0
    have hp : 0 < s.size := by omega
    have hc := hide (isUpper_any (b0 s))
    have hb := b0_eq hp
    by_cases h1 : s.size ≤ 16
    · have i1 : (s.size : Int) ≤ 16 := by omega
      by_cases h2 : upB (b0 s) = true
      · rw [h2] at hc
        have hf := hide (show partS s = allL partB (tail1 s) from by unfold partS; rw [decide_eq_false h0, decide_eq_true h1, h2]; rfl)
        go_enter Tryz.func217, Tryz.ntmps217
        go_wp2_with fail
        refine (unhide hc w).mono ?_
        rintro e w1 ⟨rfl, hw⟩
        rw [hw]
        go_wp2_with fail
        refine (unhide ha w).mono ?_
        rintro e w1 ⟨rfl, hw⟩
        rw [hw]
        go_wp2_with fail
        go_ret
        exact ⟨by rw [unhide hf]; rfl, rfl⟩
      · have h2' : upB (b0 s) = false := by simpa using h2
        rw [h2'] at hc
        have hf := hide (show partS s = false from by unfold partS; rw [decide_eq_false h0, decide_eq_true h1, h2']; rfl)
        go_enter Tryz.func217, Tryz.ntmps217
        go_wp2_with fail
        refine (unhide hc w).mono ?_
        rintro e w1 ⟨rfl, hw⟩
        rw [hw]
        go_wp2_with fail
        go_ret
        exact ⟨by rw [unhide hf]; rfl, rfl⟩
    · have i1 : ¬ (s.size : Int) ≤ 16 := by omega
      have hf := hide (show partS s = false from by unfold partS; rw [decide_eq_false h0, decide_eq_false h1]; rfl)
      go_enter Tryz.func217, Tryz.ntmps217
      go_wp2_with fail
      go_ret
      exact ⟨by rw [unhide hf]; rfl, rfl⟩
end Go.Proofs.YtdeibifjiefapaaGreatDoor
/- An account's name: its parts, and the document's way through it byte by byte. No program in it. -/
namespace Go.Proofs.YtdeibifjiefapaaGreatDoor
open Go
set_option linter.unusedVariables false
/-- cut at each colon -/
def spl : List UInt8 → List (List UInt8)
  | [] => [[]]
  | c :: l => if c = 58 then [] :: spl l else match spl l with
    | [] => [[c]]
    | h :: t => (c :: h) :: t
theorem spl_ne (l : List UInt8) : ∃ h t, spl l = h :: t := by
  cases l with
  | nil => exact ⟨_, _, rfl⟩
  | cons c l =>
    unfold spl
    split
    · exact ⟨_, _, rfl⟩
    · split
      · exact ⟨_, _, rfl⟩
      · exact ⟨_, _, rfl⟩
theorem spl_cons {c : UInt8} {l h : List UInt8} {t : List (List UInt8)} (hc : ¬ c = 58) (e : spl l = h :: t) : spl (c :: l) = (c :: h) :: t := by
  rw [spl, if_neg hc, e]
theorem spl_len (l : List UInt8) : (spl l).length = l.count 58 + 1 := by
  induction l with
  | nil => rfl
  | cons c l ih =>
    by_cases hc : c = 58
    · subst hc
      rw [spl, if_pos rfl, List.length_cons, ih, List.count_cons_self]
    · obtain ⟨h, t, e⟩ := spl_ne l
      rw [spl_cons hc e, List.length_cons, List.count_cons_of_ne (by simpa using hc)]
      rw [e, List.length_cons] at ih
      exact ih
theorem index_cons_eq (l : List UInt8) : Lib.index (58 :: l) [58] = 0 := by
  unfold Lib.index
  simp [List.isPrefixOf]
theorem index_cons_ne {c : UInt8} (l : List UInt8) (hc : ¬ c = 58) : Lib.index (c :: l) [58] = if Lib.index l [58] == -1 then -1 else Lib.index l [58] + 1 := by
  rw [Lib.index]
  have : ([58] : List UInt8).isPrefixOf (c :: l) = false := by simp [List.isPrefixOf]; exact fun e => hc e.symm
  rw [this]
  rfl
theorem spl_miss : ∀ (l : List UInt8), Lib.index l [58] = -1 → spl l = [l]
  | [], _ => rfl
  | c :: l, h => by
    by_cases hc : c = 58
    · subst hc
      rw [index_cons_eq] at h
      cases h
    · rw [index_cons_ne l hc] at h
      have h1 : Lib.index l [58] = -1 := by
        by_cases e : Lib.index l [58] = -1
        · exact e
        · have := Lib.index_ge l [58]
          rw [if_neg (by simpa using e)] at h
          omega
      rw [spl_cons hc (spl_miss l h1)]
theorem spl_hit : ∀ (l : List UInt8) (i : Nat), Lib.index l [58] = i → spl l = l.take i :: spl (l.drop (i + 1))
  | [], i, h => by simp [Lib.index] at h
  | c :: l, i, h => by
    by_cases hc : c = 58
    · subst hc
      rw [index_cons_eq] at h
      have : i = 0 := by omega
      subst this
      rw [spl, if_pos rfl]
      rfl
    · rw [index_cons_ne l hc] at h
      by_cases e : Lib.index l [58] = -1
      · rw [if_pos (by simpa using e)] at h
        omega
      · rw [if_neg (by simpa using e)] at h
        have hg := Lib.index_ge l [58]
        obtain ⟨j, hj⟩ : ∃ j : Nat, i = j + 1 := ⟨i - 1, by omega⟩
        subst hj
        rw [spl_cons hc (spl_hit l j (by omega))]
        rfl
theorem count_drop : ∀ (l : List UInt8) (i : Nat), Lib.index l [58] = i → l.count 58 = (l.drop (i + 1)).count 58 + 1
  | [], i, h => by simp [Lib.index] at h
  | c :: l, i, h => by
    by_cases hc : c = 58
    · subst hc
      rw [index_cons_eq] at h
      have : i = 0 := by omega
      subst this
      rw [List.count_cons_self]
      rfl
    · rw [index_cons_ne l hc] at h
      by_cases e : Lib.index l [58] = -1
      · rw [if_pos (by simpa using e)] at h
        omega
      · rw [if_neg (by simpa using e)] at h
        have hg := Lib.index_ge l [58]
        obtain ⟨j, hj⟩ : ∃ j : Nat, i = j + 1 := ⟨i - 1, by omega⟩
        subst hj
        rw [List.count_cons_of_ne (by simpa using hc), count_drop l j (by omega)]
        rfl
theorem splitK_spl : ∀ (k : Nat) (l : List UInt8), l.count 58 = k → Lib.splitK [58] 0 k l = spl l
  | 0, l, h => by
    have : Lib.index l [58] = -1 := by
      by_cases e : Lib.index l [58] = -1
      · exact e
      · have hg := Lib.index_ge l [58]
        obtain ⟨j, hj⟩ : ∃ j : Nat, Lib.index l [58] = j := ⟨(Lib.index l [58]).toNat, by omega⟩
        have := count_drop l j hj
        omega
    rw [spl_miss l this]
    rfl
  | k + 1, l, h => by
    have hg := Lib.index_ge l [58]
    by_cases e : Lib.index l [58] = -1
    · have h1 := spl_len l
      rw [spl_miss l e, h] at h1
      simp at h1
    · obtain ⟨j, hj⟩ : ∃ j : Nat, Lib.index l [58] = j := ⟨(Lib.index l [58]).toNat, by omega⟩
      have hc := count_drop l j hj
      rw [Lib.splitK, if_neg (by simpa using e), spl_hit l j hj, hj]
      have : ((j : Int)).toNat = j := by omega
      rw [this, splitK_spl k (l.drop (j + [58].length)) (by show (l.drop (j + 1)).count 58 = k; omega)]
      rfl
/-- a part, as a list -/
def partL (l : List UInt8) : Bool := !l.isEmpty && decide (l.length ≤ 16) && upB (l.getD 0 0).toNat && (l.drop 1).all fun b => partB b.toNat
theorem partS_eq (s : ByteArray) : partS s = partL s.data.toList := by
  unfold partS partL allL tail1 b0
  have e1 : (s.extract 1 s.size).data.toList = s.data.toList.drop 1 := Lib.extract_to_end s 1
  have e2 : (!decide (s.size = 0)) = !s.data.toList.isEmpty := by
    by_cases h : s.size = 0
    · have := empty_of_size h
      subst this
      rfl
    · have h1 := ne_of_size h
      rw [Lib.toList_data] at h1
      rw [h1, decide_eq_false h]
  have e3 : s.size = s.data.toList.length := by simp
  rw [e1, e2, e3]
def nameL (l : List UInt8) : Bool := decide (l.count 58 < 6) && (spl l).all partL
/-- the document's way: parts so far, bytes of this one -/
def nm (parts size : Nat) : List UInt8 → Bool
  | [] => decide (0 < size) && decide (parts ≤ 6)
  | c :: l => if c = 58 then (if size = 0 then false else nm (parts + 1) 0 l) else if (size = 0 ∧ upB c.toNat = false) ∨ partB c.toNat = false then false else if 16 < size + 1 then false else nm parts (size + 1) l
def pc (size : Nat) (h : List UInt8) : Bool := if size = 0 then partL h else (h.all fun b => partB b.toNat) && decide (size + h.length ≤ 16)
theorem partL_cons (c : UInt8) (h : List UInt8) : partL (c :: h) = (decide (h.length + 1 ≤ 16) && upB c.toNat && h.all fun b => partB b.toNat) := rfl
theorem nm_eq : ∀ (l : List UInt8) (parts size : Nat) (h : List UInt8) (t : List (List UInt8)), size ≤ 16 → spl l = h :: t → nm parts size l = (pc size h && t.all partL && decide (parts + t.length ≤ 6))
  | [], parts, size, h, t, hs, e => by
    injection e with e1 e2
    subst e1 e2
    unfold nm pc
    by_cases h0 : size = 0
    · subst h0
      simp [partL]
    · have : 0 < size := by omega
      simp [h0, this, hs]
  | c :: l, parts, size, h, t, hs, e => by
    obtain ⟨h', t', e'⟩ := spl_ne l
    by_cases hc : c = 58
    · subst hc
      rw [spl, if_pos rfl] at e
      injection e with e1 e2
      subst e1 e2
      rw [nm, if_pos rfl]
      by_cases h0 : size = 0
      · subst h0
        simp [pc, partL]
      · rw [if_neg h0, nm_eq l (parts + 1) 0 h' t' (by omega) e', e']
        have h3 : size ≤ 16 := hs
        have h4 : parts + 1 + t'.length = parts + (t'.length + 1) := by omega
        simp [pc, h0, hs, h4]
    · rw [spl_cons hc e'] at e
      injection e with e1 e2
      subst e1 e2
      rw [nm, if_neg hc]
      by_cases h0 : size = 0
      · subst h0
        by_cases hu : upB c.toNat = true
        · have hp : partB c.toNat = true := by unfold partB; rw [hu]; rfl
          rw [if_neg (by simp [hu, hp]), if_neg (by omega), nm_eq l parts 1 h' t' (by omega) e']
          have h5 : 1 + h'.length = h'.length + 1 := by omega
          simp only [pc, partL_cons, hu, h5]
          simp [Bool.and_comm]
        · have hu' : upB c.toNat = false := by simpa using hu
          rw [if_pos (.inl ⟨rfl, hu'⟩)]
          simp [pc, partL_cons, hu']
      · by_cases hp : partB c.toNat = true
        · rw [if_neg (by simp [h0, hp])]
          by_cases h6 : 16 < size + 1
          · rw [if_pos h6]
            have : ¬ size + (h'.length + 1) ≤ 16 := by omega
            simp [pc, h0, this]
          · rw [if_neg h6, nm_eq l parts (size + 1) h' t' (by omega) e']
            have h5 : size + 1 + h'.length = size + (h'.length + 1) := by omega
            simp [pc, h0, hp, h5]
        · have hp' : partB c.toNat = false := by simpa using hp
          rw [if_pos (.inr hp')]
          simp [pc, h0, hp']
theorem nm_name (l : List UInt8) : nm 1 0 l = nameL l := by
  obtain ⟨h, t, e⟩ := spl_ne l
  have hl := spl_len l
  rw [nm_eq l 1 0 h t (by omega) e, nameL, e]
  rw [e, List.length_cons] at hl
  have h1 : (1 + t.length ≤ 6) ↔ l.count 58 < 6 := by omega
  simp [pc, h1, Bool.and_comm]
end Go.Proofs.YtdeibifjiefapaaGreatDoor
/- An account's path: the names above one. No program in it. -/
namespace Go.Proofs.YtdeibifjiefapaaGreatDoor
open Go
set_option linter.unusedVariables false
theorem spl_append (a b : List UInt8) : spl (a ++ 58 :: b) = spl a ++ spl b := by
  induction a with
  | nil => simp [spl]
  | cons c a ih =>
    rw [List.cons_append]
    by_cases hc : c = 58
    · rw [spl, if_pos hc, ih, spl, if_pos hc]
      rfl
    · obtain ⟨h, t, e⟩ := spl_ne a
      rw [spl_cons hc e]
      have e2 : spl (a ++ 58 :: b) = h :: (t ++ spl b) := by rw [ih, e]; rfl
      rw [spl_cons hc e2]
      rfl
theorem name_above {a b : List UInt8} (h : nameL (a ++ 58 :: b) = true) : nameL a = true := by
  unfold nameL at h ⊢
  rw [spl_append, List.all_append, List.count_append] at h
  simp only [Bool.and_eq_true, decide_eq_true_eq] at h ⊢
  exact ⟨by have := h.1; omega, h.2.1⟩
/-- the names above one, among its first bytes, the longest first -/
def upsK (l : List UInt8) : Nat → List (List UInt8)
  | 0 => []
  | i + 1 => if l[i]? = some 58 then l.take i :: upsK l i else upsK l i
def ups (l : List UInt8) : List (List UInt8) := upsK l l.length
/-- an account's path -/
def pathL (l : List UInt8) : List (List UInt8) := if nameL l = true then l :: ups l else []
theorem upsK_take (l : List UInt8) (j : Nat) : ∀ i, i ≤ j → upsK (l.take j) i = upsK l i
  | 0, _ => rfl
  | i + 1, h => by
    have e1 : (l.take j)[i]? = l[i]? := List.getElem?_take_of_lt (by omega)
    have e2 : (l.take j).take i = l.take i := by rw [List.take_take]; congr 1; omega
    rw [upsK, upsK, e1, e2, upsK_take l j i (by omega)]
theorem upsK_skip (l : List UInt8) (i : Nat) : ∀ n, i ≤ n → (∀ k, i ≤ k → k < n → l[k]? ≠ some 58) → upsK l n = upsK l i
  | 0, h, _ => by have : i = 0 := by omega
                  subst this; rfl
  | n + 1, h, hk => by
    by_cases e : i = n + 1
    · subst e; rfl
    · rw [upsK, if_neg (hk n (by omega) (by omega))]
      exact upsK_skip l i n (by omega) (fun k h1 h2 => hk k h1 (by omega))
theorem upsK_len (l : List UInt8) : ∀ i, i ≤ l.length → (upsK l i).length = (l.take i).count 58
  | 0, _ => by simp [upsK]
  | i + 1, h => by
    have hi : i < l.length := by omega
    have e : l.take (i + 1) = l.take i ++ [l[i]] := by rw [List.take_append_getElem]
    have e2 : l[i]? = some l[i] := List.getElem?_eq_getElem hi
    rw [upsK, e, List.count_append, e2]
    by_cases hc : l[i] = 58
    · rw [hc, if_pos rfl, List.length_cons, upsK_len l i (by omega)]
      simp
    · rw [if_neg (by simpa using hc), upsK_len l i (by omega)]
      have : [l[i]].count 58 = 0 := by rw [List.count_eq_zero]; simpa using fun e => hc e.symm
      omega
theorem path_len (l : List UInt8) : (pathL l).length ≤ 6 := by
  unfold pathL
  by_cases h : nameL l = true
  · rw [if_pos h, List.length_cons, ups, upsK_len l _ (Nat.le_refl _), List.take_length]
    unfold nameL at h
    simp only [Bool.and_eq_true, decide_eq_true_eq] at h
    omega
  · rw [if_neg h]; simp
theorem ups_none (l : List UInt8) (h : l.contains 58 = false) : ups l = [] := by
  rw [ups, upsK_skip l 0 l.length (by omega) (fun k _ hk e => ?_)]
  · rfl
  · have : (58 : UInt8) ∈ l := List.mem_of_getElem? e
    rw [List.contains_iff_mem.2 this] at h
    cases h
/-- the last colon -/
theorem ups_some (s : ByteArray) (h : s.data.toList.contains 58 = true) : ∃ j : Nat, j < s.size ∧ Lib.lastIndexByte s 58 = (j : Int) ∧ ups s.data.toList = s.data.toList.take j :: ups (s.data.toList.take j) ∧ (nameL s.data.toList = true → nameL (s.data.toList.take j) = true) := by
  have hb : ∀ j, j < s.size → s.data.toList[j]? = some s.data[j]! := fun j hj => by
    have hj' : j < s.data.size := hj
    rw [Array.getElem?_toList, Array.getElem?_eq_getElem hj', getElem!_pos s.data j hj']
  rcases Lib.lastIndexByte_spec s 58 with ⟨_, hno⟩ | ⟨j, hj, he, hc, hnb⟩
  · exfalso
    have hm : (58 : UInt8) ∈ s.data.toList := List.contains_iff_mem.1 h
    obtain ⟨k, hk⟩ := List.getElem?_of_mem hm
    have hks : k < s.size := by
      have := (List.getElem?_eq_some_iff.1 hk).1
      simpa using this
    rw [hb k hks] at hk
    injection hk with hk
    exact hno k hks (by rw [hk]; rfl)
  · have hsz : s.data.toList.length = s.size := by simp
    have h58 : s.data[j]! = 58 := by
      apply UInt8.toNat_inj.1
      have : (s.data[j]!).toNat = 58 := by exact_mod_cast hc
      exact this
    have hj58 : s.data.toList[j]? = some 58 := by rw [hb j hj, h58]
    have hle : (s.data.toList.take j).length = j := by rw [List.length_take, hsz]; omega
    refine ⟨j, hj, he, ?_, fun hn => ?_⟩
    · rw [ups, upsK_skip s.data.toList (j + 1) s.data.toList.length (by omega) (fun k h1 h2 e => ?_), upsK, if_pos hj58, ups, hle, upsK_take _ _ _ (Nat.le_refl _)]
      rw [hsz] at h2
      rw [hb k h2] at e
      injection e with e
      exact hnb k (by omega) h2 (by rw [e]; rfl)
    · have e : s.data.toList = s.data.toList.take j ++ 58 :: s.data.toList.drop (j + 1) := by
        have h1 := List.take_append_drop j s.data.toList
        have h2 : s.data.toList.drop j = 58 :: s.data.toList.drop (j + 1) := by
          have hjl : j < s.data.toList.length := by omega
          rw [List.drop_eq_getElem_cons hjl]
          congr 1
          rw [List.getElem?_eq_getElem hjl] at hj58
          injection hj58
        rw [← h2, h1]
      rw [e] at hn
      exact name_above hn
end Go.Proofs.YtdeibifjiefapaaGreatDoor
