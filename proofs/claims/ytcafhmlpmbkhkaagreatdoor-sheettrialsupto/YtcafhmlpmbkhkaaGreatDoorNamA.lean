/- names: which bytes (166, 170, 174, 171, 167, 158, 162), texts byte by byte (157), keys, tags, memos, parts (149, 161, 152, 155). -/
import Derived.Test.YtcafhmlpmbkhkaaGreatDoorProg
import Derived.WalkKit
import Derived.ProofKit
import Derived.OpenShut
import Derived.WalkLawsBesides
import Derived.BigCall
import Derived.BigQuiet
import Derived.Deep.QuietTactic
import Derived.Laws.BitsAll
import Derived.Below
namespace Go.Proofs.YtcafhmlpmbkhkaaGreatDoor
open Go Go.ChangeShapes Go.WideShapes Go.ChangeAt Go.RowKit
set_option linter.unusedVariables false
theorem hide {p : Prop} (h : p) : Hid p := h
theorem unhide {p : Prop} (h : Hid p) : p := h
def upB (c : Nat) : Bool := decide (65 ≤ c) && decide (c ≤ 90)
def loB (c : Nat) : Bool := decide (97 ≤ c) && decide (c ≤ 122)
def dgB (c : Nat) : Bool := decide (48 ≤ c) && decide (c ≤ 57)
def tagB (c : Nat) : Bool := loB c || dgB c || decide (c = 45)
def partB (c : Nat) : Bool := upB c || tagB c
def keyB (c : Nat) : Bool := partB c || decide (c = 95) || decide (c = 46)
def memoB (c : Nat) : Bool := decide (32 ≤ c) && decide (c ≤ 126) && !decide (c = 34)

theorem isUpper_any (c : Nat) (w : World) : Calls Tryz.prog 251 #[.int .u8 (c : Int)] w fun e w' => e = .returned (.bool (upB c)) ∧ w' = w := by
  unfold upB
  by_cases h1 : 65 ≤ c
  · have i1 : (65 : Int) ≤ (c : Int) := by omega
    by_cases h2 : c ≤ 90
    · have i2 : (c : Int) ≤ 90 := by omega
      go_enter Tryz.func251, Tryz.ntmps251
      go_wp2_with fail
      go_ret
      exact ⟨by simp_all, rfl⟩
    · have i2 : ¬ (c : Int) ≤ 90 := by omega
      go_enter Tryz.func251, Tryz.ntmps251
      go_wp2_with fail
      go_ret
      exact ⟨by simp_all, rfl⟩
  · have i1 : ¬ (65 : Int) ≤ (c : Int) := by omega
    go_enter Tryz.func251, Tryz.ntmps251
    go_wp2_with fail
    go_ret
    exact ⟨by simp_all, rfl⟩
theorem isLower_any (c : Nat) (w : World) : Calls Tryz.prog 310 #[.int .u8 (c : Int)] w fun e w' => e = .returned (.bool (loB c)) ∧ w' = w := by
  unfold loB
  by_cases h1 : 97 ≤ c
  · have i1 : (97 : Int) ≤ (c : Int) := by omega
    by_cases h2 : c ≤ 122
    · have i2 : (c : Int) ≤ 122 := by omega
      go_enter Tryz.func310, Tryz.ntmps310
      go_wp2_with fail
      go_ret
      exact ⟨by simp_all, rfl⟩
    · have i2 : ¬ (c : Int) ≤ 122 := by omega
      go_enter Tryz.func310, Tryz.ntmps310
      go_wp2_with fail
      go_ret
      exact ⟨by simp_all, rfl⟩
  · have i1 : ¬ (97 : Int) ≤ (c : Int) := by omega
    go_enter Tryz.func310, Tryz.ntmps310
    go_wp2_with fail
    go_ret
    exact ⟨by simp_all, rfl⟩
theorem isDigit_any (c : Nat) (w : World) : Calls Tryz.prog 311 #[.int .u8 (c : Int)] w fun e w' => e = .returned (.bool (dgB c)) ∧ w' = w := by
  unfold dgB
  by_cases h1 : 48 ≤ c
  · have i1 : (48 : Int) ≤ (c : Int) := by omega
    by_cases h2 : c ≤ 57
    · have i2 : (c : Int) ≤ 57 := by omega
      go_enter Tryz.func311, Tryz.ntmps311
      go_wp2_with fail
      go_ret
      exact ⟨by simp_all, rfl⟩
    · have i2 : ¬ (c : Int) ≤ 57 := by omega
      go_enter Tryz.func311, Tryz.ntmps311
      go_wp2_with fail
      go_ret
      exact ⟨by simp_all, rfl⟩
  · have i1 : ¬ (48 : Int) ≤ (c : Int) := by omega
    go_enter Tryz.func311, Tryz.ntmps311
    go_wp2_with fail
    go_ret
    exact ⟨by simp_all, rfl⟩
set_option maxHeartbeats 1000000 in
theorem inTag_any (c : Nat) (w : World) : Calls Tryz.prog 287 #[.int .u8 (c : Int)] w fun e w' => e = .returned (.bool (tagB c)) ∧ w' = w := by
  have d0 := hide (isLower_any c)
  have d1 := hide (isDigit_any c)
  by_cases h0 : loB c = true
  · rw [h0] at d0
    have hf := hide (show tagB c = true from by unfold tagB; rw [h0]; rfl)
    go_enter Tryz.func287, Tryz.ntmps287
    go_wp2_with fail
    refine (unhide d0 w).mono ?_
    rintro e w1 ⟨rfl, hw⟩
    rw [hw]
    go_wp2_with fail
    go_ret
    exact ⟨by rw [unhide hf]; rfl, rfl⟩
  · have k0 : loB c = false := by simpa using h0
    rw [k0] at d0
    by_cases h1 : dgB c = true
    · rw [h1] at d1
      have hf := hide (show tagB c = true from by unfold tagB; rw [k0, h1]; rfl)
      go_enter Tryz.func287, Tryz.ntmps287
      go_wp2_with fail
      refine (unhide d0 w).mono ?_
      rintro e w1 ⟨rfl, hw⟩
      rw [hw]
      go_wp2_with fail
      refine (unhide d1 w).mono ?_
      rintro e w1 ⟨rfl, hw⟩
      rw [hw]
      go_wp2_with fail
      go_ret
      exact ⟨by rw [unhide hf]; rfl, rfl⟩
    · have k1 : dgB c = false := by simpa using h1
      rw [k1] at d1
      by_cases h2 : c = 45
      · subst h2
        go_enter Tryz.func287, Tryz.ntmps287
        go_wp2_with fail
        refine (unhide d0 w).mono ?_
        rintro e w1 ⟨rfl, hw⟩
        rw [hw]
        go_wp2_with fail
        refine (unhide d1 w).mono ?_
        rintro e w1 ⟨rfl, hw⟩
        rw [hw]
        go_wp2_with fail
        go_ret
        exact ⟨rfl, rfl⟩
      · have j2 : ((c : Int) == 45) = false := by simp; omega
        have hf := hide (show tagB c = false from by unfold tagB; rw [k0, k1, decide_eq_false h2]; rfl)
        go_enter Tryz.func287, Tryz.ntmps287
        go_wp2_with fail
        refine (unhide d0 w).mono ?_
        rintro e w1 ⟨rfl, hw⟩
        rw [hw]
        go_wp2_with fail
        refine (unhide d1 w).mono ?_
        rintro e w1 ⟨rfl, hw⟩
        rw [hw]
        go_wp2_with fail
        go_ret
        exact ⟨by rw [unhide hf]; rfl, rfl⟩
set_option maxHeartbeats 1000000 in
theorem inPart_any (c : Nat) (w : World) : Calls Tryz.prog 252 #[.int .u8 (c : Int)] w fun e w' => e = .returned (.bool (partB c)) ∧ w' = w := by
  have d0 := hide (isUpper_any c)
  have d1 := hide (inTag_any c)
  by_cases h0 : upB c = true
  · rw [h0] at d0
    have hf := hide (show partB c = true from by unfold partB; rw [h0]; rfl)
    go_enter Tryz.func252, Tryz.ntmps252
    go_wp2_with fail
    refine (unhide d0 w).mono ?_
    rintro e w1 ⟨rfl, hw⟩
    rw [hw]
    go_wp2_with fail
    go_ret
    exact ⟨by rw [unhide hf]; rfl, rfl⟩
  · have k0 : upB c = false := by simpa using h0
    rw [k0] at d0
    by_cases h1 : tagB c = true
    · rw [h1] at d1
      have hf := hide (show partB c = true from by unfold partB; rw [k0, h1]; rfl)
      go_enter Tryz.func252, Tryz.ntmps252
      go_wp2_with fail
      refine (unhide d0 w).mono ?_
      rintro e w1 ⟨rfl, hw⟩
      rw [hw]
      go_wp2_with fail
      refine (unhide d1 w).mono ?_
      rintro e w1 ⟨rfl, hw⟩
      rw [hw]
      go_wp2_with fail
      go_ret
      exact ⟨by rw [unhide hf]; rfl, rfl⟩
    · have k1 : tagB c = false := by simpa using h1
      rw [k1] at d1
      have hf := hide (show partB c = false from by unfold partB; rw [k0, k1]; rfl)
      go_enter Tryz.func252, Tryz.ntmps252
      go_wp2_with fail
      refine (unhide d0 w).mono ?_
      rintro e w1 ⟨rfl, hw⟩
      rw [hw]
      go_wp2_with fail
      refine (unhide d1 w).mono ?_
      rintro e w1 ⟨rfl, hw⟩
      rw [hw]
      go_wp2_with fail
      go_ret
      exact ⟨by rw [unhide hf]; rfl, rfl⟩
set_option maxHeartbeats 1000000 in
/-- each byte of a text is so -/
def allL (p : Nat → Bool) (s : ByteArray) : Bool := s.data.toList.all fun b => p b.toNat
theorem all_bad {p : Nat → Bool} {s : ByteArray} {k : Nat} (h : k < s.size) (hb : p (s[k]).toNat = false) : allL p s = false := by
  unfold allL
  rw [List.all_eq_false]
  refine ⟨s[k], ?_, by simp [hb]⟩
  have : s[k] = s.data.toList[k]'(by simpa using h) := by simp; rfl
  rw [this]
  exact List.getElem_mem _
theorem all_good {p : Nat → Bool} {s : ByteArray} (h : ∀ k (hk : k < s.size), p (s[k]).toNat = true) : allL p s = true := by
  unfold allL
  rw [List.all_eq_true]
  intro x hx
  obtain ⟨i, hi, rfl⟩ := List.getElem_of_mem hx
  have hi' : i < s.size := by simpa using hi
  have t : p (s.data[i]'hi').toNat = true := h i hi'
  simpa using t
set_option maxHeartbeats 1000000 in
set_option maxHeartbeats 1000000 in
set_option maxHeartbeats 1000000 in
set_option maxHeartbeats 1000000 in
theorem all_inPart (s : ByteArray) (hs : s.size ≤ 9223372036854775807) (w : World) : Calls Tryz.prog 207 #[.string s, .func (.func 252) #[] #[]] w fun e w' => e = .returned (.bool (allL partB s)) ∧ w' = w := by
  go_enter Tryz.func207, Tryz.ntmps207
  go_wp2_with fail
  go_loopw [8, 5] (fun vi v5 wr => ∃ k : Nat, k ≤ s.size ∧ vi = .int .i64 k ∧ (∀ j (hj : j < s.size), j < k → partB (s[j]).toNat = true) ∧ wr = w) (fun i _ _ => s.size - (RowKit.intOf i).toNat)
  case atStart => exact ⟨0, by omega, rfl, fun j hj h => by omega, rfl⟩
  case round =>
    obtain ⟨k, hk, rfl, hd, rfl⟩ := hrel
    have H := hide hd
    clear hd
    by_cases hlt : k < s.size
    · have hI : (k : Int) < (s.size : Int) := by omega
      have hI0 : (0 : Int) ≤ (k : Int) := by omega
      obtain ⟨B, hB⟩ : ∃ B : Nat, (s[k]).toNat = B := ⟨_, rfl⟩
      have HB := hide hB
      have HC := hide (inPart_any B)
      have HL := hide hlt
      by_cases hp : partB B = true
      · rw [hp] at HC
        go_wp2_with fail
        refine (unhide HC _).mono ?_
        rintro e w1 ⟨rfl, hw⟩
        rw [hw]
        go_wp2_with fail
        refine ⟨⟨k + 1, by omega, by go_num, ?_, trivial⟩, by simp [RowKit.intOf]; omega⟩
        intro j hj hjk
        by_cases e : j = k
        · subst e; rw [unhide HB]; exact hp
        · exact unhide H j hj (by omega)
      · have hp' : partB B = false := by simpa using hp
        rw [hp'] at HC
        have hno := hide (all_bad (p := partB) (unhide HL) (by rw [unhide HB]; exact hp'))
        go_wp2_with fail
        refine (unhide HC _).mono ?_
        rintro e w1 ⟨rfl, hw⟩
        rw [hw]
        go_wp2_with fail
        go_ret
        exact ⟨by rw [unhide hno]; rfl, rfl⟩
    · have hkl : k = s.size := by omega
      have hI : ¬ (k : Int) < (s.size : Int) := by omega
      have hall := hide (all_good (p := partB) (fun j hj => unhide H j hj (by omega)))
      clear hkl
      go_wp2_with fail
      go_ret
      exact ⟨by rw [unhide hall]; rfl, rfl⟩
end Go.Proofs.YtcafhmlpmbkhkaaGreatDoor
