/- names: keys, memos, tags, parts; the document's Key, Memo, Tag. -/
import Derived.Test.YtcafhmlpmbkhkaaGreatDoorNamA
import Derived.Lib.Bytes
namespace Go.Proofs.YtcafhmlpmbkhkaaGreatDoor
open Go Go.ChangeShapes Go.WideShapes Go.ChangeAt Go.RowKit
set_option linter.unusedVariables false
theorem empty_of_size {s : ByteArray} (h : s.size = 0) : s = ⟨#[]⟩ := by
  obtain ⟨d⟩ := s
  have : d = #[] := Array.eq_empty_of_size_eq_zero h
  rw [this]
theorem ne_of_size {s : ByteArray} (h : ¬ s.size = 0) : s.toList.isEmpty = false := by
  rw [Lib.toList_data, List.isEmpty_eq_false_iff]
  intro e
  have := congrArg List.length e
  exact h (by simpa using this)
def keyS (s : ByteArray) : Bool := decide (1 ≤ s.size) && decide (s.size ≤ 24) && allL keyB s
def memoS (s : ByteArray) : Bool := decide (s.size ≤ 80) && allL memoB s
set_option maxHeartbeats 1000000 in
set_option maxHeartbeats 1000000 in
/-- a text's first byte -/
def b0 (s : ByteArray) : Nat := (s.data.toList.getD 0 0).toNat
theorem b0_eq {s : ByteArray} (h : 0 < s.size) : (s[0]'h).toNat = b0 s := by
  obtain ⟨⟨l⟩⟩ := s
  cases l with
  | nil => exact absurd h (Nat.lt_irrefl 0)
  | cons a l => rfl
def tail1 (s : ByteArray) : ByteArray := s.extract 1 s.size
theorem tail1_size (s : ByteArray) : (tail1 s).size = s.size - 1 := by
  unfold tail1
  rw [ByteArray.size_extract]
  omega
def tagS (s : ByteArray) : Bool := decide (s.size = 0) || (decide (s.size ≤ 16) && loB (b0 s) && allL tagB (tail1 s))
def partS (s : ByteArray) : Bool := !decide (s.size = 0) && decide (s.size ≤ 16) && upB (b0 s) && allL partB (tail1 s)
set_option maxHeartbeats 1000000 in
set_option maxHeartbeats 1000000 in
theorem isPart_any (s : ByteArray) (hs : s.size ≤ 9223372036854775807) (w : World) : Calls Tryz.prog 206 #[.string s] w fun e w' => e = .returned (.bool (partS s)) ∧ w' = w := by
  have ha := hide (all_inPart (tail1 s) (by rw [tail1_size]; omega))
  by_cases h0 : s.size = 0
  · have e := empty_of_size h0
    subst e
    go_enter Tryz.func206, Tryz.ntmps206
    go_wp2_with fail
    go_ret
    exact ⟨rfl, rfl⟩
  · have hne := ne_of_size h0
    have hp : 0 < s.size := by omega
    have hc := hide (isUpper_any (b0 s))
    have hb := b0_eq hp
    by_cases h1 : s.size ≤ 16
    · have i1 : (s.size : Int) ≤ 16 := by omega
      by_cases h2 : upB (b0 s) = true
      · rw [h2] at hc
        have hf := hide (show partS s = allL partB (tail1 s) from by unfold partS; rw [decide_eq_false h0, decide_eq_true h1, h2]; rfl)
        go_enter Tryz.func206, Tryz.ntmps206
        go_wp2_with fail
        refine (unhide hc w).mono ?_
        rintro e w1 ⟨rfl, hw⟩
        rw [hw]
        go_wp2_with fail
        refine (unhide ha w).mono ?_
        rintro e w1 ⟨rfl, hw⟩
        rw [hw]
        go_wp2_with fail
        go_ret
        exact ⟨by rw [unhide hf]; rfl, rfl⟩
      · have h2' : upB (b0 s) = false := by simpa using h2
        rw [h2'] at hc
        have hf := hide (show partS s = false from by unfold partS; rw [decide_eq_false h0, decide_eq_true h1, h2']; rfl)
        go_enter Tryz.func206, Tryz.ntmps206
        go_wp2_with fail
        refine (unhide hc w).mono ?_
        rintro e w1 ⟨rfl, hw⟩
        rw [hw]
        go_wp2_with fail
        go_ret
        exact ⟨by rw [unhide hf]; rfl, rfl⟩
    · have i1 : ¬ (s.size : Int) ≤ 16 := by omega
      have hf := hide (show partS s = false from by unfold partS; rw [decide_eq_false h0, decide_eq_false h1]; rfl)
      go_enter Tryz.func206, Tryz.ntmps206
      go_wp2_with fail
      go_ret
      exact ⟨by rw [unhide hf]; rfl, rfl⟩
end Go.Proofs.YtcafhmlpmbkhkaaGreatDoor
