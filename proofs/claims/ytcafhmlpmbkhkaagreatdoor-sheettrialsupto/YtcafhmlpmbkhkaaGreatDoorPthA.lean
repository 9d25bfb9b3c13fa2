/- chart: Good (6), the document's Good (7), Parent (10). -/
import Derived.Test.YtcafhmlpmbkhkaaGreatDoorNamC
namespace Go.Proofs.YtcafhmlpmbkhkaaGreatDoor
open Go Go.ChangeShapes Go.WideShapes Go.ChangeAt Go.RowKit
set_option linter.unusedVariables false
set_option maxHeartbeats 1000000 in
theorem good_any (s : ByteArray) (hs : s.size < 4611686018427387904) (w : World) : Calls Tryz.prog 76 #[.string s] w fun e w' => e = .returned (.bool (nameL s.data.toList)) ∧ Below w.heap.size w w' := by
  have d := hide (isAccount_any s hs w)
  go_enter Tryz.func76, Tryz.ntmps76
  go_wp2_with fail
  refine (unhide d).mono ?_
  rintro e w1 ⟨rfl, hb⟩
  have HB := hide hb
  clear hb
  go_wp2_with fail
  go_ret
  exact ⟨rfl, unhide HB⟩
/-- the name above, and whether there is one -/
def parS (l : List UInt8) : ByteArray × Bool := if nameL l = true then (match ups l with | [] => (⟨#[]⟩, false) | p :: _ => (⟨p.toArray⟩, true)) else (⟨#[]⟩, false)
theorem ups_len_lt {s : ByteArray} {p : List UInt8} {t : List (List UInt8)} (h : ups s.data.toList = p :: t) : p.length < s.size := by
  by_cases hc : s.data.toList.contains 58 = true
  · obtain ⟨j, hj, _, hu, _⟩ := ups_some s hc
    rw [hu] at h
    injection h with h _
    rw [← h, List.length_take]
    omega
  · rw [ups_none _ (by simpa using hc)] at h
    cases h
set_option maxHeartbeats 2000000 in
theorem parent_any (s : ByteArray) (hs : s.size < 4611686018427387904) (w : World) : Calls Tryz.prog 216 #[.string s] w fun e w' => e = .returned (.tuple #[.string (parS s.data.toList).1, .bool (parS s.data.toList).2]) ∧ Below w.heap.size w w' := by
  have d := hide (good_any s hs w)
  by_cases hn : nameL s.data.toList = true
  · rw [hn] at d
    have dr := hide (isRoot_any s)
    by_cases hc : s.data.toList.contains 58 = true
    · obtain ⟨j, hj, hl, hu, hnn⟩ := ups_some s hc
      have hr : rootS s = false := by unfold rootS; rw [hc]; rfl
      rw [hr] at dr
      have dl := hide (fun W => Tryz.strings_LastIndex_one s ⟨#[58]⟩ rfl hs W)
      have e58 : (((⟨#[58]⟩ : ByteArray)[0]'(by decide)).toNat : Int) = 58 := rfl
      rw [e58, hl] at dl
      have hp : Hid (parS s.data.toList = (⟨(s.data.toList.take j).toArray⟩, true)) := by
        unfold parS
        rw [if_pos hn, hu]
        rfl
      have hjI : (j : Int) ≤ (s.size : Int) := by omega
      clear hn hc hl hu hnn hr e58
      go_enter Tryz.func216, Tryz.ntmps216
      go_wp2_with fail
      refine (unhide d).mono ?_
      rintro e w1 ⟨rfl, hb⟩
      have HB := hide hb
      clear hb
      go_wp2_with fail
      refine (unhide dr w1).mono ?_
      rintro e w2 ⟨rfl, hw⟩
      rw [hw]
      clear hw w2
      go_wp2_with fail
      refine (unhide dl w1).mono ?_
      rintro e w2 ⟨rfl, hw⟩
      rw [hw]
      clear hw w2
      go_wp2_with fail
      go_ret2
      rw [unhide hp, text_of (ext_take s j)]
      exact ⟨rfl, unhide HB⟩
    · have hc' : s.data.toList.contains 58 = false := by simpa using hc
      have hr : rootS s = true := by unfold rootS; rw [hc']; rfl
      rw [hr] at dr
      have hp : Hid (parS s.data.toList = (⟨#[]⟩, false)) := by
        unfold parS
        rw [if_pos hn, ups_none _ hc']
        rfl
      clear hn hc hc' hr
      go_enter Tryz.func216, Tryz.ntmps216
      go_wp2_with fail
      refine (unhide d).mono ?_
      rintro e w1 ⟨rfl, hb⟩
      have HB := hide hb
      clear hb
      go_wp2_with fail
      refine (unhide dr w1).mono ?_
      rintro e w2 ⟨rfl, hw⟩
      rw [hw]
      clear hw w2
      go_wp2_with fail
      go_ret2
      rw [unhide hp]
      exact ⟨rfl, unhide HB⟩
  · have hn' : nameL s.data.toList = false := by simpa using hn
    rw [hn'] at d
    have hp : Hid (parS s.data.toList = (⟨#[]⟩, false)) := by
      unfold parS
      rw [if_neg hn]
      rfl
    clear hn hn'
    go_enter Tryz.func216, Tryz.ntmps216
    go_wp2_with fail
    refine (unhide d).mono ?_
    rintro e w1 ⟨rfl, hb⟩
    have HB := hide hb
    clear hb
    go_wp2_with fail
    go_ret2
    rw [unhide hp]
    exact ⟨rfl, unhide HB⟩
end Go.Proofs.YtcafhmlpmbkhkaaGreatDoor
