import Derived.Test.YtcafhmlpmbkhkaaGreatDoorW24
/- Keys: names.IsKey (162), the document's Key (97). -/
namespace Go.Proofs.YtcafhmlpmbkhkaaGreatDoor
open Go Go.ChangeShapes Go.WideShapes Go.ChangeAt Go.RowKit
set_option linter.unusedVariables false
set_option linter.unusedSimpArgs false
set_option maxHeartbeats 1000000 in
theorem inKey_any (c : Nat) (w : World) : Calls Tryz.prog 208 #[.int .u8 (c : Int)] w fun e w' => e = .returned (.bool (keyB c)) ∧ w' = w := by
  have d0 := hide (inPart_any c)
  by_cases h0 : partB c = true
  · rw [h0] at d0
    have hf := hide (show keyB c = true from by unfold keyB; rw [h0]; rfl)
    go_enter Tryz.func208, Tryz.ntmps208
    go_wp2_with fail
    refine (unhide d0 w).mono ?_
    rintro e w1 ⟨rfl, hw⟩
    rw [hw]
    go_wp2_with fail
    go_ret
    exact ⟨by rw [unhide hf]; rfl, rfl⟩
  · have k0 : partB c = false := by simpa using h0
    rw [k0] at d0
    by_cases h1 : c = 95
    · subst h1
      go_enter Tryz.func208, Tryz.ntmps208
      go_wp2_with fail
      refine (unhide d0 w).mono ?_
      rintro e w1 ⟨rfl, hw⟩
      rw [hw]
      go_wp2_with fail
      go_ret
      exact ⟨rfl, rfl⟩
    · have j1 : ((c : Int) == 95) = false := by simp; omega
      by_cases h2 : c = 46
      · subst h2
        go_enter Tryz.func208, Tryz.ntmps208
        go_wp2_with fail
        refine (unhide d0 w).mono ?_
        rintro e w1 ⟨rfl, hw⟩
        rw [hw]
        go_wp2_with fail
        go_ret
        exact ⟨rfl, rfl⟩
      · have j2 : ((c : Int) == 46) = false := by simp; omega
        have hf := hide (show keyB c = false from by unfold keyB; rw [k0, decide_eq_false h1, decide_eq_false h2]; rfl)
        go_enter Tryz.func208, Tryz.ntmps208
        go_wp2_with fail
        refine (unhide d0 w).mono ?_
        rintro e w1 ⟨rfl, hw⟩
        rw [hw]
        go_wp2_with fail
        go_ret
        exact ⟨by rw [unhide hf]; rfl, rfl⟩
set_option maxHeartbeats 1000000 in
theorem all_inKey (s : ByteArray) (hs : s.size ≤ 9223372036854775807) (w : World) : Calls Tryz.prog 207 #[.string s, .func (.func 208) #[] #[]] w fun e w' => e = .returned (.bool (allL keyB s)) ∧ w' = w := by
  go_enter Tryz.func207, Tryz.ntmps207
  go_wp2_with fail
  go_loopw [8, 5] (fun vi v5 wr => ∃ k : Nat, k ≤ s.size ∧ vi = .int .i64 k ∧ (∀ j (hj : j < s.size), j < k → keyB (s[j]).toNat = true) ∧ wr = w) (fun i _ _ => s.size - (RowKit.intOf i).toNat)
  case atStart => exact ⟨0, by omega, rfl, fun j hj h => by omega, rfl⟩
  case round =>
    obtain ⟨k, hk, rfl, hd, rfl⟩ := hrel
    have H := hide hd
    clear hd
    by_cases hlt : k < s.size
    · have hI : (k : Int) < (s.size : Int) := by omega
      have hI0 : (0 : Int) ≤ (k : Int) := by omega
      obtain ⟨B, hB⟩ : ∃ B : Nat, (s[k]).toNat = B := ⟨_, rfl⟩
      have HB := hide hB
      have HC := hide (inKey_any B)
      have HL := hide hlt
      by_cases hp : keyB B = true
      · rw [hp] at HC
        go_wp2_with fail
        refine (unhide HC _).mono ?_
        rintro e w1 ⟨rfl, hw⟩
        rw [hw]
        go_wp2_with fail
        refine ⟨⟨k + 1, by omega, by go_num, ?_, trivial⟩, by simp [RowKit.intOf]; omega⟩
        intro j hj hjk
        by_cases e : j = k
        · subst e; rw [unhide HB]; exact hp
        · exact unhide H j hj (by omega)
      · have hp' : keyB B = false := by simpa using hp
        rw [hp'] at HC
        have hno := hide (all_bad (p := keyB) (unhide HL) (by rw [unhide HB]; exact hp'))
        go_wp2_with fail
        refine (unhide HC _).mono ?_
        rintro e w1 ⟨rfl, hw⟩
        rw [hw]
        go_wp2_with fail
        go_ret
        exact ⟨by rw [unhide hno]; rfl, rfl⟩
    · have hkl : k = s.size := by omega
      have hI : ¬ (k : Int) < (s.size : Int) := by omega
      have hall := hide (all_good (p := keyB) (fun j hj => unhide H j hj (by omega)))
      clear hkl
      go_wp2_with fail
      go_ret
      exact ⟨by rw [unhide hall]; rfl, rfl⟩
set_option maxHeartbeats 1000000 in
theorem isKey_any (s : ByteArray) (hs : s.size ≤ 9223372036854775807) (w : World) : Calls Tryz.prog 162 #[.string s] w fun e w' => e = .returned (.bool (keyS s)) ∧ w' = w := by
  have ha := hide (all_inKey s hs)
  by_cases h0 : s.size = 0
  · have e := empty_of_size h0
    subst e
    go_enter Tryz.func162, Tryz.ntmps162
    go_wp2_with fail
    go_ret
    exact ⟨rfl, rfl⟩
  · have hne := ne_of_size h0
    by_cases h1 : s.size ≤ 24
    · have i1 : (s.size : Int) ≤ 24 := by omega
      have hf := hide (show keyS s = allL keyB s from by unfold keyS; rw [decide_eq_true (show 1 ≤ s.size by omega), decide_eq_true h1]; rfl)
      go_enter Tryz.func162, Tryz.ntmps162
      go_wp2_with fail
      refine (unhide ha w).mono ?_
      rintro e w1 ⟨rfl, hw⟩
      rw [hw]
      go_wp2_with fail
      go_ret
      exact ⟨by rw [unhide hf]; rfl, rfl⟩
    · have i1 : ¬ (s.size : Int) ≤ 24 := by omega
      have hf := hide (show keyS s = false from by unfold keyS; rw [decide_eq_false h1]; simp)
      go_enter Tryz.func162, Tryz.ntmps162
      go_wp2_with fail
      go_ret
      exact ⟨by rw [unhide hf]; rfl, rfl⟩
theorem key_iff {s : ByteArray} (h1 : 1 ≤ s.size) (h2 : s.size ≤ 24) : keyS s = allL keyB s := by unfold keyS; rw [decide_eq_true h1, decide_eq_true h2]; rfl
theorem rkey_short (s : ByteArray) (w : World) (h0 : s.size = 0) : Calls Tryz.prog 97 #[.string s] w fun e w' => e = .returned (.bool (keyS s)) ∧ w' = w := by
  have e := empty_of_size h0
  subst e
  go_enter Tryz.func97, Tryz.ntmps97
  go_wp2_with fail
  go_ret
  exact ⟨rfl, rfl⟩
theorem rkey_long (s : ByteArray) (hs : s.size ≤ 9223372036854775807) (w : World) (h0 : 24 < s.size) : Calls Tryz.prog 97 #[.string s] w fun e w' => e = .returned (.bool (keyS s)) ∧ w' = w := by
  have i1 : (24 : Int) < (s.size : Int) := by omega
  have i2 : ¬ (s.size : Int) < 1 := by omega
  have hf := hide (show keyS s = false from by unfold keyS; rw [decide_eq_false (show ¬ s.size ≤ 24 by omega)]; simp)
  go_enter Tryz.func97, Tryz.ntmps97
  go_wp2_with fail
  go_ret
  exact ⟨by rw [unhide hf]; rfl, rfl⟩
set_option maxRecDepth 100000 in
set_option maxHeartbeats 4000000 in
theorem rkey_any (s : ByteArray) (hs : s.size ≤ 9223372036854775807) (w : World) : Calls Tryz.prog 97 #[.string s] w fun e w' => e = .returned (.bool (keyS s)) ∧ w' = w := by
  by_cases h0 : s.size = 0
  · exact rkey_short s w h0
  by_cases h1 : 24 < s.size
  · exact rkey_long s hs w h1
  have i1 : ¬ (24 : Int) < (s.size : Int) := by omega
  have i2 : ¬ (s.size : Int) < 1 := by omega
  have HKey := hide (key_iff (s := s) (by omega) (by omega))
  go_enter Tryz.func97, Tryz.ntmps97
  go_wp2_with fail
  go_loopw [3] (fun vi wr => ∃ k : Nat, k ≤ s.size ∧ vi = .int .i64 k ∧ (∀ j (hj : j < s.size), j < k → keyB (s[j]).toNat = true) ∧ wr = w) (fun i _ => s.size - (RowKit.intOf i).toNat)
  case atStart => exact ⟨0, by omega, rfl, fun j hj h => by omega, rfl⟩
  case round =>
    obtain ⟨k, hk, rfl, hd, rfl⟩ := hrel
    have H := hide hd
    clear hd
    by_cases hlt : k < s.size
    · have hI : (k : Int) < (s.size : Int) := by omega
      have hI0 : (0 : Int) ≤ (k : Int) := by omega
      obtain ⟨B, hB⟩ : ∃ B : Nat, (s[k]).toNat = B := ⟨_, rfl⟩
      have HB := hide hB
      have HL := hide hlt
      have dU := hide (rupper_any B)
      have dL := hide (rlower_any B)
      have dD := hide (rdigit_any B)
      by_cases t0 : upB B = true
      · rw [t0] at dU
        have HP := hide (show keyB B = true from by simp_all [keyB, partB, tagB])
        go_wp2_with fail
        refine (unhide dU wr).mono ?_
        rintro e w1 ⟨rfl, hw⟩
        rw [hw]
        clear hw w1
        go_wp2_with fail
        refine (unhide dL wr).mono ?_
        rintro e w1 ⟨rfl, hw⟩
        rw [hw]
        clear hw w1
        go_wp2_with fail
        refine (unhide dD wr).mono ?_
        rintro e w1 ⟨rfl, hw⟩
        rw [hw]
        clear hw w1
        go_wp2_with fail
        refine ⟨⟨k + 1, by omega, by go_num, ?_, trivial⟩, by simp [RowKit.intOf]; omega⟩
        intro j hj hjk
        by_cases e : j = k
        · subst e; rw [unhide HB]; exact unhide HP
        · exact unhide H j hj (by omega)
      · have u0 : upB B = false := by simpa using t0
        rw [u0] at dU
        by_cases t1 : loB B = true
        · rw [t1] at dL
          have HP := hide (show keyB B = true from by simp_all [keyB, partB, tagB])
          go_wp2_with fail
          refine (unhide dU wr).mono ?_
          rintro e w1 ⟨rfl, hw⟩
          rw [hw]
          clear hw w1
          go_wp2_with fail
          refine (unhide dL wr).mono ?_
          rintro e w1 ⟨rfl, hw⟩
          rw [hw]
          clear hw w1
          go_wp2_with fail
          refine (unhide dD wr).mono ?_
          rintro e w1 ⟨rfl, hw⟩
          rw [hw]
          clear hw w1
          go_wp2_with fail
          refine ⟨⟨k + 1, by omega, by go_num, ?_, trivial⟩, by simp [RowKit.intOf]; omega⟩
          intro j hj hjk
          by_cases e : j = k
          · subst e; rw [unhide HB]; exact unhide HP
          · exact unhide H j hj (by omega)
        · have u1 : loB B = false := by simpa using t1
          rw [u1] at dL
          by_cases t2 : dgB B = true
          · rw [t2] at dD
            have HP := hide (show keyB B = true from by simp_all [keyB, partB, tagB])
            go_wp2_with fail
            refine (unhide dU wr).mono ?_
            rintro e w1 ⟨rfl, hw⟩
            rw [hw]
            clear hw w1
            go_wp2_with fail
            refine (unhide dL wr).mono ?_
            rintro e w1 ⟨rfl, hw⟩
            rw [hw]
            clear hw w1
            go_wp2_with fail
            refine (unhide dD wr).mono ?_
            rintro e w1 ⟨rfl, hw⟩
            rw [hw]
            clear hw w1
            go_wp2_with fail
            refine ⟨⟨k + 1, by omega, by go_num, ?_, trivial⟩, by simp [RowKit.intOf]; omega⟩
            intro j hj hjk
            by_cases e : j = k
            · subst e; rw [unhide HB]; exact unhide HP
            · exact unhide H j hj (by omega)
          · have u2 : dgB B = false := by simpa using t2
            rw [u2] at dD
            by_cases t3 : B = 45
            · subst t3
              have HP := hide (show keyB 45 = true from by simp_all [keyB, partB, tagB])
              go_wp2_with fail
              refine (unhide dU wr).mono ?_
              rintro e w1 ⟨rfl, hw⟩
              rw [hw]
              clear hw w1
              go_wp2_with fail
              refine (unhide dL wr).mono ?_
              rintro e w1 ⟨rfl, hw⟩
              rw [hw]
              clear hw w1
              go_wp2_with fail
              refine (unhide dD wr).mono ?_
              rintro e w1 ⟨rfl, hw⟩
              rw [hw]
              clear hw w1
              go_wp2_with fail
              refine ⟨⟨k + 1, by omega, by go_num, ?_, trivial⟩, by simp [RowKit.intOf]; omega⟩
              intro j hj hjk
              by_cases e : j = k
              · subst e; rw [unhide HB]; exact unhide HP
              · exact unhide H j hj (by omega)
            · have v3 : ((B : Int) == 45) = false := by simp; omega
              have x3 : ((B : Int) != 45) = true := by simp; omega
              by_cases t4 : B = 95
              · subst t4
                have HP := hide (show keyB 95 = true from by simp_all [keyB, partB, tagB])
                go_wp2_with fail
                refine (unhide dU wr).mono ?_
                rintro e w1 ⟨rfl, hw⟩
                rw [hw]
                clear hw w1
                go_wp2_with fail
                refine (unhide dL wr).mono ?_
                rintro e w1 ⟨rfl, hw⟩
                rw [hw]
                clear hw w1
                go_wp2_with fail
                refine (unhide dD wr).mono ?_
                rintro e w1 ⟨rfl, hw⟩
                rw [hw]
                clear hw w1
                go_wp2_with fail
                refine ⟨⟨k + 1, by omega, by go_num, ?_, trivial⟩, by simp [RowKit.intOf]; omega⟩
                intro j hj hjk
                by_cases e : j = k
                · subst e; rw [unhide HB]; exact unhide HP
                · exact unhide H j hj (by omega)
              · have v4 : ((B : Int) == 95) = false := by simp; omega
                have x4 : ((B : Int) != 95) = true := by simp; omega
                by_cases t5 : B = 46
                · subst t5
                  have HP := hide (show keyB 46 = true from by simp_all [keyB, partB, tagB])
                  go_wp2_with fail
                  refine (unhide dU wr).mono ?_
                  rintro e w1 ⟨rfl, hw⟩
                  rw [hw]
                  clear hw w1
                  go_wp2_with fail
                  refine (unhide dL wr).mono ?_
                  rintro e w1 ⟨rfl, hw⟩
                  rw [hw]
                  clear hw w1
                  go_wp2_with fail
                  refine (unhide dD wr).mono ?_
                  rintro e w1 ⟨rfl, hw⟩
                  rw [hw]
                  clear hw w1
                  go_wp2_with fail
                  refine ⟨⟨k + 1, by omega, by go_num, ?_, trivial⟩, by simp [RowKit.intOf]; omega⟩
                  intro j hj hjk
                  by_cases e : j = k
                  · subst e; rw [unhide HB]; exact unhide HP
                  · exact unhide H j hj (by omega)
                · have v5 : ((B : Int) == 46) = false := by simp; omega
                  have x5 : ((B : Int) != 46) = true := by simp; omega
                  have HP := hide (show keyB B = false from by simp_all [keyB, partB, tagB])
                  have hno := hide ((unhide HKey).trans (all_bad (p := keyB) (unhide HL) (by rw [unhide HB]; exact unhide HP)))
                  go_wp2_with fail
                  refine (unhide dU wr).mono ?_
                  rintro e w1 ⟨rfl, hw⟩
                  rw [hw]
                  clear hw w1
                  go_wp2_with fail
                  refine (unhide dL wr).mono ?_
                  rintro e w1 ⟨rfl, hw⟩
                  rw [hw]
                  clear hw w1
                  go_wp2_with fail
                  refine (unhide dD wr).mono ?_
                  rintro e w1 ⟨rfl, hw⟩
                  rw [hw]
                  clear hw w1
                  go_wp2_with fail
                  go_ret
                  exact ⟨by rw [unhide hno]; rfl, rfl⟩
    · have hkl : k = s.size := by omega
      have hI : ¬ (k : Int) < (s.size : Int) := by omega
      have hall := hide ((unhide HKey).trans (all_good (p := keyB) (fun j hj => unhide H j hj (by omega))))
      clear hkl
      go_wp2_with fail
      go_ret
      exact ⟨by rw [unhide hall]; rfl, rfl⟩
end Go.Proofs.YtcafhmlpmbkhkaaGreatDoor
