/- The document's Name (ref05). Ported from the chart's seat. -/
import Derived.Test.YtcafhmlpmbkhkaaGreatDoorNamC
namespace Go.Proofs.YtcafhmlpmbkhkaaGreatDoor
open Go Go.ChangeShapes Go.WideShapes Go.ChangeAt Go.RowKit
set_option linter.unusedVariables false
theorem rupper_any (c : Nat) (w : World) : Calls Tryz.prog 139 #[.int .u8 (c : Int)] w fun e w' => e = .returned (.bool (upB c)) ∧ w' = w := by
  unfold upB
  by_cases h1 : 65 ≤ c
  · have i1 : (65 : Int) ≤ (c : Int) := by omega
    by_cases h2 : c ≤ 90
    · have i2 : (c : Int) ≤ 90 := by omega
      go_enter Tryz.func139, Tryz.ntmps139
      go_wp2_with fail
      go_ret
      exact ⟨by simp_all, rfl⟩
    · have i2 : ¬ (c : Int) ≤ 90 := by omega
      go_enter Tryz.func139, Tryz.ntmps139
      go_wp2_with fail
      go_ret
      exact ⟨by simp_all, rfl⟩
  · have i1 : ¬ (65 : Int) ≤ (c : Int) := by omega
    go_enter Tryz.func139, Tryz.ntmps139
    go_wp2_with fail
    go_ret
    exact ⟨by simp_all, rfl⟩
theorem rlower_any (c : Nat) (w : World) : Calls Tryz.prog 140 #[.int .u8 (c : Int)] w fun e w' => e = .returned (.bool (loB c)) ∧ w' = w := by
  unfold loB
  by_cases h1 : 97 ≤ c
  · have i1 : (97 : Int) ≤ (c : Int) := by omega
    by_cases h2 : c ≤ 122
    · have i2 : (c : Int) ≤ 122 := by omega
      go_enter Tryz.func140, Tryz.ntmps140
      go_wp2_with fail
      go_ret
      exact ⟨by simp_all, rfl⟩
    · have i2 : ¬ (c : Int) ≤ 122 := by omega
      go_enter Tryz.func140, Tryz.ntmps140
      go_wp2_with fail
      go_ret
      exact ⟨by simp_all, rfl⟩
  · have i1 : ¬ (97 : Int) ≤ (c : Int) := by omega
    go_enter Tryz.func140, Tryz.ntmps140
    go_wp2_with fail
    go_ret
    exact ⟨by simp_all, rfl⟩
theorem rdigit_any (c : Nat) (w : World) : Calls Tryz.prog 141 #[.int .u8 (c : Int)] w fun e w' => e = .returned (.bool (dgB c)) ∧ w' = w := by
  unfold dgB
  by_cases h1 : 48 ≤ c
  · have i1 : (48 : Int) ≤ (c : Int) := by omega
    by_cases h2 : c ≤ 57
    · have i2 : (c : Int) ≤ 57 := by omega
      go_enter Tryz.func141, Tryz.ntmps141
      go_wp2_with fail
      go_ret
      exact ⟨by simp_all, rfl⟩
    · have i2 : ¬ (c : Int) ≤ 57 := by omega
      go_enter Tryz.func141, Tryz.ntmps141
      go_wp2_with fail
      go_ret
      exact ⟨by simp_all, rfl⟩
  · have i1 : ¬ (48 : Int) ≤ (c : Int) := by omega
    go_enter Tryz.func141, Tryz.ntmps141
    go_wp2_with fail
    go_ret
    exact ⟨by simp_all, rfl⟩
set_option maxRecDepth 100000 in
set_option maxHeartbeats 8000000 in
theorem rname_any (s : ByteArray) (hs : s.size ≤ 9223372036854775000) (w : World) : Calls Tryz.prog 53 #[.string s] w fun e w' => e = .returned (.bool (nameL s.data.toList)) ∧ w' = w := by
  go_enter Tryz.func53, Tryz.ntmps53
  go_wp2_with fail
  go_loopw [3, 4, 5] (fun vp vs vi wr => ∃ (k parts size : Nat), k ≤ s.size ∧ vp = .int .i64 parts ∧ vs = .int .i64 size ∧ vi = .int .i64 k ∧ size ≤ 16 ∧ parts ≤ k + 1 ∧ nm 1 0 s.data.toList = nm parts size (s.data.toList.drop k) ∧ wr = w) (fun _ _ i _ => s.size - (RowKit.intOf i).toNat)
  case atStart => exact ⟨0, 1, 0, by omega, rfl, rfl, rfl, by omega, by omega, rfl, rfl⟩
  case round =>
    obtain ⟨k, parts, size, hk, rfl, rfl, rfl, h16, hpk, hd, rfl⟩ := hrel
    by_cases hlt : k < s.size
    · have hI : (k : Int) < (s.size : Int) := by omega
      have hI0 : (0 : Int) ≤ (k : Int) := by omega
      rw [drop_byte hlt, nm_step] at hd
      obtain ⟨c, hc⟩ : ∃ c, s[k] = c := ⟨_, rfl⟩
      rw [hc] at hd
      obtain ⟨B, hB⟩ : ∃ B : Nat, c.toNat = B := ⟨_, rfl⟩
      have hB' : (s[k]).toNat = B := by rw [hc]; exact hB
      rw [hB] at hd
      have c58 : c = 58 ↔ B = 58 := by
        constructor
        · intro e; rw [← hB, e]; rfl
        · intro e; exact UInt8.toNat_inj.1 (by rw [hB, e]; rfl)
      simp only [c58] at hd
      clear hc hB c58
      have dU := hide (rupper_any B)
      have dL := hide (rlower_any B)
      have dD := hide (rdigit_any B)
      by_cases t58 : B = 58
      · subst t58
        rw [if_pos rfl] at hd
        by_cases z : size = 0
        · subst z
          rw [if_pos rfl, nm_name] at hd
          have HD := hide hd
          clear hd
          go_wp2_with fail
          refine (unhide dU wr).mono ?_
          rintro e w1 ⟨rfl, hw⟩
          rw [hw]
          clear hw w1
          go_wp2_with fail
          refine (unhide dL wr).mono ?_
          rintro e w1 ⟨rfl, hw⟩
          rw [hw]
          clear hw w1
          go_wp2_with fail
          refine (unhide dD wr).mono ?_
          rintro e w1 ⟨rfl, hw⟩
          rw [hw]
          clear hw w1
          go_wp2_with fail
          go_ret
          exact ⟨by rw [unhide HD]; rfl, rfl⟩
        · have z1 : ((size : Int) == 0) = false := by simp; omega
          rw [if_neg z] at hd
          have HD := hide hd
          clear hd
          go_wp2_with fail
          refine (unhide dU wr).mono ?_
          rintro e w1 ⟨rfl, hw⟩
          rw [hw]
          clear hw w1
          go_wp2_with fail
          refine (unhide dL wr).mono ?_
          rintro e w1 ⟨rfl, hw⟩
          rw [hw]
          clear hw w1
          go_wp2_with fail
          refine (unhide dD wr).mono ?_
          rintro e w1 ⟨rfl, hw⟩
          rw [hw]
          clear hw w1
          go_wp2_with fail
          refine ⟨⟨k + 1, parts + 1, 0, by omega, by go_num, by go_num, by go_num, by omega, by omega, unhide HD, trivial⟩, by simp [RowKit.intOf]; omega⟩
      · have v58 : ((B : Int) == 58) = false := by simp; omega
        rw [if_neg t58] at hd
        by_cases z : size = 0
        · subst z
          by_cases t0 : upB B = true
          · rw [t0] at dU
            have hp : partB B = true := by unfold partB; rw [t0]; rfl
            rw [if_neg (by simp [t0, hp])] at hd
            rw [if_neg (by omega)] at hd
            have HD := hide hd
            clear hd
            go_wp2_with fail
            refine (unhide dU wr).mono ?_
            rintro e w1 ⟨rfl, hw⟩
            rw [hw]
            clear hw w1
            go_wp2_with fail
            refine (unhide dL wr).mono ?_
            rintro e w1 ⟨rfl, hw⟩
            rw [hw]
            clear hw w1
            go_wp2_with fail
            refine (unhide dD wr).mono ?_
            rintro e w1 ⟨rfl, hw⟩
            rw [hw]
            clear hw w1
            go_wp2_with fail
            refine ⟨⟨k + 1, parts, 1, by omega, by go_num, by go_num, by go_num, by omega, by omega, unhide HD, trivial⟩, by simp [RowKit.intOf]; omega⟩
          · have u0 : upB B = false := by simpa using t0
            rw [u0] at dU
            rw [if_pos (.inl ⟨rfl, u0⟩)] at hd
            rw [nm_name] at hd
            have HD := hide hd
            clear hd
            go_wp2_with fail
            refine (unhide dU wr).mono ?_
            rintro e w1 ⟨rfl, hw⟩
            rw [hw]
            clear hw w1
            go_wp2_with fail
            refine (unhide dL wr).mono ?_
            rintro e w1 ⟨rfl, hw⟩
            rw [hw]
            clear hw w1
            go_wp2_with fail
            refine (unhide dD wr).mono ?_
            rintro e w1 ⟨rfl, hw⟩
            rw [hw]
            clear hw w1
            go_wp2_with fail
            go_ret
            exact ⟨by rw [unhide HD]; rfl, rfl⟩
        · have z1 : ((size : Int) == 0) = false := by simp; omega
          by_cases t0 : upB B = true
          · rw [t0] at dU
            have hp : partB B = true := by simp [partB, tagB, t0]
            rw [if_neg (by simp [z, hp])] at hd
            by_cases hz : 16 < size + 1
            · have hz1 : (16 : Int) < (size : Int) + 1 := by omega
              rw [if_pos hz, nm_name] at hd
              have HD := hide hd
              clear hd
              go_wp2_with fail
              refine (unhide dU wr).mono ?_
              rintro e w1 ⟨rfl, hw⟩
              rw [hw]
              clear hw w1
              go_wp2_with fail
              refine (unhide dL wr).mono ?_
              rintro e w1 ⟨rfl, hw⟩
              rw [hw]
              clear hw w1
              go_wp2_with fail
              refine (unhide dD wr).mono ?_
              rintro e w1 ⟨rfl, hw⟩
              rw [hw]
              clear hw w1
              go_wp2_with fail
              go_ret
              exact ⟨by rw [unhide HD]; rfl, rfl⟩
            · have hz1 : ¬ (16 : Int) < (size : Int) + 1 := by omega
              rw [if_neg hz] at hd
              have HD := hide hd
              clear hd
              go_wp2_with fail
              refine (unhide dU wr).mono ?_
              rintro e w1 ⟨rfl, hw⟩
              rw [hw]
              clear hw w1
              go_wp2_with fail
              refine (unhide dL wr).mono ?_
              rintro e w1 ⟨rfl, hw⟩
              rw [hw]
              clear hw w1
              go_wp2_with fail
              refine (unhide dD wr).mono ?_
              rintro e w1 ⟨rfl, hw⟩
              rw [hw]
              clear hw w1
              go_wp2_with fail
              refine ⟨⟨k + 1, parts, size + 1, by omega, by go_num, by go_num, by go_num, by omega, by omega, unhide HD, trivial⟩, by simp [RowKit.intOf]; omega⟩
          · have u0 : upB B = false := by simpa using t0
            rw [u0] at dU
            by_cases t1 : loB B = true
            · rw [t1] at dL
              have hp : partB B = true := by simp [partB, tagB, t1]
              rw [if_neg (by simp [z, hp])] at hd
              by_cases hz : 16 < size + 1
              · have hz1 : (16 : Int) < (size : Int) + 1 := by omega
                rw [if_pos hz, nm_name] at hd
                have HD := hide hd
                clear hd
                go_wp2_with fail
                refine (unhide dU wr).mono ?_
                rintro e w1 ⟨rfl, hw⟩
                rw [hw]
                clear hw w1
                go_wp2_with fail
                refine (unhide dL wr).mono ?_
                rintro e w1 ⟨rfl, hw⟩
                rw [hw]
                clear hw w1
                go_wp2_with fail
                refine (unhide dD wr).mono ?_
                rintro e w1 ⟨rfl, hw⟩
                rw [hw]
                clear hw w1
                go_wp2_with fail
                go_ret
                exact ⟨by rw [unhide HD]; rfl, rfl⟩
              · have hz1 : ¬ (16 : Int) < (size : Int) + 1 := by omega
                rw [if_neg hz] at hd
                have HD := hide hd
                clear hd
                go_wp2_with fail
                refine (unhide dU wr).mono ?_
                rintro e w1 ⟨rfl, hw⟩
                rw [hw]
                clear hw w1
                go_wp2_with fail
                refine (unhide dL wr).mono ?_
                rintro e w1 ⟨rfl, hw⟩
                rw [hw]
                clear hw w1
                go_wp2_with fail
                refine (unhide dD wr).mono ?_
                rintro e w1 ⟨rfl, hw⟩
                rw [hw]
                clear hw w1
                go_wp2_with fail
                refine ⟨⟨k + 1, parts, size + 1, by omega, by go_num, by go_num, by go_num, by omega, by omega, unhide HD, trivial⟩, by simp [RowKit.intOf]; omega⟩
            · have u1 : loB B = false := by simpa using t1
              rw [u1] at dL
              by_cases t2 : dgB B = true
              · rw [t2] at dD
                have hp : partB B = true := by simp [partB, tagB, t2]
                rw [if_neg (by simp [z, hp])] at hd
                by_cases hz : 16 < size + 1
                · have hz1 : (16 : Int) < (size : Int) + 1 := by omega
                  rw [if_pos hz, nm_name] at hd
                  have HD := hide hd
                  clear hd
                  go_wp2_with fail
                  refine (unhide dU wr).mono ?_
                  rintro e w1 ⟨rfl, hw⟩
                  rw [hw]
                  clear hw w1
                  go_wp2_with fail
                  refine (unhide dL wr).mono ?_
                  rintro e w1 ⟨rfl, hw⟩
                  rw [hw]
                  clear hw w1
                  go_wp2_with fail
                  refine (unhide dD wr).mono ?_
                  rintro e w1 ⟨rfl, hw⟩
                  rw [hw]
                  clear hw w1
                  go_wp2_with fail
                  go_ret
                  exact ⟨by rw [unhide HD]; rfl, rfl⟩
                · have hz1 : ¬ (16 : Int) < (size : Int) + 1 := by omega
                  rw [if_neg hz] at hd
                  have HD := hide hd
                  clear hd
                  go_wp2_with fail
                  refine (unhide dU wr).mono ?_
                  rintro e w1 ⟨rfl, hw⟩
                  rw [hw]
                  clear hw w1
                  go_wp2_with fail
                  refine (unhide dL wr).mono ?_
                  rintro e w1 ⟨rfl, hw⟩
                  rw [hw]
                  clear hw w1
                  go_wp2_with fail
                  refine (unhide dD wr).mono ?_
                  rintro e w1 ⟨rfl, hw⟩
                  rw [hw]
                  clear hw w1
                  go_wp2_with fail
                  refine ⟨⟨k + 1, parts, size + 1, by omega, by go_num, by go_num, by go_num, by omega, by omega, unhide HD, trivial⟩, by simp [RowKit.intOf]; omega⟩
              · have u2 : dgB B = false := by simpa using t2
                rw [u2] at dD
                by_cases t3 : B = 45
                · subst t3
                  rw [if_neg (by simp [z]; rfl)] at hd
                  by_cases hz : 16 < size + 1
                  · have hz1 : (16 : Int) < (size : Int) + 1 := by omega
                    rw [if_pos hz, nm_name] at hd
                    have HD := hide hd
                    clear hd
                    go_wp2_with fail
                    refine (unhide dU wr).mono ?_
                    rintro e w1 ⟨rfl, hw⟩
                    rw [hw]
                    clear hw w1
                    go_wp2_with fail
                    refine (unhide dL wr).mono ?_
                    rintro e w1 ⟨rfl, hw⟩
                    rw [hw]
                    clear hw w1
                    go_wp2_with fail
                    refine (unhide dD wr).mono ?_
                    rintro e w1 ⟨rfl, hw⟩
                    rw [hw]
                    clear hw w1
                    go_wp2_with fail
                    go_ret
                    exact ⟨by rw [unhide HD]; rfl, rfl⟩
                  · have hz1 : ¬ (16 : Int) < (size : Int) + 1 := by omega
                    rw [if_neg hz] at hd
                    have HD := hide hd
                    clear hd
                    go_wp2_with fail
                    refine (unhide dU wr).mono ?_
                    rintro e w1 ⟨rfl, hw⟩
                    rw [hw]
                    clear hw w1
                    go_wp2_with fail
                    refine (unhide dL wr).mono ?_
                    rintro e w1 ⟨rfl, hw⟩
                    rw [hw]
                    clear hw w1
                    go_wp2_with fail
                    refine (unhide dD wr).mono ?_
                    rintro e w1 ⟨rfl, hw⟩
                    rw [hw]
                    clear hw w1
                    go_wp2_with fail
                    refine ⟨⟨k + 1, parts, size + 1, by omega, by go_num, by go_num, by go_num, by omega, by omega, unhide HD, trivial⟩, by simp [RowKit.intOf]; omega⟩
                · have v3 : ((B : Int) == 45) = false := by simp; omega
                  have hp : partB B = false := by simp [partB, tagB, u0, u1, u2, t3]
                  rw [if_pos (.inr hp)] at hd
                  rw [nm_name] at hd
                  have HD := hide hd
                  clear hd
                  go_wp2_with fail
                  refine (unhide dU wr).mono ?_
                  rintro e w1 ⟨rfl, hw⟩
                  rw [hw]
                  clear hw w1
                  go_wp2_with fail
                  refine (unhide dL wr).mono ?_
                  rintro e w1 ⟨rfl, hw⟩
                  rw [hw]
                  clear hw w1
                  go_wp2_with fail
                  refine (unhide dD wr).mono ?_
                  rintro e w1 ⟨rfl, hw⟩
                  rw [hw]
                  clear hw w1
                  go_wp2_with fail
                  go_ret
                  exact ⟨by rw [unhide HD]; rfl, rfl⟩
    · have hkl : k = s.size := by omega
      have hI : ¬ (k : Int) < (s.size : Int) := by omega
      rw [List.drop_eq_nil_of_le (by simp; omega), nm_name] at hd
      have HD := hide (show nameL s.data.toList = (decide (0 < size) && decide (parts ≤ 6)) from hd)
      clear hd hkl
      by_cases z : 0 < size
      · have z1 : (0 : Int) < (size : Int) := by omega
        by_cases y : parts ≤ 6
        · have y1 : (parts : Int) ≤ 6 := by omega
          rw [decide_eq_true z, decide_eq_true y] at HD
          go_wp2_with fail
          go_ret
          exact ⟨by rw [unhide HD]; rfl, rfl⟩
        · have y1 : ¬ (parts : Int) ≤ 6 := by omega
          rw [decide_eq_true z, decide_eq_false y] at HD
          go_wp2_with fail
          go_ret
          exact ⟨by rw [unhide HD]; rfl, rfl⟩
      · have z1 : ¬ (0 : Int) < (size : Int) := by omega
        rw [decide_eq_false z] at HD
        go_wp2_with fail
        go_ret
        exact ⟨by rw [unhide HD]; rfl, rfl⟩
end Go.Proofs.YtcafhmlpmbkhkaaGreatDoor
