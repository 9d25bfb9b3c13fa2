import Derived.Test.YtdeibifjiefapaaGreatDoorW04
import Derived.Test.YtdeibifjiefapaaGreatDoorW05
/- The document's Name (ref05). Ported from the chart's seat. -/
namespace Go.Proofs.YtdeibifjiefapaaGreatDoor
open Go Go.ChangeShapes Go.WideShapes Go.ChangeAt Go.RowKit
set_option linter.unusedVariables false
theorem rupper_any (c : Nat) (w : World) : Calls Tryz.prog 224 #[.int .u8 (c : Int)] w fun e w' => e = .returned (.bool (upB c)) ∧ w' = w := by
  unfold upB
  by_cases h1 : 65 ≤ c
  · have i1 : (65 : Int) ≤ (c : Int) := by omega
    by_cases h2 : c ≤ 90
    · have i2 : (c : Int) ≤ 90 := by omega
      go_enter Tryz.func224, Tryz.ntmps224
      go_wp2_with fail
      go_ret
      exact ⟨by simp_all, rfl⟩
    · have i2 : ¬ (c : Int) ≤ 90 := by omega
      go_enter Tryz.func224, Tryz.ntmps224
      go_wp2_with fail
      go_ret
      exact ⟨by simp_all, rfl⟩
  · have i1 : ¬ (65 : Int) ≤ (c : Int) := by omega
    go_enter Tryz.func224, Tryz.ntmps224
    go_wp2_with fail
    go_ret
    exact ⟨by simp_all, rfl⟩
theorem rlower_any (c : Nat) (w : World) : Calls Tryz.prog 225 #[.int .u8 (c : Int)] w fun e w' => e = .returned (.bool (loB c)) ∧ w' = w := by
  unfold loB
  by_cases h1 : 97 ≤ c
  · have i1 : (97 : Int) ≤ (c : Int) := by omega
    by_cases h2 : c ≤ 122
    · have i2 : (c : Int) ≤ 122 := by omega
      go_enter Tryz.func225, Tryz.ntmps225
      go_wp2_with fail
      go_ret
      exact ⟨by simp_all, rfl⟩
    · have i2 : ¬ (c : Int) ≤ 122 := by omega
      go_enter Tryz.func225, Tryz.ntmps225
      go_wp2_with fail
      go_ret
      exact ⟨by simp_all, rfl⟩
  · have i1 : ¬ (97 : Int) ≤ (c : Int) := by omega
    go_enter Tryz.func225, Tryz.ntmps225
    go_wp2_with fail
    go_ret
    exact ⟨by simp_all, rfl⟩
theorem rdigit_any (c : Nat) (w : World) : Calls Tryz.prog 226 #[.int .u8 (c : Int)] w fun e w' => e = .returned (.bool (dgB c)) ∧ w' = w := by
  unfold dgB
  by_cases h1 : 48 ≤ c
  · have i1 : (48 : Int) ≤ (c : Int) := by omega
    by_cases h2 : c ≤ 57
    · have i2 : (c : Int) ≤ 57 := by omega
      go_enter Tryz.func226, Tryz.ntmps226
      go_wp2_with fail
      go_ret
      exact ⟨by simp_all, rfl⟩
    · have i2 : ¬ (c : Int) ≤ 57 := by omega
      go_enter Tryz.func226, Tryz.ntmps226
      go_wp2_with fail
      go_ret
      exact ⟨by simp_all, rfl⟩
  · have i1 : ¬ (48 : Int) ≤ (c : Int) := by omega
    go_enter Tryz.func226, Tryz.ntmps226
    go_wp2_with fail
    go_ret
    exact ⟨by simp_all, rfl⟩
set_option maxRecDepth 100000 in
set_option maxHeartbeats 8000000 in
theorem rname_any (s : ByteArray) (hs : s.size ≤ 9223372036854775000) (w : World) : Calls Tryz.prog 164 #[.string s] w fun e w' => e = .returned (.bool (nameL s.data.toList)) ∧ w' = w := by
  go_enter Tryz.func164, Tryz.ntmps164
  go_wp2_with fail
  go_loopw [3, 4, 5] (fun vp vs vi wr => ∃ (k parts size : Nat), k ≤ s.size ∧ vp = .int .i64 parts ∧ vs = .int .i64 size ∧ vi = .int .i64 k ∧ size ≤ 16 ∧ parts ≤ k + 1 ∧ nm 1 0 s.data.toList = nm parts size (s.data.toList.drop k) ∧ wr = w) (fun _ _ i _ => s.size - (RowKit.intOf i).toNat)
  case atStart => exact ⟨0, 1, 0, by omega, rfl, rfl, rfl, by omega, by omega, rfl, rfl⟩
  case round =>
    obtain ⟨k, parts, size, hk, rfl, rfl, rfl, h16, hpk, hd, rfl⟩ := hrel
    by_cases hlt : k < s.size
    · have hI : (k : Int) < (s.size : Int) := by omega
      have hI0 : (0 : Int) ≤ (k : Int) := by omega
      rw [drop_byte hlt, nm_step] at hd
      obtain ⟨c, hc⟩ : ∃ c, s[k] = c := ⟨_, rfl⟩
      rw [hc] at hd
      obtain ⟨B, hB⟩ : ∃ B : Nat, c.toNat = B := ⟨_, rfl⟩
      have hB' : (s[k]).toNat = B := by rw [hc]; exact hB
      rw [hB] at hd
      have c58 : c = 58 ↔ B = 58 := by
        constructor
        · intro e; rw [← hB, e]; rfl
        · intro e; exact UInt8.toNat_inj.1 (by rw [hB, e]; rfl)
      simp only [c58] at hd
      clear hc hB c58
      have dU := hide (rupper_any B)
      have dL := hide (rlower_any B)
      have dD := hide (rdigit_any B)
      by_cases t58 : B = 58
      · subst t58
        rw [if_pos rfl] at hd
        by_cases z : size = 0
        · subst z
          rw [if_pos rfl, nm_name] at hd
          have HD := hide hd
          clear hd
          go_wp2_with fail
          refine (unhide dU wr).mono ?_
          rintro e w1 ⟨rfl, hw⟩
          rw [hw]
          clear hw w1
          go_wp2_with fail
          refine (unhide dL wr).mono ?_
          rintro e w1 ⟨rfl, hw⟩
          rw [hw]
          clear hw w1
          go_wp2_with fail
          refine (unhide dD wr).mono ?_
          rintro e w1 ⟨rfl, hw⟩
          rw [hw]
          clear hw w1
          go_wp2_with fail
          go_ret
          exact ⟨by rw [unhide HD]; rfl, rfl⟩
        · have z1 : ((size : Int) == 0) = false := by simp; omega
          rw [if_neg z] at hd
          have HD := hide hd
          clear hd
          go_wp2_with fail
          refine (unhide dU wr).mono ?_
          rintro e w1 ⟨rfl, hw⟩
          rw [hw]
          clear hw w1
          go_wp2_with fail
          refine (unhide dL wr).mono ?_
          rintro e w1 ⟨rfl, hw⟩
          rw [hw]
          clear hw w1
          go_wp2_with fail
          refine (unhide dD wr).mono ?_
          rintro e w1 ⟨rfl, hw⟩
          rw [hw]
          clear hw w1
          go_wp2_with fail
          refine ⟨⟨k + 1, parts + 1, 0, by omega, by go_num, by go_num, by go_num, by omega, by omega, unhide HD, trivial⟩, by simp [RowKit.intOf]; omega⟩
      · have v58 : ((B : Int) == 58) = false := by simp; omega
        rw [if_neg t58] at hd
        by_cases z : size = 0
        · subst z
          by_cases t0 : upB B = true
          · rw [t0] at dU
            have hp : partB B = true := by unfold partB; rw [t0]; rfl
            rw [if_neg (by simp [t0, hp])] at hd
            rw [if_neg (by omega)] at hd
            have HD := hide hd
            clear hd
            go_wp2_with fail
            refine (unhide dU wr).mono ?_
            rintro e w1 ⟨rfl, hw⟩
            rw [hw]
            clear hw w1
            go_wp2_with fail
            refine (unhide dL wr).mono ?_
            rintro e w1 ⟨rfl, hw⟩
            rw [hw]
            clear hw w1
            go_wp2_with fail
            refine (unhide dD wr).mono ?_
            rintro e w1 ⟨rfl, hw⟩
            rw [hw]
            clear hw w1
            go_wp2_with fail
            refine ⟨⟨k + 1, parts, 1, by omega, by go_num, by go_num, by go_num, by omega, by omega, unhide HD, trivial⟩, by simp [RowKit.intOf]; omega⟩
          · have u0 : upB B = false := by simpa using t0
            rw [u0] at dU
            rw [if_pos (.inl ⟨rfl, u0⟩)] at hd
            rw [nm_name] at hd
            have HD := hide hd
            clear hd
            go_wp2_with fail
            refine (unhide dU wr).mono ?_
            rintro e w1 ⟨rfl, hw⟩
            rw [hw]
            clear hw w1
            go_wp2_with fail
            refine (unhide dL wr).mono ?_
            rintro e w1 ⟨rfl, hw⟩
            rw [hw]
            clear hw w1
            go_wp2_with fail
            refine (unhide dD wr).mono ?_
            rintro e w1 ⟨rfl, hw⟩
            rw [hw]
            clear hw w1
            go_wp2_with fail
            go_ret
            exact ⟨by rw [unhide HD]; rfl, rfl⟩
        · have z1 : ((size : Int) == 0) = false := by simp; omega
          by_cases t0 : upB B = true
          · rw [t0] at dU
            have hp : partB B = true := by simp [partB, tagB, t0]
            rw [if_neg (by simp [z, hp])] at hd
            by_cases hz : 16 < size + 1
            · have hz1 : (16 : Int) < (size : Int) + 1 := by omega
              rw [if_pos hz, nm_name] at hd
              have HD := hide hd
              clear hd
              go_wp2_with fail
              refine (unhide dU wr).mono ?_
              rintro e w1 ⟨rfl, hw⟩
              rw [hw]
              clear hw w1
              go_wp2_with fail
              refine (unhide dL wr).mono ?_
              rintro e w1 ⟨rfl, hw⟩
              rw [hw]
              clear hw w1
              go_wp2_with fail
              refine (unhide dD wr).mono ?_
              rintro e w1 ⟨rfl, hw⟩
              rw [hw]
              clear hw w1
              go_wp2_with fail
              go_ret
              exact ⟨by rw [unhide HD]; rfl, rfl⟩
            · have hz1 : ¬ (16 : Int) < (size : Int) + 1 := by omega
              rw [if_neg hz] at hd
              have HD := hide hd
              clear hd
              go_wp2_with fail
              refine (unhide dU wr).mono ?_
              rintro e w1 ⟨rfl, hw⟩
              rw [hw]
              clear hw w1
              go_wp2_with fail
              refine (unhide dL wr).mono ?_
              rintro e w1 ⟨rfl, hw⟩
              rw [hw]
              clear hw w1
              go_wp2_with fail
              refine (unhide dD wr).mono ?_
              rintro e w1 ⟨rfl, hw⟩
              rw [hw]
              clear hw w1
              go_wp2_with fail
              refine ⟨⟨k + 1, parts, size + 1, by omega, by go_num, by go_num, by go_num, by omega, by omega, unhide HD, trivial⟩, by simp [RowKit.intOf]; omega⟩
          · have u0 : upB B = false := by simpa using t0
            rw [u0] at dU
            by_cases t1 : loB B = true
            · rw [t1] at dL
              have hp : partB B = true := by simp [partB, tagB, t1]
              rw [if_neg (by simp [z, hp])] at hd
              by_cases hz : 16 < size + 1
              · have hz1 : (16 : Int) < (size : Int) + 1 := by omega
                rw [if_pos hz, nm_name] at hd
                have HD := hide hd
                clear hd
                go_wp2_with fail
                refine (unhide dU wr).mono ?_
                rintro e w1 ⟨rfl, hw⟩
                rw [hw]
                clear hw w1
                go_wp2_with fail
                refine (unhide dL wr).mono ?_
                rintro e w1 ⟨rfl, hw⟩
                rw [hw]
                clear hw w1
                go_wp2_with fail
                refine (unhide dD wr).mono ?_
                rintro e w1 ⟨rfl, hw⟩
                rw [hw]
                clear hw w1
                go_wp2_with fail
                go_ret
                exact ⟨by rw [unhide HD]; rfl, rfl⟩
              · have hz1 : ¬ (16 : Int) < (size : Int) + 1 := by omega
                rw [if_neg hz] at hd
                have HD := hide hd
                clear hd
                go_wp2_with fail
                refine (unhide dU wr).mono ?_
                rintro e w1 ⟨rfl, hw⟩
                rw [hw]
                clear hw w1
                go_wp2_with fail
                refine (unhide dL wr).mono ?_
                rintro e w1 ⟨rfl, hw⟩
                rw [hw]
                clear hw w1
                go_wp2_with fail
                refine (unhide dD wr).mono ?_
                rintro e w1 ⟨rfl, hw⟩
                rw [hw]
                clear hw w1
                go_wp2_with fail
                refine ⟨⟨k + 1, parts, size + 1, by omega, by go_num, by go_num, by go_num, by omega, by omega, unhide HD, trivial⟩, by simp [RowKit.intOf]; omega⟩
            · have u1 : loB B = false := by simpa using t1
              rw [u1] at dL
              by_cases t2 : dgB B = true
              · rw [t2] at dD
                have hp : partB B = true := by simp [partB, tagB, t2]
                rw [if_neg (by simp [z, hp])] at hd
                by_cases hz : 16 < size + 1
                · have hz1 : (16 : Int) < (size : Int) + 1 := by omega
                  rw [if_pos hz, nm_name] at hd
                  have HD := hide hd
                  clear hd
                  go_wp2_with fail
                  refine (unhide dU wr).mono ?_
                  rintro e w1 ⟨rfl, hw⟩
                  rw [hw]
                  clear hw w1
                  go_wp2_with fail
                  refine (unhide dL wr).mono ?_
                  rintro e w1 ⟨rfl, hw⟩
                  rw [hw]
                  clear hw w1
                  go_wp2_with fail
                  refine (unhide dD wr).mono ?_
                  rintro e w1 ⟨rfl, hw⟩
                  rw [hw]
                  clear hw w1
                  go_wp2_with fail
                  go_ret
                  exact ⟨by rw [unhide HD]; rfl, rfl⟩
                · have hz1 : ¬ (16 : Int) < (size : Int) + 1 := by omega
                  rw [if_neg hz] at hd
                  have HD := hide hd
                  clear hd
                  go_wp2_with fail
                  refine (unhide dU wr).mono ?_
                  rintro e w1 ⟨rfl, hw⟩
                  rw [hw]
                  clear hw w1
                  go_wp2_with fail
                  refine (unhide dL wr).mono ?_
                  rintro e w1 ⟨rfl, hw⟩
                  rw [hw]
                  clear hw w1
                  go_wp2_with fail
                  refine (unhide dD wr).mono ?_
                  rintro e w1 ⟨rfl, hw⟩
                  rw [hw]
                  clear hw w1
                  go_wp2_with fail
                  refine ⟨⟨k + 1, parts, size + 1, by omega, by go_num, by go_num, by go_num, by omega, by omega, unhide HD, trivial⟩, by simp [RowKit.intOf]; omega⟩
              · have u2 : dgB B = false := by simpa using t2
                rw [u2] at dD
                by_cases t3 : B = 45
                · subst t3
                  rw [if_neg (by simp [z]; rfl)] at hd
                  by_cases hz : 16 < size + 1
                  · have hz1 : (16 : Int) < (size : Int) + 1 := by omega
                    rw [if_pos hz, nm_name] at hd
                    have HD := hide hd
                    clear hd
                    go_wp2_with fail
                    refine (unhide dU wr).mono ?_
                    rintro e w1 ⟨rfl, hw⟩
                    rw [hw]
                    clear hw w1
                    go_wp2_with fail
                    refine (unhide dL wr).mono ?_
                    rintro e w1 ⟨rfl, hw⟩
                    rw [hw]
                    clear hw w1
                    go_wp2_with fail
                    refine (unhide dD wr).mono ?_
                    rintro e w1 ⟨rfl, hw⟩
                    rw [hw]
                    clear hw w1
                    go_wp2_with fail
                    go_ret
                    exact ⟨by rw [unhide HD]; rfl, rfl⟩
                  · have hz1 : ¬ (16 : Int) < (size : Int) + 1 := by omega
                    rw [if_neg hz] at hd
                    have HD := hide hd
                    clear hd
                    go_wp2_with fail
                    refine (unhide dU wr).mono ?_
                    rintro e w1 ⟨rfl, hw⟩
                    rw [hw]
                    clear hw w1
                    go_wp2_with fail
                    refine (unhide dL wr).mono ?_
                    rintro e w1 ⟨rfl, hw⟩
                    rw [hw]
                    clear hw w1
                    go_wp2_with fail
                    refine (unhide dD wr).mono ?_
                    rintro e w1 ⟨rfl, hw⟩
                    rw [hw]
                    clear hw w1
                    go_wp2_with fail
                    refine ⟨⟨k + 1, parts, size + 1, by omega, by go_num, by go_num, by go_num, by omega, by omega, unhide HD, trivial⟩, by simp [RowKit.intOf]; omega⟩
                · have v3 : ((B : Int) == 45) = false := by simp; omega
                  have hp : partB B = false := by simp [partB, tagB, u0, u1, u2, t3]
                  rw [if_pos (.inr hp)] at hd
                  rw [nm_name] at hd
                  have HD := hide hd
                  clear hd
                  go_wp2_with fail
                  refine (unhide dU wr).mono ?_
                  rintro e w1 ⟨rfl, hw⟩
                  rw [hw]
                  clear hw w1
                  go_wp2_with fail
                  refine (unhide dL wr).mono ?_
                  rintro e w1 ⟨rfl, hw⟩
                  rw [hw]
                  clear hw w1
                  go_wp2_with fail
                  refine (unhide dD wr).mono ?_
                  rintro e w1 ⟨rfl, hw⟩
                  rw [hw]
                  clear hw w1
                  go_wp2_with fail
                  go_ret
                  exact ⟨by rw [unhide HD]; rfl, rfl⟩
    · have hkl : k = s.size := by omega
      have hI : ¬ (k : Int) < (s.size : Int) := by omega
      rw [List.drop_eq_nil_of_le (by simp; omega), nm_name] at hd
      have HD := hide (show nameL s.data.toList = (decide (0 < size) && decide (parts ≤ 6)) from hd)
      clear hd hkl
      by_cases z : 0 < size
      · have z1 : (0 : Int) < (size : Int) := by omega
        by_cases y : parts ≤ 6
        · have y1 : (parts : Int) ≤ 6 := by omega
          rw [decide_eq_true z, decide_eq_true y] at HD
          go_wp2_with fail
          go_ret
          exact ⟨by rw [unhide HD]; rfl, rfl⟩
        · have y1 : ¬ (parts : Int) ≤ 6 := by omega
          rw [decide_eq_true z, decide_eq_false y] at HD
          go_wp2_with fail
          go_ret
          exact ⟨by rw [unhide HD]; rfl, rfl⟩
      · have z1 : ¬ (0 : Int) < (size : Int) := by omega
        rw [decide_eq_false z] at HD
        go_wp2_with fail
        go_ret
        exact ⟨by rw [unhide HD]; rfl, rfl⟩
end Go.Proofs.YtdeibifjiefapaaGreatDoor
/- The document's Path (16), Parent (11), Root (13), Under (9). -/
namespace Go.Proofs.YtdeibifjiefapaaGreatDoor
open Go Go.ChangeShapes Go.WideShapes Go.ChangeAt Go.RowKit
set_option linter.unusedVariables false
theorem rgood_any (s : ByteArray) (hs : s.size < 4611686018427387904) (w : World) : Calls Tryz.prog 86 #[.string s] w fun e w' => e = .returned (.bool (nameL s.data.toList)) ∧ w' = w := by
  have d := hide (rname_any s (by omega) w)
  go_enter Tryz.func86, Tryz.ntmps86
  go_wp2_with fail
  refine (unhide d).mono ?_
  rintro e w1 ⟨rfl, hw⟩
  rw [hw]
  clear hw
  go_wp2_with fail
  go_ret
  exact ⟨rfl, rfl⟩
/-- while the document's path is made: what has come, and what is left -/
structure PAt (w : World) (s : ByteArray) (i : Nat) (v : Value) (wr : World) : Prop where
  own : ∃ xs : List (List UInt8), 0 < xs.length ∧ wr.ownsRow w.heap.size 9 1 v xs.length (xs.map fun x => .string ⟨x.toArray⟩) ∧ s.data.toList :: ups s.data.toList = xs ++ upsK s.data.toList i
  below : Below w.heap.size w wr
set_option maxRecDepth 100000 in
set_option maxHeartbeats 4000000 in
theorem rpath_any (s : ByteArray) (hs : s.size < 4611686018427387904) (w : World) : Calls Tryz.prog 165 #[.string s] w fun e w' => PathOut s w e w' := by
  obtain ⟨i0, hi, hz0, hz1, hz2⟩ := info_parts info9
  have HI := hide hi; have HZ0 := hide hz0; have HZ1 := hide hz1; have HZ2 := hide hz2
  clear hi hz0 hz1 hz2
  have d := hide (rgood_any s hs w)
  by_cases hn : nameL s.data.toList = true
  · rw [hn] at d
    have hp : Hid (pathL s.data.toList = s.data.toList :: ups s.data.toList) := by rw [pathL, if_pos hn]; rfl
    have hlen := hide (path_len s.data.toList)
    have hsl : Hid (s.data.toList.length = s.size) := by show _ = _; simp
    have h0 : Hid (PAt w s s.size (.slice (some ⟨w.heap.size, 0, none⟩) 1 1) (w.alloc (.cells #[.string s] 9))) := by
      refine ⟨⟨[s.data.toList], by simp, ?_, by rw [← unhide hsl]; rfl⟩, (Below.refl _ _).alloc (Nat.le_refl _) _⟩
      have h := World.ownsRow_lit (base := w.heap.size) (e := 9) (size := 1) w #[.string s] 1 (Nat.le_refl _) (by unfold maxLen; omega) rfl
      have e : ([s.data.toList].map fun x => Value.string ⟨x.toArray⟩) = [.string s] := by simp
      rw [e]
      exact h
    clear hn
    go_enter Tryz.func165, Tryz.ntmps165
    go_wp2_with fail
    refine (unhide d).mono ?_
    rintro e w1 ⟨rfl, hw⟩
    rw [hw]
    clear hw w1
    go_wp2_with fail
    go_loopw [4, 5] (fun v vi wr => ∃ i : Nat, i ≤ s.size ∧ vi = .int .i64 ((i : Int) - 1) ∧ PAt w s i v wr) (fun _ vi _ => (intOf vi + 1).toNat)
    case atStart => exact ⟨s.size, Nat.le_refl _, by first | rfl | go_num, unhide h0⟩
    case round =>
      obtain ⟨i, hi, rfl, hP⟩ := hrel
      have HP := hide hP
      clear hP h0
      cases i with
      | zero =>
        go_wp2_with fail
        go_ret
        obtain ⟨xs, hx0, hx1, hx2⟩ := (unhide HP).own
        have hx3 : pathL s.data.toList = xs := by rw [unhide hp, hx2, upsK, List.append_nil]
        refine ⟨_, rfl, ?_, ?_, (unhide HP).below⟩
        · rw [hx3, scells_list]
          exact hx1
        · rw [hx3]
          refine ⟨fun e => ?_, fun e => by omega⟩
          obtain ⟨g, c, hv⟩ := own_open hx1 hx0
          rw [hv] at e
          cases e
      | succ i =>
        have hI0 : (0 : Int) ≤ (i : Int) := by omega
        have hI1 : (i : Int) < (s.size : Int) := by omega
        have hI2 : (i : Int) ≤ (s.size : Int) := by omega
        have eI : ((i + 1 : Nat) : Int) - 1 = (i : Int) := by omega
        rw [eI]
        have HE := hide eI
        clear eI
        obtain ⟨xs, hx0, hx1, hx2⟩ := (unhide HP).own
        have hg : Hid (s.data.toList[i]? = some (s[i]'(by omega))) := by
          show _ = _
          rw [Array.getElem?_toList, Array.getElem?_eq_getElem (by have h : s.data.size = s.size := rfl; omega)]
          rfl
        have hxl : xs.length ≤ 6 := by
          have h := unhide hlen
          rw [unhide hp, hx2, List.length_append] at h
          omega
        have OWN := hide hx1
        have HX2 := hide hx2
        have BEL := hide (unhide HP).below
        have hsz := (unhide HP).below.size
        by_cases hc : s[i]'(by omega) = 58
        · have hq : (((s[i]'(by omega)).toNat : Int) == 58) = true := by rw [hc]; rfl
          have HC := hide hc
          have hxl6 : xs.length < 6 := by
            have h := unhide hlen
            rw [unhide hp, hx2, List.length_append, upsK, if_pos (by rw [unhide hg, hc]), List.length_cons] at h
            omega
          clear hc hx1 hx2
          go_wp2_with (at_builtin; refine wpList_append_own _ rfl _ _ 85 rfl w.heap.size 9 i0 (.string ⟨#[]⟩) 1 16 Tryz.underlying85 (unhide HI) (unhide HZ0) (unhide HZ1) (unhide HZ2) rfl (by decide) _ _ _ rfl ((unhide OWN).alloc _) ⟨wr.heap.size, 0, none⟩ 1 1 [.string (s.extract 0 i)] rfl rfl (cell_one_new _ _ _) (one_one _) (by unfold maxLen; omega) (by omega) (by simp; omega) ?_; intro v1 w2 hown1 hgrow1 _; have B2 := hide (Below.grown (bal (unhide BEL) _) hgrow1 (by simp; omega) (fun k hk => ((unhide OWN).lt k hk).1)); have O2 := hide hown1; clear hown1 hgrow1)
          refine ⟨⟨i, by omega, rfl, ⟨xs ++ [s.data.toList.take i], by simp, ?_, ?_⟩, unhide B2⟩, by simp [intOf]⟩
          · have h := unhide O2
            have e : ((xs ++ [s.data.toList.take i]).map fun x => Value.string ⟨x.toArray⟩) = (xs.map fun x => Value.string ⟨x.toArray⟩) ++ [.string (s.extract 0 i)] := by
              rw [List.map_append, text_of (ext_take s i)]
              rfl
            rw [e, List.length_append]
            exact h
          · rw [unhide HX2, upsK, if_pos (by rw [unhide hg, unhide HC]), List.append_assoc]
            rfl
        · have hq : (((s[i]'(by omega)).toNat : Int) == 58) = false := by
            simp only [beq_eq_false_iff_ne, ne_eq]
            intro e
            exact hc (UInt8.toNat_inj.1 (by exact_mod_cast e))
          have HC := hide hc
          clear hc hx1 hx2
          go_wp2_with fail
          refine ⟨⟨i, by omega, rfl, ⟨xs, hx0, unhide OWN, ?_⟩, unhide BEL⟩, by simp [intOf]⟩
          rw [unhide HX2, upsK, if_neg (by rw [unhide hg]; simpa using unhide HC)]
  · have hn' : nameL s.data.toList = false := by simpa using hn
    rw [hn'] at d
    have hp : Hid (pathL s.data.toList = []) := by rw [pathL, if_neg hn]; rfl
    clear hn hn'
    go_enter Tryz.func165, Tryz.ntmps165
    go_wp2_with fail
    refine (unhide d).mono ?_
    rintro e w1 ⟨rfl, hw⟩
    rw [hw]
    clear hw w1
    go_wp2_with fail
    go_ret
    refine ⟨_, rfl, ?_, ?_, Below.refl _ _⟩
    · rw [unhide hp]
      exact World.ownsRow_nil _ _ _ _
    · rw [unhide hp]
      simp
/-- the second of a path -/
theorem parS_eq (l : List UInt8) : parS l = match pathL l with
    | _ :: p :: _ => (⟨p.toArray⟩, true)
    | _ => (⟨#[]⟩, false) := by
  unfold parS pathL
  by_cases hn : nameL l = true
  · rw [if_pos hn, if_pos hn]
    cases ups l <;> rfl
  · rw [if_neg hn, if_neg hn]
set_option maxHeartbeats 2000000 in
theorem rparent_any (s : ByteArray) (hs : s.size < 4611686018427387904) (w : World) : Calls Tryz.prog 89 #[.string s] w fun e w' => e = .returned (.tuple #[.string (parS s.data.toList).1, .bool (parS s.data.toList).2]) ∧ Below w.heap.size w w' := by
  have d := hide (rpath_any s hs w)
  have hp := hide (parS_eq s.data.toList)
  go_enter Tryz.func89, Tryz.ntmps89
  go_wp2_with fail
  refine (unhide d).mono ?_
  rintro e w1 ⟨v, rfl, hrow, hnil, hb⟩
  have HB := hide hb
  obtain ⟨P, hP⟩ : ∃ P, pathL s.data.toList = P := ⟨_, rfl⟩
  rw [hP] at hrow hnil hp
  rcases P with _ | ⟨a, _ | ⟨b, t⟩⟩
  · have hv := hnil.2 rfl
    subst hv
    clear hrow hnil hb
    go_wp2_with fail
    go_ret2
    rw [unhide hp]
    exact ⟨rfl, unhide HB⟩
  · obtain ⟨g, c, rfl⟩ := own_open hrow (by simp)
    clear hrow hnil hb
    simp only [List.length_cons, List.length_nil, Nat.zero_add]
    go_wp2_with fail
    go_ret2
    rw [unhide hp]
    exact ⟨rfl, unhide HB⟩
  · obtain ⟨g, c, rfl⟩ := own_open hrow (by simp)
    have hc : w1.cell? ⟨g, 1, none⟩ = some (.string ⟨b.toArray⟩) := by
      rw [hrow.cellAt 1 (by simp), scells_list]
      rfl
    obtain ⟨L, hL⟩ : ∃ L, (a :: b :: t).length = L := ⟨_, rfl⟩
    have hL2 : 2 ≤ L := by rw [← hL]; simp
    rw [hL]
    have hI : ¬ (L : Int) < 2 := by omega
    have hI2 : (1 : Int) < (L : Int) := by omega
    clear hrow hnil hb hL
    go_wp2_with fail
    go_ret2
    rw [unhide hp]
    exact ⟨rfl, unhide HB⟩
set_option maxHeartbeats 2000000 in
theorem runder_any (s t : ByteArray) (hs : s.size < 4611686018427387904) (w : World) : Calls Tryz.prog 91 #[.string s, .string t] w fun e w' => e = .returned (.bool (undS s t)) ∧ Below w.heap.size w w' := by
  have d := hide (rpath_any s hs w)
  have hlen := hide (path_len s.data.toList)
  have hu := hide (show undS s t = decide (t.data.toList ∈ pathL s.data.toList) from rfl)
  obtain ⟨P, hP⟩ : ∃ P, pathL s.data.toList = P := ⟨_, rfl⟩
  go_enter Tryz.func91, Tryz.ntmps91
  go_wp2_with fail
  refine (unhide d).mono ?_
  rintro e w1 ⟨v, rfl, hrow, hnil, hb⟩
  have HB := hide hb
  rw [hP] at hrow hnil hlen hu
  have hv : ∃ pa cap, v = .slice pa P.length cap ∧ (0 < P.length → ∃ g, pa = some ⟨g, 0, none⟩ ∧ ∀ k (hk : k < P.length), w1.cell? ⟨g, k, none⟩ = some (.string ⟨(P[k]).toArray⟩)) := by
    by_cases h0 : P.length = 0
    · exact ⟨none, 0, by rw [hnil.2 h0, h0], fun h => by omega⟩
    · obtain ⟨g, c, rfl⟩ := own_open hrow (by omega)
      refine ⟨_, c, rfl, fun _ => ⟨g, rfl, fun k hk => ?_⟩⟩
      rw [hrow.cellAt k (by omega), scells_list, List.getElem?_map, List.getElem?_eq_getElem hk]
      rfl
  obtain ⟨pa, cap, rfl, hpa⟩ := hv
  have HPA := hide hpa
  clear hrow hnil hb hpa hP
  have hl6 := unhide hlen
  go_wp2_with fail
  go_loopw [6] (fun i wr => ∃ k : Nat, k ≤ P.length ∧ i = .int .i64 (k : Int) ∧ (∀ j (hj : j < P.length), j < k → P[j] ≠ t.data.toList) ∧ wr = w1) (fun i _ => P.length - (intOf i).toNat)
  case atStart => exact ⟨0, by omega, rfl, fun j hj h => by omega, rfl⟩
  case round =>
    obtain ⟨k, hk, rfl, hd, rfl⟩ := hrel
    have HD := hide hd
    clear hd
    by_cases hlt : k < P.length
    · obtain ⟨g, rfl, hcells⟩ := unhide HPA (by omega)
      have hI : (k : Int) < (P.length : Int) := by omega
      have hI0 : (0 : Int) ≤ (k : Int) := by omega
      have HK := hide hlt
      obtain ⟨X, hX, hc⟩ : ∃ X, X = (⟨(P[k]'hlt).toArray⟩ : ByteArray) ∧ wr.cell? ⟨g, k, none⟩ = some (.string X) := ⟨_, rfl, hcells k hlt⟩
      have hXl : X.toList = P[k] := by
        rw [Lib.toList_data, hX]
        rfl
      by_cases hx : P[k] = t.data.toList
      · have hq : (X.toList == t.toList) = true := by rw [hXl, Lib.toList_data, hx]; simp
        have HX := hide hx
        clear hcells hx hX hXl
        go_wp2_with fail
        go_ret
        refine ⟨?_, unhide HB⟩
        rw [unhide hu, decide_eq_true (by rw [← unhide HX]; exact List.getElem_mem _)]
        rfl
      · have hq : (X.toList == t.toList) = false := by rw [hXl, Lib.toList_data]; simpa using hx
        have HX := hide hx
        clear hcells hx hX hXl
        go_wp2_with fail
        refine ⟨⟨k + 1, by omega, by go_num, fun j hj hjk => ?_, trivial⟩, by simp [intOf]; omega⟩
        by_cases e : j = k
        · subst e; exact unhide HX
        · exact unhide HD j hj (by omega)
    · have hkl : k = P.length := by omega
      have hI : ¬ (k : Int) < (P.length : Int) := by omega
      clear hkl
      go_wp2_with fail
      go_ret
      refine ⟨?_, unhide HB⟩
      have hno : ¬ t.data.toList ∈ P := fun hm => by
        obtain ⟨j, hj, e⟩ := List.getElem_of_mem hm
        exact unhide HD j hj (by omega) e
      rw [unhide hu, decide_eq_false hno]
      rfl
end Go.Proofs.YtdeibifjiefapaaGreatDoor
