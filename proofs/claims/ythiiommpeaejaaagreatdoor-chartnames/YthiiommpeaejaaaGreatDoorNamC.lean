/- The document's Key, Memo, Tag, Name; names.IsAccount, IsRoot and the document's Root. -/
import Derived.Test.YthiiommpeaejaaaGreatDoorSplA
namespace Go.Proofs.YthiiommpeaejaaaGreatDoor
open Go Go.ChangeShapes Go.WideShapes Go.ChangeAt Go.RowKit
set_option linter.unusedVariables false
/-- a tag byte by byte: the first one a letter -/
def tagI (s : ByteArray) (k : Nat) (c : Nat) : Bool := tagB c && (!decide (k = 0) || loB c)
set_option maxRecDepth 100000 in
set_option maxHeartbeats 4000000 in
set_option maxRecDepth 100000 in
set_option maxHeartbeats 4000000 in
set_option maxRecDepth 100000 in
set_option maxHeartbeats 4000000 in
theorem drop_byte {s : ByteArray} {k : Nat} (h : k < s.size) : s.data.toList.drop k = s[k] :: s.data.toList.drop (k + 1) := by
  have h' : k < s.data.toList.length := by simpa using h
  have e := List.drop_eq_getElem_cons h'
  rw [e]
  simp
  rfl
theorem nm_step (parts size : Nat) (c : UInt8) (l : List UInt8) : nm parts size (c :: l) = if c = 58 then (if size = 0 then false else nm (parts + 1) 0 l) else if (size = 0 ∧ upB c.toNat = false) ∨ partB c.toNat = false then false else if 16 < size + 1 then false else nm parts (size + 1) l := rfl
set_option maxRecDepth 100000 in
set_option maxHeartbeats 8000000 in
theorem rname_any (s : ByteArray) (hs : s.size ≤ 9223372036854775000) (w : World) : Calls Tryz.prog 22 #[.string s] w fun e w' => e = .returned (.bool (nameL s.data.toList)) ∧ w' = w := by
  go_enter Tryz.func22, Tryz.ntmps22
  go_wp2_with fail
  go_loopw [3, 4, 5] (fun vp vs vi wr => ∃ (k parts size : Nat), k ≤ s.size ∧ vp = .int .i64 parts ∧ vs = .int .i64 size ∧ vi = .int .i64 k ∧ size ≤ 16 ∧ parts ≤ k + 1 ∧ nm 1 0 s.data.toList = nm parts size (s.data.toList.drop k) ∧ wr = w) (fun _ _ i _ => s.size - (RowKit.intOf i).toNat)
  case atStart => exact ⟨0, 1, 0, by omega, rfl, rfl, rfl, by omega, by omega, rfl, rfl⟩
  case round =>
    obtain ⟨k, parts, size, hk, rfl, rfl, rfl, h16, hpk, hd, rfl⟩ := hrel
    by_cases hlt : k < s.size
    · have hI : (k : Int) < (s.size : Int) := by omega
      have hI0 : (0 : Int) ≤ (k : Int) := by omega
      rw [drop_byte hlt, nm_step] at hd
      obtain ⟨c, hc⟩ : ∃ c, s[k] = c := ⟨_, rfl⟩
      rw [hc] at hd
      obtain ⟨B, hB⟩ : ∃ B : Nat, c.toNat = B := ⟨_, rfl⟩
      have hB' : (s[k]).toNat = B := by rw [hc]; exact hB
      rw [hB] at hd
      have c58 : c = 58 ↔ B = 58 := by
        constructor
        · intro e; rw [← hB, e]; rfl
        · intro e; exact UInt8.toNat_inj.1 (by rw [hB, e]; rfl)
      simp only [c58] at hd
      clear hc hB c58
      have dU := hide (rupper_any B)
      have dL := hide (rlower_any B)
      have dD := hide (rdigit_any B)
      by_cases t58 : B = 58
      · subst t58
        rw [if_pos rfl] at hd
        by_cases z : size = 0
        · subst z
          rw [if_pos rfl, nm_name] at hd
          have HD := hide hd
          clear hd
          go_wp2_with fail
          refine (unhide dU wr).mono ?_
          rintro e w1 ⟨rfl, hw⟩
          rw [hw]
          clear hw w1
          go_wp2_with fail
          refine (unhide dL wr).mono ?_
          rintro e w1 ⟨rfl, hw⟩
          rw [hw]
          clear hw w1
          go_wp2_with fail
          refine (unhide dD wr).mono ?_
          rintro e w1 ⟨rfl, hw⟩
          rw [hw]
          clear hw w1
          go_wp2_with fail
          go_ret
          exact ⟨by rw [unhide HD]; rfl, rfl⟩
        · have z1 : ((size : Int) == 0) = false := by simp; omega
          rw [if_neg z] at hd
          have HD := hide hd
          clear hd
          go_wp2_with fail
          refine (unhide dU wr).mono ?_
          rintro e w1 ⟨rfl, hw⟩
          rw [hw]
          clear hw w1
          go_wp2_with fail
          refine (unhide dL wr).mono ?_
          rintro e w1 ⟨rfl, hw⟩
          rw [hw]
          clear hw w1
          go_wp2_with fail
          refine (unhide dD wr).mono ?_
          rintro e w1 ⟨rfl, hw⟩
          rw [hw]
          clear hw w1
          go_wp2_with fail
          refine ⟨⟨k + 1, parts + 1, 0, by omega, by go_num, by go_num, by go_num, by omega, by omega, unhide HD, trivial⟩, by simp [RowKit.intOf]; omega⟩
      · have v58 : ((B : Int) == 58) = false := by simp; omega
        rw [if_neg t58] at hd
        by_cases z : size = 0
        · subst z
          by_cases t0 : upB B = true
          · rw [t0] at dU
            have hp : partB B = true := by unfold partB; rw [t0]; rfl
            rw [if_neg (by simp [t0, hp])] at hd
            rw [if_neg (by omega)] at hd
            have HD := hide hd
            clear hd
            go_wp2_with fail
            refine (unhide dU wr).mono ?_
            rintro e w1 ⟨rfl, hw⟩
            rw [hw]
            clear hw w1
            go_wp2_with fail
            refine (unhide dL wr).mono ?_
            rintro e w1 ⟨rfl, hw⟩
            rw [hw]
            clear hw w1
            go_wp2_with fail
            refine (unhide dD wr).mono ?_
            rintro e w1 ⟨rfl, hw⟩
            rw [hw]
            clear hw w1
            go_wp2_with fail
            refine ⟨⟨k + 1, parts, 1, by omega, by go_num, by go_num, by go_num, by omega, by omega, unhide HD, trivial⟩, by simp [RowKit.intOf]; omega⟩
          · have u0 : upB B = false := by simpa using t0
            rw [u0] at dU
            rw [if_pos (.inl ⟨rfl, u0⟩)] at hd
            rw [nm_name] at hd
            have HD := hide hd
            clear hd
            go_wp2_with fail
            refine (unhide dU wr).mono ?_
            rintro e w1 ⟨rfl, hw⟩
            rw [hw]
            clear hw w1
            go_wp2_with fail
            refine (unhide dL wr).mono ?_
            rintro e w1 ⟨rfl, hw⟩
            rw [hw]
            clear hw w1
            go_wp2_with fail
            refine (unhide dD wr).mono ?_
            rintro e w1 ⟨rfl, hw⟩
            rw [hw]
            clear hw w1
            go_wp2_with fail
            go_ret
            exact ⟨by rw [unhide HD]; rfl, rfl⟩
        · have z1 : ((size : Int) == 0) = false := by simp; omega
          by_cases t0 : upB B = true
          · rw [t0] at dU
            have hp : partB B = true := by simp [partB, tagB, t0]
            rw [if_neg (by simp [z, hp])] at hd
            by_cases hz : 16 < size + 1
            · have hz1 : (16 : Int) < (size : Int) + 1 := by omega
              rw [if_pos hz, nm_name] at hd
              have HD := hide hd
              clear hd
              go_wp2_with fail
              refine (unhide dU wr).mono ?_
              rintro e w1 ⟨rfl, hw⟩
              rw [hw]
              clear hw w1
              go_wp2_with fail
              refine (unhide dL wr).mono ?_
              rintro e w1 ⟨rfl, hw⟩
              rw [hw]
              clear hw w1
              go_wp2_with fail
              refine (unhide dD wr).mono ?_
              rintro e w1 ⟨rfl, hw⟩
              rw [hw]
              clear hw w1
              go_wp2_with fail
              go_ret
              exact ⟨by rw [unhide HD]; rfl, rfl⟩
            · have hz1 : ¬ (16 : Int) < (size : Int) + 1 := by omega
              rw [if_neg hz] at hd
              have HD := hide hd
              clear hd
              go_wp2_with fail
              refine (unhide dU wr).mono ?_
              rintro e w1 ⟨rfl, hw⟩
              rw [hw]
              clear hw w1
              go_wp2_with fail
              refine (unhide dL wr).mono ?_
              rintro e w1 ⟨rfl, hw⟩
              rw [hw]
              clear hw w1
              go_wp2_with fail
              refine (unhide dD wr).mono ?_
              rintro e w1 ⟨rfl, hw⟩
              rw [hw]
              clear hw w1
              go_wp2_with fail
              refine ⟨⟨k + 1, parts, size + 1, by omega, by go_num, by go_num, by go_num, by omega, by omega, unhide HD, trivial⟩, by simp [RowKit.intOf]; omega⟩
          · have u0 : upB B = false := by simpa using t0
            rw [u0] at dU
            by_cases t1 : loB B = true
            · rw [t1] at dL
              have hp : partB B = true := by simp [partB, tagB, t1]
              rw [if_neg (by simp [z, hp])] at hd
              by_cases hz : 16 < size + 1
              · have hz1 : (16 : Int) < (size : Int) + 1 := by omega
                rw [if_pos hz, nm_name] at hd
                have HD := hide hd
                clear hd
                go_wp2_with fail
                refine (unhide dU wr).mono ?_
                rintro e w1 ⟨rfl, hw⟩
                rw [hw]
                clear hw w1
                go_wp2_with fail
                refine (unhide dL wr).mono ?_
                rintro e w1 ⟨rfl, hw⟩
                rw [hw]
                clear hw w1
                go_wp2_with fail
                refine (unhide dD wr).mono ?_
                rintro e w1 ⟨rfl, hw⟩
                rw [hw]
                clear hw w1
                go_wp2_with fail
                go_ret
                exact ⟨by rw [unhide HD]; rfl, rfl⟩
              · have hz1 : ¬ (16 : Int) < (size : Int) + 1 := by omega
                rw [if_neg hz] at hd
                have HD := hide hd
                clear hd
                go_wp2_with fail
                refine (unhide dU wr).mono ?_
                rintro e w1 ⟨rfl, hw⟩
                rw [hw]
                clear hw w1
                go_wp2_with fail
                refine (unhide dL wr).mono ?_
                rintro e w1 ⟨rfl, hw⟩
                rw [hw]
                clear hw w1
                go_wp2_with fail
                refine (unhide dD wr).mono ?_
                rintro e w1 ⟨rfl, hw⟩
                rw [hw]
                clear hw w1
                go_wp2_with fail
                refine ⟨⟨k + 1, parts, size + 1, by omega, by go_num, by go_num, by go_num, by omega, by omega, unhide HD, trivial⟩, by simp [RowKit.intOf]; omega⟩
            · have u1 : loB B = false := by simpa using t1
              rw [u1] at dL
              by_cases t2 : dgB B = true
              · rw [t2] at dD
                have hp : partB B = true := by simp [partB, tagB, t2]
                rw [if_neg (by simp [z, hp])] at hd
                by_cases hz : 16 < size + 1
                · have hz1 : (16 : Int) < (size : Int) + 1 := by omega
                  rw [if_pos hz, nm_name] at hd
                  have HD := hide hd
                  clear hd
                  go_wp2_with fail
                  refine (unhide dU wr).mono ?_
                  rintro e w1 ⟨rfl, hw⟩
                  rw [hw]
                  clear hw w1
                  go_wp2_with fail
                  refine (unhide dL wr).mono ?_
                  rintro e w1 ⟨rfl, hw⟩
                  rw [hw]
                  clear hw w1
                  go_wp2_with fail
                  refine (unhide dD wr).mono ?_
                  rintro e w1 ⟨rfl, hw⟩
                  rw [hw]
                  clear hw w1
                  go_wp2_with fail
                  go_ret
                  exact ⟨by rw [unhide HD]; rfl, rfl⟩
                · have hz1 : ¬ (16 : Int) < (size : Int) + 1 := by omega
                  rw [if_neg hz] at hd
                  have HD := hide hd
                  clear hd
                  go_wp2_with fail
                  refine (unhide dU wr).mono ?_
                  rintro e w1 ⟨rfl, hw⟩
                  rw [hw]
                  clear hw w1
                  go_wp2_with fail
                  refine (unhide dL wr).mono ?_
                  rintro e w1 ⟨rfl, hw⟩
                  rw [hw]
                  clear hw w1
                  go_wp2_with fail
                  refine (unhide dD wr).mono ?_
                  rintro e w1 ⟨rfl, hw⟩
                  rw [hw]
                  clear hw w1
                  go_wp2_with fail
                  refine ⟨⟨k + 1, parts, size + 1, by omega, by go_num, by go_num, by go_num, by omega, by omega, unhide HD, trivial⟩, by simp [RowKit.intOf]; omega⟩
              · have u2 : dgB B = false := by simpa using t2
                rw [u2] at dD
                by_cases t3 : B = 45
                · subst t3
                  rw [if_neg (by simp [z]; rfl)] at hd
                  by_cases hz : 16 < size + 1
                  · have hz1 : (16 : Int) < (size : Int) + 1 := by omega
                    rw [if_pos hz, nm_name] at hd
                    have HD := hide hd
                    clear hd
                    go_wp2_with fail
                    refine (unhide dU wr).mono ?_
                    rintro e w1 ⟨rfl, hw⟩
                    rw [hw]
                    clear hw w1
                    go_wp2_with fail
                    refine (unhide dL wr).mono ?_
                    rintro e w1 ⟨rfl, hw⟩
                    rw [hw]
                    clear hw w1
                    go_wp2_with fail
                    refine (unhide dD wr).mono ?_
                    rintro e w1 ⟨rfl, hw⟩
                    rw [hw]
                    clear hw w1
                    go_wp2_with fail
                    go_ret
                    exact ⟨by rw [unhide HD]; rfl, rfl⟩
                  · have hz1 : ¬ (16 : Int) < (size : Int) + 1 := by omega
                    rw [if_neg hz] at hd
                    have HD := hide hd
                    clear hd
                    go_wp2_with fail
                    refine (unhide dU wr).mono ?_
                    rintro e w1 ⟨rfl, hw⟩
                    rw [hw]
                    clear hw w1
                    go_wp2_with fail
                    refine (unhide dL wr).mono ?_
                    rintro e w1 ⟨rfl, hw⟩
                    rw [hw]
                    clear hw w1
                    go_wp2_with fail
                    refine (unhide dD wr).mono ?_
                    rintro e w1 ⟨rfl, hw⟩
                    rw [hw]
                    clear hw w1
                    go_wp2_with fail
                    refine ⟨⟨k + 1, parts, size + 1, by omega, by go_num, by go_num, by go_num, by omega, by omega, unhide HD, trivial⟩, by simp [RowKit.intOf]; omega⟩
                · have v3 : ((B : Int) == 45) = false := by simp; omega
                  have hp : partB B = false := by simp [partB, tagB, u0, u1, u2, t3]
                  rw [if_pos (.inr hp)] at hd
                  rw [nm_name] at hd
                  have HD := hide hd
                  clear hd
                  go_wp2_with fail
                  refine (unhide dU wr).mono ?_
                  rintro e w1 ⟨rfl, hw⟩
                  rw [hw]
                  clear hw w1
                  go_wp2_with fail
                  refine (unhide dL wr).mono ?_
                  rintro e w1 ⟨rfl, hw⟩
                  rw [hw]
                  clear hw w1
                  go_wp2_with fail
                  refine (unhide dD wr).mono ?_
                  rintro e w1 ⟨rfl, hw⟩
                  rw [hw]
                  clear hw w1
                  go_wp2_with fail
                  go_ret
                  exact ⟨by rw [unhide HD]; rfl, rfl⟩
    · have hkl : k = s.size := by omega
      have hI : ¬ (k : Int) < (s.size : Int) := by omega
      rw [List.drop_eq_nil_of_le (by simp; omega), nm_name] at hd
      have HD := hide (show nameL s.data.toList = (decide (0 < size) && decide (parts ≤ 6)) from hd)
      clear hd hkl
      by_cases z : 0 < size
      · have z1 : (0 : Int) < (size : Int) := by omega
        by_cases y : parts ≤ 6
        · have y1 : (parts : Int) ≤ 6 := by omega
          rw [decide_eq_true z, decide_eq_true y] at HD
          go_wp2_with fail
          go_ret
          exact ⟨by rw [unhide HD]; rfl, rfl⟩
        · have y1 : ¬ (parts : Int) ≤ 6 := by omega
          rw [decide_eq_true z, decide_eq_false y] at HD
          go_wp2_with fail
          go_ret
          exact ⟨by rw [unhide HD]; rfl, rfl⟩
      · have z1 : ¬ (0 : Int) < (size : Int) := by omega
        rw [decide_eq_false z] at HD
        go_wp2_with fail
        go_ret
        exact ⟨by rw [unhide HD]; rfl, rfl⟩
theorem spl_le : ∀ (l p : List UInt8), p ∈ spl l → p.length ≤ l.length
  | [], p, h => by simp [spl] at h; subst h; simp
  | c :: l, p, h => by
    by_cases hc : c = 58
    · rw [spl, if_pos hc] at h
      rcases List.mem_cons.1 h with h | h
      · subst h; simp
      · have := spl_le l p h; simp; omega
    · obtain ⟨a, t, e⟩ := spl_ne l
      rw [spl_cons hc e] at h
      have ha := spl_le l a (by rw [e]; exact List.mem_cons_self)
      rcases List.mem_cons.1 h with h | h
      · subst h; simp; omega
      · have := spl_le l p (by rw [e]; exact List.mem_cons_of_mem _ h); simp; omega
set_option maxRecDepth 100000 in
set_option maxHeartbeats 4000000 in
theorem isAccount_any (s : ByteArray) (hs : s.size < 4611686018427387904) (w : World) : Calls Tryz.prog 21 #[.string s] w fun e w' => e = .returned (.bool (nameL s.data.toList)) ∧ Below w.heap.size w w' := by
  have d1 := hide (Tryz.strings_Count_one s 58 w)
  obtain ⟨c, hc⟩ : ∃ c, s.data.toList.count 58 = c := ⟨_, rfl⟩
  have hcb : Lib.countByte s.data.toList 58 = c := hc
  rw [hcb] at d1
  have hnm := hide (show nameL s.data.toList = (decide (s.data.toList.count 58 < 6) && (spl s.data.toList).all partL) from rfl)
  rw [hc] at hnm
  obtain ⟨xs, hxs⟩ : ∃ xs, xs = spl s.data.toList := ⟨_, rfl⟩
  have hlen : Hid (xs.length = c + 1) := by rw [hxs, spl_len, hc]; rfl
  have hsz : Hid (∀ k (hk : k < xs.length), (⟨(xs[k]).toArray⟩ : ByteArray).size ≤ 9223372036854775807) := fun k hk => by
    have h1 : xs[k] ∈ spl s.data.toList := by rw [← hxs]; exact List.getElem_mem hk
    have h2 := spl_le _ _ h1
    have h3 : s.data.toList.length = s.size := by simp
    have h4 : (⟨(xs[k]).toArray⟩ : ByteArray).size = (xs[k]).length := by simp [ByteArray.size]
    omega
  rw [← hxs] at hnm
  have hpl : ∀ l : List UInt8, partS ⟨l.toArray⟩ = partL l := fun l => partS_eq _
  have HPL := hide hpl
  clear hpl
  by_cases h6 : c < 6
  · have d2 := hide (split_any s hs c hc h6 w)
    rw [← hxs] at d2
    have i6 : ¬ (6 : Int) ≤ (c : Int) := by omega
    rw [decide_eq_true h6] at hnm
    clear hc hcb hxs
    go_enter Tryz.func21, Tryz.ntmps21
    go_wp2_with fail
    refine (unhide d1).mono ?_
    rintro e w1 ⟨rfl, hw⟩
    rw [hw]
    clear hw w1
    go_wp2_with fail
    refine (unhide d2).mono ?_
    rintro e w1 ⟨rfl, hb1, hce1⟩
    have B1 := hide hb1
    have hcell1 : Hid (∀ k (hk : k < xs.length), w1.cell? ⟨w.heap.size, k, none⟩ = some (.string ⟨(xs[k]).toArray⟩)) := fun k hk => by
      rw [hce1 k (by have := unhide hlen; omega)]
      simp [List.getD, hk]
    clear hb1 hce1
    go_wp2_with fail
    go_loopw [11, 4] (fun vi v4 wr => ∃ k : Nat, k ≤ c + 1 ∧ vi = .int .i64 k ∧ (∀ j (hj : j < xs.length), j < k → partL xs[j] = true) ∧ wr = w1) (fun i _ _ => c + 1 - (RowKit.intOf i).toNat)
    case atStart => exact ⟨0, by omega, rfl, fun j hj h => by omega, rfl⟩
    case round =>
      obtain ⟨k, hk, rfl, hd, rfl⟩ := hrel
      have H := hide hd
      clear hd
      have hl := unhide hlen
      by_cases hlt : k < c + 1
      · have hI : (k : Int) < (c : Int) + 1 := by omega
        have hI0 : (0 : Int) ≤ (k : Int) := by omega
        have hkx : k < xs.length := by omega
        have HK := hide hkx
        obtain ⟨X, hX, hce, dp⟩ : ∃ X, (⟨(xs[k]'hkx).toArray⟩ : ByteArray) = X ∧ wr.cell? ⟨w.heap.size, k, none⟩ = some (.string X) ∧ Hid (∀ W, Calls Tryz.prog 78 #[.string X] W fun e w' => e = .returned (.bool (partS X)) ∧ w' = W) := ⟨_, rfl, unhide hcell1 k hkx, isPart_any _ (unhide hsz k hkx)⟩
        have HX := hide hX
        have HPX : Hid (partS X = partL (xs[k]'hkx)) := by rw [← hX]; exact unhide HPL _
        clear hX hl
        by_cases hp : partS X = true
        · rw [hp] at dp HPX
          go_wp2_with fail
          refine (unhide dp wr).mono ?_
          rintro e w2 ⟨rfl, hw⟩
          rw [hw]
          clear hw w2
          go_wp2_with fail
          refine ⟨⟨k + 1, by omega, by go_num, ?_, trivial⟩, by simp [RowKit.intOf]; omega⟩
          intro j hj hjk
          by_cases e : j = k
          · subst e; exact (unhide HPX).symm
          · exact unhide H j hj (by omega)
        · have hp' : partS X = false := by simpa using hp
          rw [hp'] at dp HPX
          have hno : Hid (nameL s.data.toList = false) := by
            rw [unhide hnm]
            have : xs.all partL = false := List.all_eq_false.2 ⟨xs[k]'(unhide HK), List.getElem_mem _, by rw [← unhide HPX]; simp⟩
            rw [this]
            rfl
          go_wp2_with fail
          refine (unhide dp wr).mono ?_
          rintro e w2 ⟨rfl, hw⟩
          rw [hw]
          clear hw w2
          go_wp2_with fail
          go_ret
          exact ⟨by rw [unhide hno]; rfl, unhide B1⟩
      · have hkl : k = c + 1 := by omega
        have hI : ¬ (k : Int) < (c : Int) + 1 := by omega
        have hyes : Hid (nameL s.data.toList = true) := by
          rw [unhide hnm]
          have : xs.all partL = true := List.all_eq_true.2 fun x hx => by
            obtain ⟨i, hi, rfl⟩ := List.getElem_of_mem hx
            exact unhide H i hi (by omega)
          rw [this]
          rfl
        clear hkl hl
        go_wp2_with fail
        go_ret
        exact ⟨by rw [unhide hyes]; rfl, unhide B1⟩
  · have i6 : (6 : Int) ≤ (c : Int) := by omega
    rw [decide_eq_false h6] at hnm
    clear hc hcb hxs
    go_enter Tryz.func21, Tryz.ntmps21
    go_wp2_with fail
    refine (unhide d1).mono ?_
    rintro e w1 ⟨rfl, hw⟩
    rw [hw]
    clear hw w1
    go_wp2_with fail
    go_ret
    exact ⟨by rw [unhide hnm]; rfl, Below.refl _ _⟩
theorem root_index (l : List UInt8) : decide (0 ≤ Lib.indexByte l 58) = l.contains 58 := by
  induction l with
  | nil => rfl
  | cons a l ih =>
    have hg := Lib.indexByte_ge l 58
    rw [Lib.indexByte, List.contains_cons, ← ih]
    by_cases ha : a = 58
    · subst ha
      rfl
    · rw [if_neg (by simpa using ha)]
      have h2 : ((58 : UInt8) == a) = false := by simpa using fun e => ha e.symm
      rw [h2, Bool.false_or]
      by_cases h3 : Lib.indexByte l 58 = -1
      · rw [h3]; rfl
      · rw [if_neg (by simpa using h3)]
        have h4 : 0 ≤ Lib.indexByte l 58 := by omega
        have h5 : 0 ≤ Lib.indexByte l 58 + 1 := by omega
        rw [decide_eq_true h4, decide_eq_true h5]
/-- a name of one part -/
def rootS (s : ByteArray) : Bool := !s.data.toList.contains 58
theorem isRoot_any (s : ByteArray) (w : World) : Calls Tryz.prog 24 #[.string s] w fun e w' => e = .returned (.bool (rootS s)) ∧ w' = w := by
  have d := hide (Tryz.strings_Contains_one s 58 w)
  have e1 : decide (0 ≤ Lib.indexByte s.data.toList 58) = !rootS s := by
    rw [root_index, rootS, Bool.not_not]
  rw [e1] at d
  go_enter Tryz.func24, Tryz.ntmps24
  go_wp2_with fail
  refine (unhide d).mono ?_
  rintro e w1 ⟨rfl, hw⟩
  rw [hw]
  clear hw w1
  go_wp2_with fail
  go_ret
  exact ⟨by simp, rfl⟩
end Go.Proofs.YthiiommpeaejaaaGreatDoor
