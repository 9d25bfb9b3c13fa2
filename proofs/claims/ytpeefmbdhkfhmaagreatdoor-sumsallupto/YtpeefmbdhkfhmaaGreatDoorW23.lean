import Derived.Test.YtpeefmbdhkfhmaaGreatDoorW17
import Derived.Test.YtpeefmbdhkfhmaaGreatDoorW22
import Derived.Test.YtpeefmbdhkfhmaaGreatDoorW11
/- The document's sums: what State tells, plain. -/
namespace Go.Proofs.YtpeefmbdhkfhmaaGreatDoor.Kg
open Go Go.RowKit Go.Shelf Go.ChangeShapes Go.WideShapes Go.ChangeAt Go.Maps
set_option linter.unusedVariables false
set_option linter.unusedSimpArgs false
set_option maxRecDepth 100000
set_option maxHeartbeats 8000000
/-- what one account brings to the names of State -/
def stS (Ns : List ByteArray) (As : List Int) (N : List ByteArray) (s : ByteArray) : List ByteArray := if (sumL (amtsOf Ns As s)).1 = 0 then N else (abvL s).foldl insL N
def stN (Ns : List ByteArray) (As : List Int) (A : List ByteArray) : List ByteArray := A.foldl (stS Ns As) []
def stB (Ns : List ByteArray) (As : List Int) (N : List ByteArray) : List Bl := N.map fun s => ⟨s, (sumL (amtsOf Ns As s)).1, (sumL (selOf (rolB s) Ns As)).1⟩
theorem foldl_ins_len : ∀ (U N : List ByteArray), (U.foldl insL N).length ≤ N.length + U.length := by
  intro U
  induction U with
  | nil => intro N; simp
  | cons u U ih =>
    intro N
    have h1 := ih (insL N u)
    have h2 := insL_len N u
    rw [List.foldl_cons, List.length_cons]
    omega
theorem abvL_len (s : ByteArray) : (abvL s).length ≤ s.size + 1 := by
  unfold abvL
  have := abvF_len s s.size
  rw [List.length_append, List.length_singleton]
  omega
theorem stN_succ {Ns : List ByteArray} {As : List Int} {A : List ByteArray} {i : Nat} (hi : i < A.length) : stN Ns As (A.take (i + 1)) = stS Ns As (stN Ns As (A.take i)) A[i] := by
  unfold stN
  rw [List.take_succ_eq_append_getElem hi, List.foldl_append]
  rfl
theorem stN_lenK {Ns : List ByteArray} {As : List Int} {A : List ByteArray} {K : Nat} (h : ∀ s ∈ A, s.size + 1 ≤ K) : ∀ i, i ≤ A.length → (stN Ns As (A.take i)).length ≤ i * K
  | 0, _ => by simp [stN]
  | i + 1, hi => by
    have ih := stN_lenK (Ns := Ns) (As := As) h i (by omega)
    have e : (i + 1) * K = i * K + K := Nat.succ_mul i K
    rw [stN_succ (by omega)]
    unfold stS
    split
    · exact Nat.le_trans ih (by omega)
    · have h1 := foldl_ins_len (abvL A[i]) (stN Ns As (A.take i))
      have h2 := abvL_len A[i]
      have h3 := h A[i] (List.getElem_mem (by omega))
      refine Nat.le_trans h1 (Nat.le_trans (Nat.add_le_add ih (Nat.le_trans h2 h3)) (Nat.le_of_eq e.symm))
theorem stN_len {Ns : List ByteArray} {As : List Int} {A : List ByteArray} (h : ∀ s ∈ A, s.size ≤ 1048576) (i : Nat) (hi : i ≤ A.length) : (stN Ns As (A.take i)).length ≤ i * 1048577 := stN_lenK (fun s hs => by have := h s hs; omega) i hi
theorem accs_mem' (Ns : List ByteArray) : ∀ z, z ∈ accs Ns → z ∈ Ns := by
  have hi : ∀ (x : ByteArray) (L : List ByteArray) (s : List ByteArray × Bool), ∀ z ∈ (L.foldl (insS x) s).1, z = x ∨ z ∈ L ∨ z ∈ s.1 := by
    intro x L
    induction L with
    | nil => intro s z hz; exact .inr (.inr hz)
    | cons y L ih =>
      intro s z hz
      rcases ih (insS x s y) z hz with h | h | h
      · exact .inl h
      · exact .inr (.inl (List.mem_cons_of_mem _ h))
      · unfold insS at h
        split at h
        · rcases List.mem_append.1 h with h | h
          · exact .inr (.inr h)
          · rw [List.mem_singleton] at h; subst h; exact .inr (.inl (by simp))
        · split at h
          · rcases List.mem_append.1 h with h | h
            · rcases List.mem_append.1 h with h | h
              · exact .inr (.inr h)
              · rw [List.mem_singleton] at h; exact .inl h
            · rw [List.mem_singleton] at h; subst h; exact .inr (.inl (by simp))
          · rcases List.mem_append.1 h with h | h
            · exact .inr (.inr h)
            · rw [List.mem_singleton] at h; subst h; exact .inr (.inl (by simp))
  have hj : ∀ (L : List ByteArray) (x z : ByteArray), z ∈ insL L x → z = x ∨ z ∈ L := by
    intro L x z hz
    unfold insL insF at hz
    split at hz
    · rcases hi x L ([], false) z hz with h | h | h
      · exact .inl h
      · exact .inr h
      · cases h
    · rcases List.mem_append.1 hz with hz | hz
      · rcases hi x L ([], false) z hz with h | h | h
        · exact .inl h
        · exact .inr h
        · cases h
      · rw [List.mem_singleton] at hz; exact .inl hz
  have key : ∀ (M L : List ByteArray) z, z ∈ M.foldl insL L → z ∈ M ∨ z ∈ L := by
    intro M
    induction M with
    | nil => intro L z hz; exact .inr hz
    | cons y M ih =>
      intro L z hz
      rcases ih (insL L y) z hz with h | h
      · exact .inl (List.mem_cons_of_mem _ h)
      · rcases hj L y z h with rfl | h
        · exact .inl (by simp)
        · exact .inr h
  intro z hz
  rcases key Ns [] z hz with h | h
  · exact h
  · cases h
theorem stB_succ {Ns : List ByteArray} {As : List Int} {A : List ByteArray} {i : Nat} (hi : i < A.length) : stB Ns As (A.take (i + 1)) = stB Ns As (A.take i) ++ [⟨A[i], (sumL (amtsOf Ns As A[i])).1, (sumL (selOf (rolB A[i]) Ns As)).1⟩] := by
  unfold stB
  rw [List.take_succ_eq_append_getElem hi, List.map_append]
  rfl
theorem stN_size {Ns : List ByteArray} {As : List Int} {A : List ByteArray} (h : ∀ s ∈ A, s.size ≤ 1048576) : ∀ z ∈ stN Ns As A, z.size ≤ 1048576 := by
  have hab : ∀ (s z : ByteArray), z ∈ abvL s → z.size ≤ s.size := by
    intro s z hz
    unfold abvL abvF at hz
    rcases List.mem_append.1 hz with hz | hz
    · obtain ⟨k, hk, hz⟩ := List.mem_flatMap.1 hz
      split at hz
      · rw [List.mem_singleton] at hz; subst hz; rw [ByteArray.size_extract]; omega
      · cases hz
    · rw [List.mem_singleton] at hz; rw [hz]; exact Nat.le_refl _
  have hins : ∀ (L : List ByteArray) (x z : ByteArray), z ∈ insL L x → z = x ∨ z ∈ L := by
    intro L x z hz
    have := accs_mem' (L ++ [x]) z
    by_cases hL : z ∈ L
    · exact .inr hL
    · refine .inl ?_
      have hi : ∀ (L : List ByteArray) (s : List ByteArray × Bool), ∀ z ∈ (L.foldl (insS x) s).1, z = x ∨ z ∈ L ∨ z ∈ s.1 := by
        intro L
        induction L with
        | nil => intro s z hz; exact .inr (.inr hz)
        | cons y L ih =>
          intro s z hz
          rcases ih (insS x s y) z hz with h | h | h
          · exact .inl h
          · exact .inr (.inl (List.mem_cons_of_mem _ h))
          · unfold insS at h
            split at h
            · rcases List.mem_append.1 h with h | h
              · exact .inr (.inr h)
              · rw [List.mem_singleton] at h; subst h; exact .inr (.inl (by simp))
            · split at h
              · rcases List.mem_append.1 h with h | h
                · rcases List.mem_append.1 h with h | h
                  · exact .inr (.inr h)
                  · rw [List.mem_singleton] at h; exact .inl h
                · rw [List.mem_singleton] at h; subst h; exact .inr (.inl (by simp))
              · rcases List.mem_append.1 h with h | h
                · exact .inr (.inr h)
                · rw [List.mem_singleton] at h; subst h; exact .inr (.inl (by simp))
      unfold insL insF at hz
      split at hz
      · rcases hi L ([], false) z hz with h | h | h
        · exact h
        · exact absurd h hL
        · cases h
      · rcases List.mem_append.1 hz with hz | hz
        · rcases hi L ([], false) z hz with h | h | h
          · exact h
          · exact absurd h hL
          · cases h
        · rw [List.mem_singleton] at hz; exact hz
  have hfold : ∀ (U N : List ByteArray), (∀ z ∈ U, z.size ≤ 1048576) → (∀ z ∈ N, z.size ≤ 1048576) → ∀ z ∈ U.foldl insL N, z.size ≤ 1048576 := by
    intro U
    induction U with
    | nil => intro N _ hN; exact hN
    | cons u U ih =>
      intro N hU hN
      refine ih (insL N u) (fun z hz => hU z (List.mem_cons_of_mem _ hz)) (fun z hz => ?_)
      rcases hins N u z hz with rfl | hz
      · exact hU _ (by simp)
      · exact hN z hz
  have hall : ∀ (B N : List ByteArray), (∀ s ∈ B, s.size ≤ 1048576) → (∀ z ∈ N, z.size ≤ 1048576) → ∀ z ∈ B.foldl (stS Ns As) N, z.size ≤ 1048576 := by
    intro B
    induction B with
    | nil => intro N _ hN; exact hN
    | cons s B ih =>
      intro N hB hN
      refine ih (stS Ns As N s) (fun z hz => hB z (List.mem_cons_of_mem _ hz)) ?_
      unfold stS
      split
      · exact hN
      · exact hfold (abvL s) N (fun z hz => Nat.le_trans (hab s z hz) (hB s (by simp))) hN
  exact hall A [] h (fun z hz => by cases hz)
end Go.Proofs.YtpeefmbdhkfhmaaGreatDoor.Kg
/- The document's Name (ref05). Ported from the chart's seat. -/
namespace Go.Proofs.YtpeefmbdhkfhmaaGreatDoor
open Go Go.ChangeShapes Go.WideShapes Go.ChangeAt Go.RowKit
set_option linter.unusedVariables false
theorem rupper_any (c : Nat) (w : World) : Calls Tryz.prog 170 #[.int .u8 (c : Int)] w fun e w' => e = .returned (.bool (upB c)) ∧ w' = w := by
  unfold upB
  by_cases h1 : 65 ≤ c
  · have i1 : (65 : Int) ≤ (c : Int) := by omega
    by_cases h2 : c ≤ 90
    · have i2 : (c : Int) ≤ 90 := by omega
      go_enter Tryz.func170, Tryz.ntmps170
      go_wp2_with fail
      go_ret
      exact ⟨by simp_all, rfl⟩
    · have i2 : ¬ (c : Int) ≤ 90 := by omega
      go_enter Tryz.func170, Tryz.ntmps170
      go_wp2_with fail
      go_ret
      exact ⟨by simp_all, rfl⟩
  · have i1 : ¬ (65 : Int) ≤ (c : Int) := by omega
    go_enter Tryz.func170, Tryz.ntmps170
    go_wp2_with fail
    go_ret
    exact ⟨by simp_all, rfl⟩
theorem rlower_any (c : Nat) (w : World) : Calls Tryz.prog 171 #[.int .u8 (c : Int)] w fun e w' => e = .returned (.bool (loB c)) ∧ w' = w := by
  unfold loB
  by_cases h1 : 97 ≤ c
  · have i1 : (97 : Int) ≤ (c : Int) := by omega
    by_cases h2 : c ≤ 122
    · have i2 : (c : Int) ≤ 122 := by omega
      go_enter Tryz.func171, Tryz.ntmps171
      go_wp2_with fail
      go_ret
      exact ⟨by simp_all, rfl⟩
    · have i2 : ¬ (c : Int) ≤ 122 := by omega
      go_enter Tryz.func171, Tryz.ntmps171
      go_wp2_with fail
      go_ret
      exact ⟨by simp_all, rfl⟩
  · have i1 : ¬ (97 : Int) ≤ (c : Int) := by omega
    go_enter Tryz.func171, Tryz.ntmps171
    go_wp2_with fail
    go_ret
    exact ⟨by simp_all, rfl⟩
theorem rdigit_any (c : Nat) (w : World) : Calls Tryz.prog 172 #[.int .u8 (c : Int)] w fun e w' => e = .returned (.bool (dgB c)) ∧ w' = w := by
  unfold dgB
  by_cases h1 : 48 ≤ c
  · have i1 : (48 : Int) ≤ (c : Int) := by omega
    by_cases h2 : c ≤ 57
    · have i2 : (c : Int) ≤ 57 := by omega
      go_enter Tryz.func172, Tryz.ntmps172
      go_wp2_with fail
      go_ret
      exact ⟨by simp_all, rfl⟩
    · have i2 : ¬ (c : Int) ≤ 57 := by omega
      go_enter Tryz.func172, Tryz.ntmps172
      go_wp2_with fail
      go_ret
      exact ⟨by simp_all, rfl⟩
  · have i1 : ¬ (48 : Int) ≤ (c : Int) := by omega
    go_enter Tryz.func172, Tryz.ntmps172
    go_wp2_with fail
    go_ret
    exact ⟨by simp_all, rfl⟩
set_option maxRecDepth 100000 in
set_option maxHeartbeats 8000000 in
theorem rname_any (s : ByteArray) (hs : s.size ≤ 9223372036854775000) (w : World) : Calls Tryz.prog 88 #[.string s] w fun e w' => e = .returned (.bool (nameL s.data.toList)) ∧ w' = w := by
  go_enter Tryz.func88, Tryz.ntmps88
  go_wp2_with fail
  go_loopw [3, 4, 5] (fun vp vs vi wr => ∃ (k parts size : Nat), k ≤ s.size ∧ vp = .int .i64 parts ∧ vs = .int .i64 size ∧ vi = .int .i64 k ∧ size ≤ 16 ∧ parts ≤ k + 1 ∧ nm 1 0 s.data.toList = nm parts size (s.data.toList.drop k) ∧ wr = w) (fun _ _ i _ => s.size - (RowKit.intOf i).toNat)
  case atStart => exact ⟨0, 1, 0, by omega, rfl, rfl, rfl, by omega, by omega, rfl, rfl⟩
  case round =>
    obtain ⟨k, parts, size, hk, rfl, rfl, rfl, h16, hpk, hd, rfl⟩ := hrel
    by_cases hlt : k < s.size
    · have hI : (k : Int) < (s.size : Int) := by omega
      have hI0 : (0 : Int) ≤ (k : Int) := by omega
      rw [drop_byte hlt, nm_step] at hd
      obtain ⟨c, hc⟩ : ∃ c, s[k] = c := ⟨_, rfl⟩
      rw [hc] at hd
      obtain ⟨B, hB⟩ : ∃ B : Nat, c.toNat = B := ⟨_, rfl⟩
      have hB' : (s[k]).toNat = B := by rw [hc]; exact hB
      rw [hB] at hd
      have c58 : c = 58 ↔ B = 58 := by
        constructor
        · intro e; rw [← hB, e]; rfl
        · intro e; exact UInt8.toNat_inj.1 (by rw [hB, e]; rfl)
      simp only [c58] at hd
      clear hc hB c58
      have dU := hide (rupper_any B)
      have dL := hide (rlower_any B)
      have dD := hide (rdigit_any B)
      by_cases t58 : B = 58
      · subst t58
        rw [if_pos rfl] at hd
        by_cases z : size = 0
        · subst z
          rw [if_pos rfl, nm_name] at hd
          have HD := hide hd
          clear hd
          go_wp2_with fail
          refine (unhide dU wr).mono ?_
          rintro e w1 ⟨rfl, hw⟩
          rw [hw]
          clear hw w1
          go_wp2_with fail
          refine (unhide dL wr).mono ?_
          rintro e w1 ⟨rfl, hw⟩
          rw [hw]
          clear hw w1
          go_wp2_with fail
          refine (unhide dD wr).mono ?_
          rintro e w1 ⟨rfl, hw⟩
          rw [hw]
          clear hw w1
          go_wp2_with fail
          go_ret
          exact ⟨by rw [unhide HD]; rfl, rfl⟩
        · have z1 : ((size : Int) == 0) = false := by simp; omega
          rw [if_neg z] at hd
          have HD := hide hd
          clear hd
          go_wp2_with fail
          refine (unhide dU wr).mono ?_
          rintro e w1 ⟨rfl, hw⟩
          rw [hw]
          clear hw w1
          go_wp2_with fail
          refine (unhide dL wr).mono ?_
          rintro e w1 ⟨rfl, hw⟩
          rw [hw]
          clear hw w1
          go_wp2_with fail
          refine (unhide dD wr).mono ?_
          rintro e w1 ⟨rfl, hw⟩
          rw [hw]
          clear hw w1
          go_wp2_with fail
          refine ⟨⟨k + 1, parts + 1, 0, by omega, by go_num, by go_num, by go_num, by omega, by omega, unhide HD, trivial⟩, by simp [RowKit.intOf]; omega⟩
      · have v58 : ((B : Int) == 58) = false := by simp; omega
        rw [if_neg t58] at hd
        by_cases z : size = 0
        · subst z
          by_cases t0 : upB B = true
          · rw [t0] at dU
            have hp : partB B = true := by unfold partB; rw [t0]; rfl
            rw [if_neg (by simp [t0, hp])] at hd
            rw [if_neg (by omega)] at hd
            have HD := hide hd
            clear hd
            go_wp2_with fail
            refine (unhide dU wr).mono ?_
            rintro e w1 ⟨rfl, hw⟩
            rw [hw]
            clear hw w1
            go_wp2_with fail
            refine (unhide dL wr).mono ?_
            rintro e w1 ⟨rfl, hw⟩
            rw [hw]
            clear hw w1
            go_wp2_with fail
            refine (unhide dD wr).mono ?_
            rintro e w1 ⟨rfl, hw⟩
            rw [hw]
            clear hw w1
            go_wp2_with fail
            refine ⟨⟨k + 1, parts, 1, by omega, by go_num, by go_num, by go_num, by omega, by omega, unhide HD, trivial⟩, by simp [RowKit.intOf]; omega⟩
          · have u0 : upB B = false := by simpa using t0
            rw [u0] at dU
            rw [if_pos (.inl ⟨rfl, u0⟩)] at hd
            rw [nm_name] at hd
            have HD := hide hd
            clear hd
            go_wp2_with fail
            refine (unhide dU wr).mono ?_
            rintro e w1 ⟨rfl, hw⟩
            rw [hw]
            clear hw w1
            go_wp2_with fail
            refine (unhide dL wr).mono ?_
            rintro e w1 ⟨rfl, hw⟩
            rw [hw]
            clear hw w1
            go_wp2_with fail
            refine (unhide dD wr).mono ?_
            rintro e w1 ⟨rfl, hw⟩
            rw [hw]
            clear hw w1
            go_wp2_with fail
            go_ret
            exact ⟨by rw [unhide HD]; rfl, rfl⟩
        · have z1 : ((size : Int) == 0) = false := by simp; omega
          by_cases t0 : upB B = true
          · rw [t0] at dU
            have hp : partB B = true := by simp [partB, tagB, t0]
            rw [if_neg (by simp [z, hp])] at hd
            by_cases hz : 16 < size + 1
            · have hz1 : (16 : Int) < (size : Int) + 1 := by omega
              rw [if_pos hz, nm_name] at hd
              have HD := hide hd
              clear hd
              go_wp2_with fail
              refine (unhide dU wr).mono ?_
              rintro e w1 ⟨rfl, hw⟩
              rw [hw]
              clear hw w1
              go_wp2_with fail
              refine (unhide dL wr).mono ?_
              rintro e w1 ⟨rfl, hw⟩
              rw [hw]
              clear hw w1
              go_wp2_with fail
              refine (unhide dD wr).mono ?_
              rintro e w1 ⟨rfl, hw⟩
              rw [hw]
              clear hw w1
              go_wp2_with fail
              go_ret
              exact ⟨by rw [unhide HD]; rfl, rfl⟩
            · have hz1 : ¬ (16 : Int) < (size : Int) + 1 := by omega
              rw [if_neg hz] at hd
              have HD := hide hd
              clear hd
              go_wp2_with fail
              refine (unhide dU wr).mono ?_
              rintro e w1 ⟨rfl, hw⟩
              rw [hw]
              clear hw w1
              go_wp2_with fail
              refine (unhide dL wr).mono ?_
              rintro e w1 ⟨rfl, hw⟩
              rw [hw]
              clear hw w1
              go_wp2_with fail
              refine (unhide dD wr).mono ?_
              rintro e w1 ⟨rfl, hw⟩
              rw [hw]
              clear hw w1
              go_wp2_with fail
              refine ⟨⟨k + 1, parts, size + 1, by omega, by go_num, by go_num, by go_num, by omega, by omega, unhide HD, trivial⟩, by simp [RowKit.intOf]; omega⟩
          · have u0 : upB B = false := by simpa using t0
            rw [u0] at dU
            by_cases t1 : loB B = true
            · rw [t1] at dL
              have hp : partB B = true := by simp [partB, tagB, t1]
              rw [if_neg (by simp [z, hp])] at hd
              by_cases hz : 16 < size + 1
              · have hz1 : (16 : Int) < (size : Int) + 1 := by omega
                rw [if_pos hz, nm_name] at hd
                have HD := hide hd
                clear hd
                go_wp2_with fail
                refine (unhide dU wr).mono ?_
                rintro e w1 ⟨rfl, hw⟩
                rw [hw]
                clear hw w1
                go_wp2_with fail
                refine (unhide dL wr).mono ?_
                rintro e w1 ⟨rfl, hw⟩
                rw [hw]
                clear hw w1
                go_wp2_with fail
                refine (unhide dD wr).mono ?_
                rintro e w1 ⟨rfl, hw⟩
                rw [hw]
                clear hw w1
                go_wp2_with fail
                go_ret
                exact ⟨by rw [unhide HD]; rfl, rfl⟩
              · have hz1 : ¬ (16 : Int) < (size : Int) + 1 := by omega
                rw [if_neg hz] at hd
                have HD := hide hd
                clear hd
                go_wp2_with fail
                refine (unhide dU wr).mono ?_
                rintro e w1 ⟨rfl, hw⟩
                rw [hw]
                clear hw w1
                go_wp2_with fail
                refine (unhide dL wr).mono ?_
                rintro e w1 ⟨rfl, hw⟩
                rw [hw]
                clear hw w1
                go_wp2_with fail
                refine (unhide dD wr).mono ?_
                rintro e w1 ⟨rfl, hw⟩
                rw [hw]
                clear hw w1
                go_wp2_with fail
                refine ⟨⟨k + 1, parts, size + 1, by omega, by go_num, by go_num, by go_num, by omega, by omega, unhide HD, trivial⟩, by simp [RowKit.intOf]; omega⟩
            · have u1 : loB B = false := by simpa using t1
              rw [u1] at dL
              by_cases t2 : dgB B = true
              · rw [t2] at dD
                have hp : partB B = true := by simp [partB, tagB, t2]
                rw [if_neg (by simp [z, hp])] at hd
                by_cases hz : 16 < size + 1
                · have hz1 : (16 : Int) < (size : Int) + 1 := by omega
                  rw [if_pos hz, nm_name] at hd
                  have HD := hide hd
                  clear hd
                  go_wp2_with fail
                  refine (unhide dU wr).mono ?_
                  rintro e w1 ⟨rfl, hw⟩
                  rw [hw]
                  clear hw w1
                  go_wp2_with fail
                  refine (unhide dL wr).mono ?_
                  rintro e w1 ⟨rfl, hw⟩
                  rw [hw]
                  clear hw w1
                  go_wp2_with fail
                  refine (unhide dD wr).mono ?_
                  rintro e w1 ⟨rfl, hw⟩
                  rw [hw]
                  clear hw w1
                  go_wp2_with fail
                  go_ret
                  exact ⟨by rw [unhide HD]; rfl, rfl⟩
                · have hz1 : ¬ (16 : Int) < (size : Int) + 1 := by omega
                  rw [if_neg hz] at hd
                  have HD := hide hd
                  clear hd
                  go_wp2_with fail
                  refine (unhide dU wr).mono ?_
                  rintro e w1 ⟨rfl, hw⟩
                  rw [hw]
                  clear hw w1
                  go_wp2_with fail
                  refine (unhide dL wr).mono ?_
                  rintro e w1 ⟨rfl, hw⟩
                  rw [hw]
                  clear hw w1
                  go_wp2_with fail
                  refine (unhide dD wr).mono ?_
                  rintro e w1 ⟨rfl, hw⟩
                  rw [hw]
                  clear hw w1
                  go_wp2_with fail
                  refine ⟨⟨k + 1, parts, size + 1, by omega, by go_num, by go_num, by go_num, by omega, by omega, unhide HD, trivial⟩, by simp [RowKit.intOf]; omega⟩
              · have u2 : dgB B = false := by simpa using t2
                rw [u2] at dD
                by_cases t3 : B = 45
                · subst t3
                  rw [if_neg (by simp [z]; rfl)] at hd
                  by_cases hz : 16 < size + 1
                  · have hz1 : (16 : Int) < (size : Int) + 1 := by omega
                    rw [if_pos hz, nm_name] at hd
                    have HD := hide hd
                    clear hd
                    go_wp2_with fail
                    refine (unhide dU wr).mono ?_
                    rintro e w1 ⟨rfl, hw⟩
                    rw [hw]
                    clear hw w1
                    go_wp2_with fail
                    refine (unhide dL wr).mono ?_
                    rintro e w1 ⟨rfl, hw⟩
                    rw [hw]
                    clear hw w1
                    go_wp2_with fail
                    refine (unhide dD wr).mono ?_
                    rintro e w1 ⟨rfl, hw⟩
                    rw [hw]
                    clear hw w1
                    go_wp2_with fail
                    go_ret
                    exact ⟨by rw [unhide HD]; rfl, rfl⟩
                  · have hz1 : ¬ (16 : Int) < (size : Int) + 1 := by omega
                    rw [if_neg hz] at hd
                    have HD := hide hd
                    clear hd
                    go_wp2_with fail
                    refine (unhide dU wr).mono ?_
                    rintro e w1 ⟨rfl, hw⟩
                    rw [hw]
                    clear hw w1
                    go_wp2_with fail
                    refine (unhide dL wr).mono ?_
                    rintro e w1 ⟨rfl, hw⟩
                    rw [hw]
                    clear hw w1
                    go_wp2_with fail
                    refine (unhide dD wr).mono ?_
                    rintro e w1 ⟨rfl, hw⟩
                    rw [hw]
                    clear hw w1
                    go_wp2_with fail
                    refine ⟨⟨k + 1, parts, size + 1, by omega, by go_num, by go_num, by go_num, by omega, by omega, unhide HD, trivial⟩, by simp [RowKit.intOf]; omega⟩
                · have v3 : ((B : Int) == 45) = false := by simp; omega
                  have hp : partB B = false := by simp [partB, tagB, u0, u1, u2, t3]
                  rw [if_pos (.inr hp)] at hd
                  rw [nm_name] at hd
                  have HD := hide hd
                  clear hd
                  go_wp2_with fail
                  refine (unhide dU wr).mono ?_
                  rintro e w1 ⟨rfl, hw⟩
                  rw [hw]
                  clear hw w1
                  go_wp2_with fail
                  refine (unhide dL wr).mono ?_
                  rintro e w1 ⟨rfl, hw⟩
                  rw [hw]
                  clear hw w1
                  go_wp2_with fail
                  refine (unhide dD wr).mono ?_
                  rintro e w1 ⟨rfl, hw⟩
                  rw [hw]
                  clear hw w1
                  go_wp2_with fail
                  go_ret
                  exact ⟨by rw [unhide HD]; rfl, rfl⟩
    · have hkl : k = s.size := by omega
      have hI : ¬ (k : Int) < (s.size : Int) := by omega
      rw [List.drop_eq_nil_of_le (by simp; omega), nm_name] at hd
      have HD := hide (show nameL s.data.toList = (decide (0 < size) && decide (parts ≤ 6)) from hd)
      clear hd hkl
      by_cases z : 0 < size
      · have z1 : (0 : Int) < (size : Int) := by omega
        by_cases y : parts ≤ 6
        · have y1 : (parts : Int) ≤ 6 := by omega
          rw [decide_eq_true z, decide_eq_true y] at HD
          go_wp2_with fail
          go_ret
          exact ⟨by rw [unhide HD]; rfl, rfl⟩
        · have y1 : ¬ (parts : Int) ≤ 6 := by omega
          rw [decide_eq_true z, decide_eq_false y] at HD
          go_wp2_with fail
          go_ret
          exact ⟨by rw [unhide HD]; rfl, rfl⟩
      · have z1 : ¬ (0 : Int) < (size : Int) := by omega
        rw [decide_eq_false z] at HD
        go_wp2_with fail
        go_ret
        exact ⟨by rw [unhide HD]; rfl, rfl⟩
end Go.Proofs.YtpeefmbdhkfhmaaGreatDoor
