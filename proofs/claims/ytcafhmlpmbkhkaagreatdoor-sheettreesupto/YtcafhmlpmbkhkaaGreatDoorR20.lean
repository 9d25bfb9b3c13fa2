import Derived.Test.YtcafhmlpmbkhkaaGreatDoorR01
namespace Go.Proofs.YtcafhmlpmbkhkaaGreatDoor
open Go Go.Shelf Go.ChangeShapes Go.WideShapes Go.ChangeAt Go.RowKit Go.Maps
set_option linter.unusedVariables false
set_option linter.unusedSimpArgs false
def lstS (x : Tx) : Nat → Nat
  | 0 => 0
  | k + 1 => if x[k]? = some 58 then k + 1 else lstS x k
theorem lstS_le (x : Tx) : ∀ k, lstS x k ≤ k
  | 0 => Nat.le_refl _
  | k + 1 => by
    have := lstS_le x k
    rw [lstS]
    split <;> omega
def indN (x : Tx) : Tx := List.replicate (2 * x.count 58) 32 ++ x.drop (lstS x x.length)
theorem indN_len (x : Tx) : (indN x).length ≤ 3 * x.length := by
  unfold indN
  have := List.count_le_length (a := (58 : UInt8)) (l := x)
  simp only [List.length_append, List.length_replicate, List.length_drop]
  omega
theorem lst_idx (x : Tx) : ∀ k, k ≤ x.length → Lib.lastIdx (txB x) 58 k + 1 = (lstS x k : Int)
  | 0, _ => rfl
  | k + 1, h => by
    have ih := lst_idx x k (by omega)
    have hk : k < x.length := by omega
    have e : (txB x).data[k]! = x[k] := by
      simp [txB, hk]
    rw [Lib.lastIdx, lstS, e, List.getElem?_eq_getElem hk]
    by_cases h1 : x[k] = 58
    · rw [h1]; simp
    · have h2 : ¬ (x[k].toNat : Int) = 58 := fun q => h1 (by
        apply UInt8.toNat_inj.1
        show x[k].toNat = 58
        omega)
      simp only [h2, if_false, Option.some.injEq, h1, ih]
theorem repB (c : Nat) : Lib.repeatL [32, 32] c = List.replicate (2 * c) 32 := by
  have := Lib.repeatL_replicate 32 2 c
  rw [Nat.mul_comm 2 c]
  exact this
set_option maxRecDepth 100000 in
set_option maxHeartbeats 4000000 in
theorem indent_any (x : Tx) (hx : x.length ≤ 1048576) (w : World) : Calls Tryz.prog 121 #[.string (txB x)] w (TxtOut w (indN x)) := by
  have hsz : (txB x).size = x.length := txB_len x
  have hcl := List.count_le_length (a := (58 : UInt8)) (l := x)
  obtain ⟨c, hc⟩ : ∃ c, c = x.count 58 := ⟨_, rfl⟩
  rw [← hc] at hcl
  have D1 : Calls Tryz.prog 186 #[.string (txB x), .string ⟨#[58]⟩] w fun e w' => e = .returned (.int .i64 c) ∧ w' = w := by
    have := Tryz.strings_Count_one (txB x) 58 w
    have e : Lib.countByte (txB x).data.toList 58 = c := by rw [hc]; simp [Lib.countByte, txB]
    rw [e] at this
    exact this
  have D2 := Tryz.strings_Repeat ⟨#[32, 32]⟩ c w (by omega) (by show 2 * c ≤ _; omega)
  have D3 : ∀ W, Calls Tryz.prog 188 #[.string (txB x), .string ⟨#[58]⟩] W fun e w' => e = .returned (.int .i64 ((lstS x x.length : Int) - 1)) ∧ w' = W := fun W => by
    have := Tryz.strings_LastIndex_one (txB x) ⟨#[58]⟩ rfl (by omega) W
    have e : Lib.lastIndexByte (txB x) (((⟨#[58]⟩ : ByteArray)[0]'(by decide)).toNat : Int) = (lstS x x.length : Int) - 1 := by
      have h := lst_idx x x.length (Nat.le_refl _)
      show Lib.lastIdx (txB x) 58 (txB x).size = _
      rw [hsz]
      omega
    rw [e] at this
    exact this
  obtain ⟨l, hl⟩ : ∃ l, l = lstS x x.length := ⟨_, rfl⟩
  rw [← hl] at D3
  have hlx : l ≤ (txB x).size := by rw [hl, hsz]; exact lstS_le _ _
  obtain ⟨T, hT⟩ : ∃ T, T = txB x := ⟨_, rfl⟩
  rw [← hT] at D1 D3 hlx hsz ⊢
  obtain ⟨R, hR⟩ : ∃ R : ByteArray, R = ⟨(Lib.repeatL (⟨#[32, 32]⟩ : ByteArray).data.toList c).toArray⟩ := ⟨_, rfl⟩
  rw [← hR] at D2
  have hRs : R.size ≤ 2097152 := by
    rw [hR]
    show (Lib.repeatL _ c).toArray.size ≤ _
    rw [List.size_toArray, Lib.repeatL_length]
    show c * 2 ≤ _
    omega
  have D1 := hide D1; have D2 := hide D2; have D3 := hide D3; have HC := hide hc; have HL := hide hl; have HT := hide hT; have HR := hide hR
  have hT64 : T.size ≤ 1048576 := by omega
  clear hc hl hT hR hcl hsz
  go_enter Tryz.func121, Tryz.ntmps121
  go_wp2_with first | (go_at_call 186; refine (unhide D1).mono ?_; rintro e wz ⟨rfl, hwz⟩; rw [hwz]; clear hwz wz D1) | (go_at_call 187; refine (unhide D2).mono ?_; rintro e w1 ⟨rfl, hb1⟩; have HB1 := hide hb1; clear hb1 D2; have D3 := hide (unhide D3 w1)) | (go_at_call 188; refine (unhide D3).mono ?_; rintro e wz ⟨rfl, hwz⟩; rw [hwz]; clear hwz wz D3)
  go_ret
  refine ⟨?_, unhide HB1⟩
  show Ending.returned (.string (R ++ T.extract l T.size)) = _
  have e1 : R = txB (List.replicate (2 * x.count 58) 32) := by
    rw [unhide HR, ← unhide HC]
    show (⟨(Lib.repeatL [32, 32] c).toArray⟩ : ByteArray) = _
    rw [repB]
    rfl
  have e2 : T.extract l T.size = txB (x.drop l) := by
    rw [unhide HT]
    apply ByteArray.ext
    apply Array.toList_inj.1
    rw [ext_drop]
    simp [txB]
  rw [e1, e2, txB_app, unhide HL]
  rfl
theorem cnt_step (x : Tx) {k : Nat} (hk : k < x.length) : (x.take (k + 1)).count 58 = (x.take k).count 58 + if x[k] = 58 then 1 else 0 := by
  rw [List.take_succ_eq_append_getElem hk, List.count_append, List.count_singleton]
  by_cases h : x[k] = 58
  · simp [h]
  · simp [h]
set_option maxRecDepth 100000 in
set_option maxHeartbeats 4000000 in
theorem rlast_any (x : Tx) (hx : x.length ≤ 1048576) (w : World) : Calls Tryz.prog 130 #[.string (txB x)] w (TxtOut w (indN x)) := by
  obtain ⟨T, hT⟩ : ∃ T, T = txB x := ⟨_, rfl⟩
  rw [← hT]
  have hsz : T.size = x.length := by rw [hT, txB_len]
  have HT := hide hT; have HSZ := hide hsz
  have hT64 : T.size ≤ 1048576 := by omega
  have HE0 : Hid ((⟨#[]⟩ : ByteArray) = txB (List.replicate (2 * (x.take 0).count 58) 32)) := rfl
  clear hT hsz
  go_enter Tryz.func130, Tryz.ntmps130
  go_wp2_with fail
  go_loopw [3, 4, 5] (fun sv fv iv W => ∃ (k l : Nat) (S : ByteArray), k ≤ T.size ∧ l ≤ k ∧ iv = .int .i64 (k : Int) ∧ fv = .int .i64 (l : Int) ∧ sv = .string S ∧ W = w ∧ Hid (l = lstS x k ∧ S = txB (List.replicate (2 * (x.take k).count 58) 32))) (fun _ _ iv _ => T.size - (intOf iv).toNat)
  case atStart => exact ⟨0, 0, ⟨#[]⟩, by omega, by omega, rfl, rfl, rfl, rfl, rfl, unhide HE0⟩
  case round =>
    obtain ⟨k, l, S, hk, hlk, rfl, rfl, rfl, rfl, HA⟩ := hrel
    have hS : S.size ≤ 2097152 := by
      rw [(unhide HA).2, txB_len, List.length_replicate]
      have h1 := List.count_le_length (a := (58 : UInt8)) (l := x.take k)
      rw [List.length_take] at h1
      omega
    by_cases hlt : k < T.size
    · have hI : (k : Int) < (T.size : Int) := by omega
      have hI0 : (0 : Int) ≤ (k : Int) := by omega
      have hkx : k < x.length := by have := unhide HSZ; omega
      have hbe : T[k] = x[k] := by
        have h1 := unhide HT
        subst h1
        simp [txB, ByteArray.getElem_eq_getElem_data]
      obtain ⟨B, hB⟩ : ∃ B : Nat, (T[k]).toNat = B := ⟨_, rfl⟩
      by_cases h1 : B = 58
      · subst h1
        have hx58 : x[k] = 58 := by
          rw [← hbe]
          apply UInt8.toNat_inj.1
          exact hB
        have HNEW : Hid (k + 1 = lstS x (k + 1) ∧ S ++ ⟨#[32, 32]⟩ = txB (List.replicate (2 * (x.take (k + 1)).count 58) 32)) := by
          refine ⟨by rw [lstS, List.getElem?_eq_getElem hkx, hx58, if_pos rfl], ?_⟩
          rw [cnt_step x hkx, if_pos hx58, (unhide HA).2, Nat.mul_add, ← List.replicate_append_replicate, ← txB_app]
          rfl
        have k1 : ¬ 9223372036854775807 < S.size + 2 := by omega
        clear hbe hkx hx58 HA
        go_wp2_with fail
        exact ⟨⟨k + 1, k + 1, S ++ ⟨#[32, 32]⟩, by omega, by omega, by go_num, by go_num, rfl, trivial, HNEW⟩, by simp [intOf]; omega⟩
      · have hx58 : ¬ x[k] = 58 := fun q => h1 (by rw [← hB, hbe, q]; rfl)
        have HNEW : Hid (l = lstS x (k + 1) ∧ S = txB (List.replicate (2 * (x.take (k + 1)).count 58) 32)) := by
          refine ⟨by rw [lstS, List.getElem?_eq_getElem hkx, if_neg (by simpa using hx58)]; exact (unhide HA).1, ?_⟩
          rw [cnt_step x hkx, if_neg hx58]
          exact (unhide HA).2
        have h2 : ((B : Int) == 58) = false := by rw [beq_eq_false_iff_ne]; omega
        clear hbe hkx hx58 HA
        go_wp2_with fail
        exact ⟨⟨k + 1, l, S, by omega, by omega, by go_num, rfl, rfl, trivial, HNEW⟩, by simp [intOf]; omega⟩
    · have hI : ¬ (k : Int) < (T.size : Int) := by omega
      have hkT : k = T.size := by omega
      have HL : Hid (l = lstS x x.length ∧ S = txB (List.replicate (2 * x.count 58) 32)) := by
        have h1 := unhide HA
        have e : k = x.length := by have := unhide HSZ; omega
        rw [e, List.take_length] at h1
        exact h1
      have hlT : l ≤ T.size := by omega
      have hlT2 : (l : Int) ≤ (T.size : Int) := by omega
      have hl0 : (0 : Int) ≤ (l : Int) := by omega
      have k1 : ¬ 9223372036854775807 < S.size + (T.size - l) := by omega
      clear HA
      go_wp2_with fail
      go_ret
      refine ⟨?_, Below.refl _ _⟩
      show Ending.returned (.string (S ++ T.extract l T.size)) = _
      have e2 : T.extract l T.size = txB (x.drop l) := by
        rw [unhide HT]
        apply ByteArray.ext
        apply Array.toList_inj.1
        rw [ext_drop]
        simp [txB]
      rw [e2, (unhide HL).2, txB_app, (unhide HL).1]
      rfl
end Go.Proofs.YtcafhmlpmbkhkaaGreatDoor
