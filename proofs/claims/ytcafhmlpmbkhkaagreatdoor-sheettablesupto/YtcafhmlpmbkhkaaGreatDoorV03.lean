import Derived.Test.YtcafhmlpmbkhkaaGreatDoorV02
import Derived.Test.YtcafhmlpmbkhkaaGreatDoorW24
import Derived.Test.YtcafhmlpmbkhkaaGreatDoorW19
import Derived.Test.YtcafhmlpmbkhkaaGreatDoorW25
import Derived.Test.YtcafhmlpmbkhkaaGreatDoorW41
/- The document's number (98), Check (127), cell (70). -/
namespace Go.Proofs.YtcafhmlpmbkhkaaGreatDoor
open Go Go.Shelf Go.ChangeShapes Go.WideShapes Go.ChangeAt Go.RowKit Go.Maps
set_option linter.unusedVariables false
set_option linter.unusedSimpArgs false
theorem least_txt : Lib.itoa (-9223372036854775808) = [45, 57, 50, 50, 51, 51, 55, 50, 48, 51, 54, 56, 53, 52, 55, 55, 53, 56, 48, 56] := by
  have h : (-9223372036854775808 : Int) = -((9223372036854775808 : Nat) : Int) := rfl
  rw [h, Lib.itoa_neg _ (by decide), ← dmin_one 39 _ (by decide)]
  decide +kernel
set_option maxHeartbeats 1000000 in
/-- a number as a text -/
theorem rnumber_any (n : Int) (h0 : -9223372036854775808 ≤ n) (h1 : n ≤ 9223372036854775807) (w : World) : Calls Tryz.prog 98 #[.int .i64 n] w (TxtOut w (Lib.itoa n)) := by
  by_cases hp : 0 ≤ n
  · obtain ⟨v, rfl⟩ : ∃ v : Nat, n = (v : Int) := ⟨n.toNat, by omega⟩
    have D := digits_any v 1 w (by omega) (by decide)
    rw [dmin_one 39 v (by omega), ← Lib.itoa_nonneg] at D
    have D := hide D
    have hv : (v : Int) ≥ 0 := by omega
    clear h0 h1 hp
    go_enter Tryz.func98, Tryz.ntmps98
    go_wp2_with fail
    refine (unhide D).mono ?_
    rintro e w1 ⟨rfl, hb⟩
    have HB := hide hb
    clear hb D
    go_wp2_with fail
    go_ret
    exact ⟨rfl, unhide HB⟩
  · by_cases hm : n = -9223372036854775808
    · subst hm
      have HE : Hid (Lib.itoa (-9223372036854775808) = [45, 57, 50, 50, 51, 51, 55, 50, 48, 51, 54, 56, 53, 52, 55, 55, 53, 56, 48, 56]) := least_txt
      clear hp h0 h1
      go_enter Tryz.func98, Tryz.ntmps98
      go_wp2_with fail
      go_ret
      exact ⟨by rw [unhide HE]; rfl, Below.refl _ _⟩
    · obtain ⟨v, rfl⟩ : ∃ v : Nat, n = -(v : Int) := ⟨n.natAbs, by omega⟩
      have D := digits_any v 1 w (by omega) (by decide)
      rw [dmin_one 39 v (by omega)] at D
      have HL : Hid ((⟨(Lib.decDigits v).toArray⟩ : ByteArray).size ≤ 100) := by
        show (Lib.decDigits v).toArray.size ≤ 100
        have := fmt_len v (by omega)
        simp
        omega
      have D := hide D
      have hv : ¬ (-(v : Int) ≥ 0) := by omega
      have hq : (-(v : Int) == -9223372036854775808) = false := beq_eq_false_iff_ne.2 hm
      have HE : Hid (Lib.itoa (-(v : Int)) = 45 :: Lib.decDigits v) := Lib.itoa_neg v (by omega)
      have hw1 : -9223372036854775808 ≤ (v : Int) := by omega
      have hw2 : (v : Int) ≤ 9223372036854775807 := by omega
      obtain ⟨T, hT⟩ : ∃ T : ByteArray, T = ⟨(Lib.decDigits v).toArray⟩ := ⟨_, rfl⟩
      rw [← hT] at D HL
      have HT := hide hT
      have hl : ¬ 9223372036854775807 < 1 + T.size := by have := unhide HL; omega
      clear hp h0 h1 hm hT
      go_enter Tryz.func98, Tryz.ntmps98
      go_wp2_with fail
      refine (unhide D).mono ?_
      rintro e w1 ⟨rfl, hb⟩
      have HB := hide hb
      clear hb D
      go_wp2_with fail
      go_ret
      refine ⟨?_, unhide HB⟩
      rw [unhide HE, unhide HT]
      show Ending.returned (.string ((⟨[45].toArray⟩ : ByteArray) ++ ⟨(Lib.decDigits v).toArray⟩)) = _
      rw [bapp]
      rfl
set_option maxHeartbeats 1000000 in
theorem rchk_yes (a : Int) (w : World) (h : -9223372036854775807 ≤ a) : Calls Tryz.prog 127 #[.int .i64 a] w fun e w' => e = .returned (.int .i64 0) ∧ w' = w := by
  have q : (a == -9223372036854775808) = false := beq_eq_false_iff_ne.2 (by omega)
  have qn : (a != -9223372036854775808) = true := by rw [bne_iff_ne]; omega
  go_enter Tryz.func127, Tryz.ntmps127
  go_wp2
  go_ret
  exact ⟨rfl, rfl⟩
set_option maxHeartbeats 1000000 in
theorem rchk_no (w : World) : Calls Tryz.prog 127 #[.int .i64 (-9223372036854775808)] w fun e w' => e = .returned (.int .i64 10) ∧ w' = w := by
  go_enter Tryz.func127, Tryz.ntmps127
  go_wp2
  go_ret
  exact ⟨rfl, rfl⟩
/-- the document's cell -/
noncomputable def ansC (d : Nat) (x : Ce) (t : Int) : Tx × Int := if faultC x t = 0 then (cTx d x, 0) else ([], faultC x t)
set_option maxRecDepth 100000 in
set_option maxHeartbeats 8000000 in
theorem rcell_any (x : Ce) (t : Int) (ht : faultT t = 0) (d : Nat) (hd : d ≤ 6) (hok : CeOk x) (w : World) : Calls Tryz.prog 70 #[cvC x, .int .i64 t, .int .i64 (d : Int)] w (TriOut w (ansC d x t)) := by
  have ht5 : 1 ≤ t ∧ t ≤ 5 := by
    unfold faultT at ht
    by_cases h : 1 ≤ t ∧ t ≤ 5
    · exact h
    · rw [if_neg h] at ht; exact absurd ht (by decide)
  obtain ⟨w0, hw0⟩ : ∃ W, W = w.alloc (obC x) := ⟨_, rfl⟩
  have b1 : Below w.heap.size w w0 := by rw [hw0]; exact bal (Below.refl _ _) _
  obtain ⟨c0, c1, c2⟩ := c_cells (W := w0) (b := w.heap.size) (x := x) (by rw [hw0]; exact heap_new _ _)
  have hw0' : w.alloc (.cells #[.int .i64 x.ty, .int .i64 x.num, .string x.str] 43) = w0 := by rw [hw0]; rfl
  have HB := hide b1
  obtain ⟨ty, num, str⟩ := x
  have hn1 := hok.num
  have hs := hok.str
  dsimp only at hn1 hs
  unfold cvC
  dsimp only at c0 c1 c2 hw0'
  clear b1 hw0 hok ht
  by_cases hty : ty = t
  · subst hty
    have h5 : ty = 1 ∨ ty = 2 ∨ ty = 3 ∨ ty = 4 ∨ ty = 5 := by omega
    rcases h5 with rfl | rfl | rfl | rfl | rfl
    · have HE : Hid (ansC d ⟨1, num, str⟩ 1 = (Lib.itoa num, 0)) := by show _ = _; simp [ansC, faultC, cTx]
      have D := hide (rnumber_any num hn1.1 hn1.2 w0)
      clear hn1 hs ht5
      go_enter Tryz.func70, Tryz.ntmps70
      go_wp2_with fail
      refine (unhide D).mono ?_
      rintro e w1 ⟨rfl, hb⟩
      have HB1 : Hid (Below w.heap.size w w1) := (unhide HB).trans (hb.mono (unhide HB).size)
      clear hb D
      go_wp2_with fail
      go_ret2
      exact ⟨by rw [unhide HE]; rfl, unhide HB1⟩
    · have DP := hide (rplain_any str (by omega) w0)
      obtain ⟨pb, hpb⟩ : ∃ b, b = allL plB str := ⟨_, rfl⟩
      rw [← hpb] at DP
      cases pb with
      | true =>
        have HE : Hid (ansC d ⟨2, num, str⟩ 2 = (str.data.toList, 0)) := by show _ = _; simp [ansC, faultC, cTx, ← hpb]
        clear hn1 hs ht5 hpb
        go_enter Tryz.func70, Tryz.ntmps70
        go_wp2_with (go_at_call 157; refine (unhide DP).mono ?_; rintro e wz ⟨rfl, hwz⟩; rw [hwz]; clear hwz wz)
        go_ret2
        exact ⟨by rw [unhide HE]; rfl, unhide HB⟩
      | false =>
        have HE : Hid (ansC d ⟨2, num, str⟩ 2 = ([], 140)) := by show _ = _; simp [ansC, faultC, ← hpb]
        clear hn1 hs ht5 hpb
        go_enter Tryz.func70, Tryz.ntmps70
        go_wp2_with (go_at_call 157; refine (unhide DP).mono ?_; rintro e wz ⟨rfl, hwz⟩; rw [hwz]; clear hwz wz)
        go_ret2
        exact ⟨by rw [unhide HE]; rfl, unhide HB⟩
    · by_cases h1 : 1 ≤ num
      · by_cases h2 : num ≤ 3652059
        · have hD : isD num := ⟨h1, h2⟩
          have HE : Hid (ansC d ⟨3, num, str⟩ 3 = (dtx num, 0)) := by show _ = _; simp [ansC, faultC, cTx, (isDb_iff num).2 hD]
          have D := hide (rdate_any num hD w0)
          clear hn1 hs ht5 hD
          go_enter Tryz.func70, Tryz.ntmps70
          go_wp2_with fail
          refine (unhide D).mono ?_
          rintro e w1 ⟨rfl, hb⟩
          have HB1 : Hid (Below w.heap.size w w1) := (unhide HB).trans (hb.mono (unhide HB).size)
          clear hb D
          go_wp2_with fail
          go_ret2
          exact ⟨by rw [unhide HE]; rfl, unhide HB1⟩
        · have HE : Hid (ansC d ⟨3, num, str⟩ 3 = ([], 20)) := by show _ = _; simp [ansC, faultC, isDb, h2]
          clear hn1 hs ht5
          go_enter Tryz.func70, Tryz.ntmps70
          go_wp2_with fail
          go_ret2
          exact ⟨by rw [unhide HE]; rfl, unhide HB⟩
      · have HE : Hid (ansC d ⟨3, num, str⟩ 3 = ([], 20)) := by show _ = _; simp [ansC, faultC, isDb, h1]
        clear hn1 hs ht5
        go_enter Tryz.func70, Tryz.ntmps70
        go_wp2_with fail
        go_ret2
        exact ⟨by rw [unhide HE]; rfl, unhide HB⟩
    · by_cases h0 : num = 0
      · subst h0
        have HE : Hid (ansC d ⟨4, 0, str⟩ 4 = (booT false, 0)) := by show _ = _; simp [ansC, faultC, cTx]
        clear hn1 hs ht5
        go_enter Tryz.func70, Tryz.ntmps70
        go_wp2_with fail
        go_ret2
        exact ⟨by rw [unhide HE]; rfl, unhide HB⟩
      · by_cases h1 : num = 1
        · subst h1
          have HE : Hid (ansC d ⟨4, 1, str⟩ 4 = (booT true, 0)) := by show _ = _; simp [ansC, faultC, cTx]
          clear hn1 hs ht5
          go_enter Tryz.func70, Tryz.ntmps70
          go_wp2_with fail
          go_ret2
          exact ⟨by rw [unhide HE]; rfl, unhide HB⟩
        · have HE : Hid (ansC d ⟨4, num, str⟩ 4 = ([], 140)) := by show _ = _; simp [ansC, faultC, h0, h1]
          have q0 : (num == 0) = false := beq_eq_false_iff_ne.2 h0
          have q1 : (num == 1) = false := beq_eq_false_iff_ne.2 h1
          clear hn1 hs ht5
          go_enter Tryz.func70, Tryz.ntmps70
          go_wp2_with fail
          go_ret2
          exact ⟨by rw [unhide HE]; rfl, unhide HB⟩
    · by_cases hm : num = -9223372036854775808
      · subst hm
        have HE : Hid (ansC d ⟨5, -9223372036854775808, str⟩ 5 = ([], 10)) := by show _ = _; simp [ansC, faultC]
        clear hn1 hs ht5
        go_enter Tryz.func70, Tryz.ntmps70
        go_wp2_with (go_at_call 127; refine (rchk_no _).mono ?_; rintro e wz ⟨rfl, hwz⟩; rw [hwz]; clear hwz wz)
        go_ret2
        exact ⟨by rw [unhide HE]; rfl, unhide HB⟩
      · have HE : Hid (ansC d ⟨5, num, str⟩ 5 = (txt num d, 0)) := by show _ = _; simp [ansC, faultC, cTx, hm]
        have DC := hide (rchk_yes num w0 (by omega))
        have D := hide (rmoney_any num d (by unfold isA; omega) hd w0)
        clear hn1 hs ht5 hm
        go_enter Tryz.func70, Tryz.ntmps70
        go_wp2_with (go_at_call 127; refine (unhide DC).mono ?_; rintro e wz ⟨rfl, hwz⟩; rw [hwz]; clear hwz wz)
        refine (unhide D).mono ?_
        rintro e w1 ⟨rfl, hb⟩
        have HB1 : Hid (Below w.heap.size w w1) := (unhide HB).trans (hb.mono (unhide HB).size)
        clear hb D
        go_wp2_with fail
        go_ret2
        exact ⟨by rw [unhide HE]; rfl, unhide HB1⟩
  · have HE : Hid (ansC d ⟨ty, num, str⟩ t = ([], 140)) := by show _ = _; simp [ansC, faultC, hty]
    have q : (ty == t) = false := beq_eq_false_iff_ne.2 hty
    have qn : (ty != t) = true := by rw [bne_iff_ne]; exact hty
    clear hn1 hs ht5 hty
    go_enter Tryz.func70, Tryz.ntmps70
    go_wp2_with fail
    go_ret2
    exact ⟨by rw [unhide HE]; rfl, unhide HB⟩
end Go.Proofs.YtcafhmlpmbkhkaaGreatDoor
/- The document's Grid (56), its second list any. -/
namespace Go.Proofs.YtcafhmlpmbkhkaaGreatDoor
open Go Go.Shelf Go.ChangeShapes Go.WideShapes Go.ChangeAt Go.RowKit Go.Maps
set_option linter.unusedVariables false
set_option linter.unusedSimpArgs false
set_option maxRecDepth 100000 in
set_option maxHeartbeats 8000000 in
theorem rgrid_opt {w : World} {pr : Option Addr} {n cr : Nat} {R : List (List Tx)} (hn : n = R.length) (h : RdAt w pr R) {pb : Option Addr} {nb cb : Nat} {B : List Bool} (hB : B.length = nb) (hb : ∀ c q, B[c]? = some q → ∃ gr, pb = some ⟨gr, 0, none⟩ ∧ w.cell? ⟨gr, c, none⟩ = some (.bool q)) {N : Nat} (hN : ∀ r ∈ R, r.length ≤ N) (hN1 : N ≤ 1099511627776) (hnb : nb ≤ 1099511627776)
    {M : Nat} (hM : ∀ r ∈ R, ∀ x ∈ r, x.length ≤ M) (hM1 : M ≤ 1099511627776) (htot : (R.length + 1) * (N * (M + 2) + 1) ≤ 140737488355328) (hn1 : n ≤ 1099511627776) :
    Calls Tryz.prog 56 #[.slice pr n cr, .slice pb nb cb] w (GridOut w (gridT (rgB B) R)) := by
  have hwm : ∀ c, wid R c ≤ M := fun c => wid_le fun r hr => by
    rw [List.getD_eq_getElem?_getD]
    rcases Nat.lt_or_ge c r.length with hc | hc
    · rw [List.getElem?_eq_getElem hc]
      exact hM r hr _ (List.getElem_mem hc)
    · rw [List.getElem?_eq_none hc]
      exact Nat.zero_le _
  have H := hide h; have HN := hide hn; have HB := hide hb; have HBN := hide hB; have HNN := hide hN; have HM := hide hM; have HWM := hide hwm; have HTOT := hide htot
  clear h hn hb hB hN hM hwm htot
  go_enter Tryz.func56, Tryz.ntmps56
  go_wp2_with fail
  go_loop [5, 6] (fun av iv => ∃ (k : Nat) (K : Int) (A : ByteArray), k ≤ n ∧ iv = .int .i64 K ∧ K = (k : Int) ∧ av = .string A ∧ Hid (A = txB (linesT (rgB B) (wid R) (R.take k)))) (fun _ iv => ((n : Int) - intOf iv).toNat)
  case atStart => exact ⟨0, 0, ⟨#[]⟩, by omega, rfl, rfl, rfl, rfl⟩
  case round =>
    obtain ⟨k, K, A, hk, rfl, hK, rfl, HA⟩ := hrel
    by_cases hlt : k < n
    · have hI : K < (n : Int) := by omega
      have hkR : k < R.length := by have := unhide HN; omega
      obtain ⟨r, hr⟩ : ∃ r, R[k]? = some r := ⟨R[k], List.getElem?_eq_getElem hkR⟩
      obtain ⟨gb, go, sp, sc, epr, q1, hx⟩ := unhide H k r hr
      subst epr
      obtain ⟨m, hm⟩ : ∃ m, m = r.length := ⟨_, rfl⟩
      rw [← hm] at q1
      have hK0 : 0 ≤ K := by omega
      have hKt : K.toNat = k := by omega
      have HK := hide hK
      have hrm := List.mem_of_getElem? hr
      have hmN : m ≤ N := by rw [hm]; exact unhide HNN r hrm
      have hjl : ∀ j, (joinT (rgB B) (wid R) r j).length ≤ j * (M + 2) := fun j => joinT_len _ _ _ M (fun c => wid_ge hrm c) (unhide HWM) j
      have hk2 : k * (N * (M + 2) + 1) + (N * (M + 2) + 1) ≤ 140737488355328 := by
        have h1 : (k + 1) * (N * (M + 2) + 1) ≤ (R.length + 1) * (N * (M + 2) + 1) := Nat.mul_le_mul_right _ (by omega)
        rw [Nat.add_mul, Nat.one_mul] at h1
        exact Nat.le_trans h1 (unhide HTOT)
      have hmM : m * (M + 2) ≤ N * (M + 2) := Nat.mul_le_mul_right _ hmN
      have hA : A.size ≤ k * (N * (M + 2) + 1) := by
        rw [unhide HA, txB_len]
        have := lines_len (right := rgB B) (R := R) (unhide HWM) (unhide HNN) (R.take k) (fun r hr => List.mem_of_mem_take hr)
        rwa [List.length_take, Nat.min_eq_left (by omega)] at this
      have HJL : Hid (∀ j, j ≤ m → (joinT (rgB B) (wid R) r j).length ≤ N * (M + 2)) := fun j hj => Nat.le_trans (hjl j) (Nat.le_trans (Nat.mul_le_mul_right _ hj) hmM)
      obtain ⟨Z, hZ⟩ : ∃ Z, Z = N * (M + 2) := ⟨_, rfl⟩
      have hZ1 : A.size + Z + 1 ≤ 140737488355328 := by omega
      rw [← hZ] at HJL
      have HT := hide (linesT_take (rgB B) (wid R) R k r hr)
      have HX := hide hx; have HMR := hide hm; have HRM := hide hrm
      have hm1 : m ≤ 1099511627776 := by omega
      clear hjl hk2 hmM hA hZ hr hx hm hrm hmN hkR hlt hK
      go_wp2_with fail
      go_loop [7, 8] (fun sv iv => ∃ (j : Nat) (J : Int) (s : ByteArray), j ≤ m ∧ iv = .int .i64 J ∧ J = (j : Int) ∧ sv = .string s ∧ Hid (s = txB (joinT (rgB B) (wid R) r j))) (fun _ iv => ((m : Int) - intOf iv).toNat)
      case atStart => exact ⟨0, 0, ⟨#[]⟩, by omega, rfl, rfl, rfl, rfl⟩
      case round =>
        obtain ⟨j, J, s, hj, rfl, hJ, rfl, HS⟩ := hrel
        by_cases hjl : j < m
        · have hJl : J < (m : Int) := by omega
          have hJ0 : 0 ≤ J := by omega
          have hJt : J.toNat = j := by omega
          obtain ⟨x, hxr⟩ : ∃ x, r[j]? = some x := ⟨r[j]'(by have := unhide HMR; omega), List.getElem?_eq_getElem _⟩
          obtain ⟨b, o, esp, q2⟩ := unhide HX j x hxr
          subst esp
          have hxM : x.length ≤ M := unhide HM r (unhide HRM) x (List.mem_of_getElem? hxr)
          have hxW : x.length ≤ wid R j := by
            have := wid_ge (unhide HRM) j
            rwa [List.getD_eq_getElem?_getD, hxr] at this
          have hwM := unhide HWM j
          have hcl : (joinT (rgB B) (wid R) r (j + 1)).length ≤ Z := unhide HJL (j + 1) (by omega)
          have hgd : r.getD j [] = x := by rw [List.getD_eq_getElem?_getD, hxr]; rfl
          rw [joinT_succ, hgd, List.length_append, cellT_len _ _ _ _ hxW] at hcl
          obtain ⟨X, hX⟩ : ∃ X, X = txB x := ⟨_, rfl⟩
          obtain ⟨q, hq⟩ : ∃ q, q = wid R j - x.length := ⟨_, rfl⟩
          obtain ⟨F, hF⟩ : ∃ F, F = txB (bl q) := ⟨_, rfl⟩
          obtain ⟨WJ, hWJ⟩ : ∃ z : Int, z = (wid R j : Int) := ⟨_, rfl⟩
          have hXs : X.size = x.length := by rw [hX, txB_len]
          have hFs : F.size = q := by rw [hF, txB_len, bl_len]
          have hss : s.size = (joinT (rgB B) (wid R) r j).length := by rw [unhide HS, txB_len]
          have hsz : s.size + (if j = 0 then 0 else 2) + (F.size + X.size) ≤ 140737488355328 := by split at hcl <;> split <;> omega
          have hX1 : X.size ≤ 1099511627776 := by omega
          have hF1 : F.size ≤ 1099511627776 := by omega
          have hs1 : s.size ≤ 140737488355328 := by omega
          have hzq : WJ - (X.size : Int) = (q : Int) := by omega
          have hzq2 : q ≤ 140737488355328 := by omega
          have D1 : Hid (Calls Tryz.prog 150 #[.slice (some ⟨gb, go, none⟩) n cr, .int .i64 J] w fun e w' => e = .returned (.int .i64 WJ) ∧ w' = w) := by
            rw [hJ, hWJ]
            exact wide_any (unhide HN) (unhide H) j (by omega) (unhide HM) hM1 (by omega)
          have D2 : Hid (Calls Tryz.prog 149 #[.int .i64 (WJ - (X.size : Int))] w fun e w' => e = .returned (.string F) ∧ w' = w) := by
            rw [hF]
            exact blanks_any _ q hzq hzq2 w
          have hJT : joinT (rgB B) (wid R) r (j + 1) = joinT (rgB B) (wid R) r j ++ cellT (rgB B) (wid R) j x := by rw [joinT_succ, hgd]
          have HJT := hide hJT; have HXE := hide hX; have HFE := hide hF; have HQ := hide hq; have HJ := hide hJ
          have hWJ0 : 0 ≤ WJ := by omega
          have hWJ1 : WJ ≤ 1099511627776 := by omega
          have hBj : (j < nb ∧ ∃ q gr, B[j]? = some q ∧ pb = some ⟨gr, 0, none⟩ ∧ w.cell? ⟨gr, j, none⟩ = some (.bool q) ∧ rgB B j = q) ∨ (nb ≤ j ∧ rgB B j = false) := by
            rcases Nat.lt_or_ge j nb with h1 | h1
            · have h2 : j < B.length := by have := unhide HBN; omega
              obtain ⟨gr, e9, c9⟩ := unhide HB j _ (List.getElem?_eq_getElem h2)
              exact .inl ⟨h1, B[j], gr, List.getElem?_eq_getElem h2, e9, c9, by simp [rgB, List.getD, List.getElem?_eq_getElem h2]⟩
            · exact .inr ⟨h1, by rw [rgB, List.getD_eq_getElem?_getD, List.getElem?_eq_none (by have := unhide HBN; omega)]; rfl⟩
          have hge : (X.size : Int) ≤ WJ := by omega
          rw [← hX] at q2
          clear hzq hzq2 hxr hxM hxW hwM hcl hgd hX hq hF hWJ hXs hFs hss hJT hJ hjl
          by_cases hj0 : j = 0
          · have HJ0 := hide hj0
            have hJp : ¬ J > 0 := by have := unhide HJ; omega
            have hsz3 : s.size + 0 + (F.size + X.size) ≤ 140737488355328 := by rwa [if_pos hj0] at hsz
            clear hsz hj0
            rcases hBj with ⟨h1, q9, gr, hq9, rfl, hc9, hrg⟩ | ⟨h1, hrg⟩
            · have hJb : J < (nb : Int) := by have := unhide HJ; omega
              cases q9 with
              | true =>
                have HNEW : Hid (s ++ F ++ X = txB (joinT (rgB B) (wid R) r (j + 1))) := by
                  show _ = _
                  rw [unhide HJT, unhide HS, unhide HXE, unhide HFE]
                  rw [txB_app, txB_app]
                  unfold cellT
                  rw [if_pos (unhide HJ0), hrg, ← unhide HQ]
                  simp [List.append_assoc]
                have hsz2 : s.size + (F.size + X.size) ≤ 140737488355328 := by omega
                clear hrg
                go_wp2_with (first | (go_at_call 150; refine (unhide D1).mono ?_; rintro e w1 ⟨rfl, hw1⟩; rw [hw1]; clear hw1 w1) | (go_at_call 149; refine (unhide D2).mono ?_; rintro e w1 ⟨rfl, hw1⟩; rw [hw1]; clear hw1 w1))
                exact ⟨⟨j + 1, J + 1, _, by omega, by go_num, by have := unhide HJ; omega, rfl, unhide HNEW⟩, by simp [intOf]; omega⟩
              | false =>
                have HNEW : Hid (s ++ X ++ F = txB (joinT (rgB B) (wid R) r (j + 1))) := by
                  show _ = _
                  rw [unhide HJT, unhide HS, unhide HXE, unhide HFE]
                  rw [txB_app, txB_app]
                  unfold cellT
                  rw [if_pos (unhide HJ0), hrg, ← unhide HQ]
                  simp [List.append_assoc]
                have hsz2 : s.size + (F.size + X.size) ≤ 140737488355328 := by omega
                clear hrg
                go_wp2_with (first | (go_at_call 150; refine (unhide D1).mono ?_; rintro e w1 ⟨rfl, hw1⟩; rw [hw1]; clear hw1 w1) | (go_at_call 149; refine (unhide D2).mono ?_; rintro e w1 ⟨rfl, hw1⟩; rw [hw1]; clear hw1 w1))
                exact ⟨⟨j + 1, J + 1, _, by omega, by go_num, by have := unhide HJ; omega, rfl, unhide HNEW⟩, by simp [intOf]; omega⟩
            · have hJb : ¬ J < (nb : Int) := by have := unhide HJ; omega
              have HNEW : Hid (s ++ X ++ F = txB (joinT (rgB B) (wid R) r (j + 1))) := by
                show _ = _
                rw [unhide HJT, unhide HS, unhide HXE, unhide HFE]
                rw [txB_app, txB_app]
                unfold cellT
                rw [if_pos (unhide HJ0), hrg, ← unhide HQ]
                simp [List.append_assoc]
              have hsz2 : s.size + (F.size + X.size) ≤ 140737488355328 := by omega
              clear hrg
              go_wp2_with (first | (go_at_call 150; refine (unhide D1).mono ?_; rintro e w1 ⟨rfl, hw1⟩; rw [hw1]; clear hw1 w1) | (go_at_call 149; refine (unhide D2).mono ?_; rintro e w1 ⟨rfl, hw1⟩; rw [hw1]; clear hw1 w1))
              exact ⟨⟨j + 1, J + 1, _, by omega, by go_num, by have := unhide HJ; omega, rfl, unhide HNEW⟩, by simp [intOf]; omega⟩
          · have HJ0 := hide hj0
            have hJp : J > 0 := by have := unhide HJ; omega
            have hsz3 : s.size + 2 + (F.size + X.size) ≤ 140737488355328 := by rwa [if_neg hj0] at hsz
            clear hsz hj0
            rcases hBj with ⟨h1, q9, gr, hq9, rfl, hc9, hrg⟩ | ⟨h1, hrg⟩
            · have hJb : J < (nb : Int) := by have := unhide HJ; omega
              cases q9 with
              | true =>
                have HNEW : Hid (s ++ ⟨#[32, 32]⟩ ++ F ++ X = txB (joinT (rgB B) (wid R) r (j + 1))) := by
                  show _ = _
                  rw [unhide HJT, unhide HS, unhide HXE, unhide HFE, show (⟨#[32, 32]⟩ : ByteArray) = txB (bl 2) from rfl]
                  rw [txB_app, txB_app, txB_app]
                  unfold cellT
                  rw [if_neg (unhide HJ0), hrg, ← unhide HQ]
                  simp [List.append_assoc]
                have hsz2 : s.size + 2 + (F.size + X.size) ≤ 140737488355328 := by omega
                clear hrg
                go_wp2_with (first | (go_at_call 150; refine (unhide D1).mono ?_; rintro e w1 ⟨rfl, hw1⟩; rw [hw1]; clear hw1 w1) | (go_at_call 149; refine (unhide D2).mono ?_; rintro e w1 ⟨rfl, hw1⟩; rw [hw1]; clear hw1 w1))
                exact ⟨⟨j + 1, J + 1, _, by omega, by go_num, by have := unhide HJ; omega, rfl, unhide HNEW⟩, by simp [intOf]; omega⟩
              | false =>
                have HNEW : Hid (s ++ ⟨#[32, 32]⟩ ++ X ++ F = txB (joinT (rgB B) (wid R) r (j + 1))) := by
                  show _ = _
                  rw [unhide HJT, unhide HS, unhide HXE, unhide HFE, show (⟨#[32, 32]⟩ : ByteArray) = txB (bl 2) from rfl]
                  rw [txB_app, txB_app, txB_app]
                  unfold cellT
                  rw [if_neg (unhide HJ0), hrg, ← unhide HQ]
                  simp [List.append_assoc]
                have hsz2 : s.size + 2 + (F.size + X.size) ≤ 140737488355328 := by omega
                clear hrg
                go_wp2_with (first | (go_at_call 150; refine (unhide D1).mono ?_; rintro e w1 ⟨rfl, hw1⟩; rw [hw1]; clear hw1 w1) | (go_at_call 149; refine (unhide D2).mono ?_; rintro e w1 ⟨rfl, hw1⟩; rw [hw1]; clear hw1 w1))
                exact ⟨⟨j + 1, J + 1, _, by omega, by go_num, by have := unhide HJ; omega, rfl, unhide HNEW⟩, by simp [intOf]; omega⟩
            · have hJb : ¬ J < (nb : Int) := by have := unhide HJ; omega
              have HNEW : Hid (s ++ ⟨#[32, 32]⟩ ++ X ++ F = txB (joinT (rgB B) (wid R) r (j + 1))) := by
                show _ = _
                rw [unhide HJT, unhide HS, unhide HXE, unhide HFE, show (⟨#[32, 32]⟩ : ByteArray) = txB (bl 2) from rfl]
                rw [txB_app, txB_app, txB_app]
                unfold cellT
                rw [if_neg (unhide HJ0), hrg, ← unhide HQ]
                simp [List.append_assoc]
              have hsz2 : s.size + 2 + (F.size + X.size) ≤ 140737488355328 := by omega
              clear hrg
              go_wp2_with (first | (go_at_call 150; refine (unhide D1).mono ?_; rintro e w1 ⟨rfl, hw1⟩; rw [hw1]; clear hw1 w1) | (go_at_call 149; refine (unhide D2).mono ?_; rintro e w1 ⟨rfl, hw1⟩; rw [hw1]; clear hw1 w1))
              exact ⟨⟨j + 1, J + 1, _, by omega, by go_num, by have := unhide HJ; omega, rfl, unhide HNEW⟩, by simp [intOf]; omega⟩
        · have hJl : ¬ J < (m : Int) := by omega
          obtain ⟨Jn, hJn⟩ : ∃ T, T = joinT (rgB B) (wid R) r m := ⟨_, rfl⟩
          have hjm : j = m := by omega
          have hs : s = txB Jn := by rw [unhide HS, hJn, hjm]
          have hsl : Jn.length ≤ Z := by rw [hJn]; exact unhide HJL m (Nat.le_refl _)
          obtain ⟨jn, hjn⟩ : ∃ j, j = Jn.length := ⟨_, rfl⟩
          have hz : s.size = jn := by rw [hs, txB_len, hjn]
          have hzI : (s.size : Int) = (jn : Int) := by rw [hz]
          have HSE := hide hs; have HJN := hide hJn; have HJM := hide hjn
          have hjn1 : jn ≤ Z := by omega
          have hsz1 : s.size ≤ 140737488355328 := by omega
          clear hs hJn hjn hsl hjm hJ hj hz
          go_wp2_with fail
          go_loop [11] (fun nv => ∃ (t : Nat) (T : Int), t ≤ jn ∧ nv = .int .i64 T ∧ T = (t : Int) ∧ Hid (∀ k, t ≤ k → k < jn → Jn[k]? = some 32)) (fun nv => (intOf nv).toNat)
          case atStart => exact ⟨jn, (jn : Int), Nat.le_refl _, by rw [← hzI], rfl, fun k h1 h2 => absurd h2 (by omega)⟩
          case round =>
            obtain ⟨t, T, ht, rfl, hT, HB1⟩ := hrel
            by_cases ht0 : t = 0
            · have hTp : ¬ T > 0 := by omega
              have hT0 : T = 0 := by omega
              have hst : strip Jn = Jn.take t := strip_end Jn t (by have := unhide HJM; omega) (Or.inl ht0) (fun k h1 h2 => unhide HB1 k h1 (by have := unhide HJM; omega))
              have hsl := slice_txt Jn t (by have := unhide HJM; omega) w
              rw [← unhide HSE, ← hT] at hsl
              obtain ⟨C, hC⟩ : ∃ C, C = txB (Jn.take t) := ⟨_, rfl⟩
              rw [← hC] at hsl
              have hCs : C.size ≤ Z := by rw [hC, txB_len, List.length_take]; omega
              have HE : Hid (A ++ C ++ ⟨#[10]⟩ = txB (linesT (rgB B) (wid R) (R.take (k + 1)))) := by
                show _ = _
                rw [unhide HT, unhide HA, hC, show (⟨#[10]⟩ : ByteArray) = txB [10] from rfl, txB_app, txB_app, ← hst]
                unfold lineT
                rw [← unhide HMR, ← unhide HJN]
              clear hst hC hT
              subst hT0
              clear ht0
              go_wp2_with fail
              exact ⟨⟨k + 1, K + 1, _, by have := unhide HK; omega, by go_num, by have := unhide HK; omega, rfl, unhide HE⟩, by have := unhide HK; simp [intOf]; omega⟩
            · have hTp : T > 0 := by omega
              obtain ⟨bb, hbb⟩ : ∃ b, Jn[t - 1]? = some b := ⟨Jn[t - 1]'(by have := unhide HJM; omega), List.getElem?_eq_getElem _⟩
              have hix := index_txt Jn (t - 1) bb hbb w
              rw [← unhide HSE, show ((t - 1 : Nat) : Int) = T - 1 by omega] at hix
              have hT1 : 1 ≤ T := by omega
              have hT2 : T ≤ 140737488355328 := by omega
              obtain ⟨bz, hbz⟩ : ∃ z : Int, z = (bb.toNat : Int) := ⟨_, rfl⟩
              rw [← hbz] at hix
              have hbz0 : 0 ≤ bz := by omega
              have hbz1 : bz ≤ 255 := by have := bb.toNat_lt; omega
              by_cases h32 : bz = 32
              · have HN1 : Hid (∀ k, t - 1 ≤ k → k < jn → Jn[k]? = some 32) := fun k h1 h2 => by
                  by_cases hkt : t ≤ k
                  · exact unhide HB1 k hkt h2
                  · have : k = t - 1 := by omega
                    rw [this, hbb]
                    congr 1
                    apply UInt8.toNat.inj
                    show bb.toNat = 32
                    omega
                subst h32
                have HT2 := hide hT
                clear hbb hbz hT
                go_wp2_with fail
                exact ⟨⟨t - 1, T - 1, by omega, by go_num, by have := unhide HT2; omega, unhide HN1⟩, by simp [intOf]; omega⟩
              · have hbe : (bz == 32) = false := beq_eq_false_iff_ne.2 h32
                have h0 : Jn[t - 1]? ≠ some 32 := by
                  rw [hbb]
                  intro e
                  have := Option.some.inj e
                  rw [this] at hbz
                  exact h32 hbz
                have hst : strip Jn = Jn.take t := strip_end Jn t (by have := unhide HJM; omega) (Or.inr h0) (fun k h1 h2 => unhide HB1 k h1 (by have := unhide HJM; omega))
                have hsl := slice_txt Jn t (by have := unhide HJM; omega) w
                rw [← unhide HSE, ← hT] at hsl
                obtain ⟨C, hC⟩ : ∃ C, C = txB (Jn.take t) := ⟨_, rfl⟩
                rw [← hC] at hsl
                have hCs : C.size ≤ Z := by rw [hC, txB_len, List.length_take]; omega
                have HE : Hid (A ++ C ++ ⟨#[10]⟩ = txB (linesT (rgB B) (wid R) (R.take (k + 1)))) := by
                  show _ = _
                  rw [unhide HT, unhide HA, hC, show (⟨#[10]⟩ : ByteArray) = txB [10] from rfl, txB_app, txB_app, ← hst]
                  unfold lineT
                  rw [← unhide HMR, ← unhide HJN]
                clear hst hC hT
                clear hbb hbz h0 ht0
                go_wp2_with fail
                exact ⟨⟨k + 1, K + 1, _, by have := unhide HK; omega, by go_num, by have := unhide HK; omega, rfl, unhide HE⟩, by have := unhide HK; simp [intOf]; omega⟩
    · have hI : ¬ K < (n : Int) := by omega
      have HE : Hid (A = txB (gridT (rgB B) R)) := by
        have h1 := unhide HA
        rw [List.take_of_length_le (by have := unhide HN; omega)] at h1
        exact h1
      clear hK
      go_wp2_with fail
      go_ret
      exact ⟨by rw [unhide HE]; rfl, rfl⟩
end Go.Proofs.YtcafhmlpmbkhkaaGreatDoor
/- The document's Table: its lists as they grow. -/
namespace Go.Proofs.YtcafhmlpmbkhkaaGreatDoor
open Go Go.Shelf Go.ChangeShapes Go.WideShapes Go.ChangeAt Go.RowKit Go.Maps
set_option linter.unusedVariables false
set_option linter.unusedSimpArgs false
def kZ : Kd Bool := ⟨fun b => [.bool b], 1, 99, 4, 1⟩
theorem kZ_ok : KdOK kZ := kd_ok (fun _ => rfl) (by decide) (fun x u hu => by simp [kZ] at hu; subst hu; rfl) Tryz.underlying99 (z := .bool false) (by kernel_rfl) rfl (by decide)
theorem kZ_flat (L : List Bool) : kZ.flat L = L.map Value.bool := by
  induction L with
  | nil => rfl
  | cons a L ih => rw [List.map_cons, ← ih]; rfl
theorem bool_app {B : Nat} {W : World} {v : Value} {n : Nat} {l : List Bool} (h : W.ownsRow B 4 1 v n (kZ.flat l)) (hB : B ≤ W.heap.size) (z : Bool) (hn : n + 1 ≤ 1099511627776) :
    ∃ p' c' w', (Builtin.append_ #[99, 99] 99 #[v, .slice (some ⟨W.heap.size, 0, none⟩) 1 1]).run Tryz.prog (W.alloc (.cells #[.bool z] 4)) = .ok (.slice p' (n + 1) c') w' ∧ w'.ownsRow B 4 1 (.slice p' (n + 1) c') (n + 1) (kZ.flat (l ++ [z])) ∧ Below B W w' := by
  obtain ⟨O, hO⟩ : ∃ O, O = Obj.cells #[.bool z] 4 := ⟨_, rfl⟩
  have b0 : Below W.heap.size W (W.alloc O) := bal (Below.refl _ _) _
  obtain ⟨p', c', w1, r1, o1, b1, k1, q1⟩ := run_app kZ_ok (L := l) (M := [z]) 99 (h.alloc O) (Nat.le_trans hB b0.size) (some ⟨W.heap.size, 0, none⟩) 1 (fun h => by cases h) (by rw [hO]; exact one_lies W z 4 _ rfl) hn
  simp only [List.length_singleton] at r1 o1 q1
  rw [hO] at r1
  exact ⟨p', c', w1, r1, o1, (b0.mono hB).trans b1⟩
theorem text_app {B : Nat} {W : World} {v : Value} {n : Nat} {l : List Tx} (h : W.ownsRow B 9 1 v n (kT.flat l)) (hB : B ≤ W.heap.size) (z : Tx) (hn : n + 1 ≤ 1099511627776) :
    ∃ p' c' w', (Builtin.append_ #[93, 93] 93 #[v, .slice (some ⟨W.heap.size, 0, none⟩) 1 1]).run Tryz.prog (W.alloc (.cells #[.string (txB z)] 9)) = .ok (.slice p' (n + 1) c') w' ∧ w'.ownsRow B 9 1 (.slice p' (n + 1) c') (n + 1) (kT.flat (l ++ [z])) ∧ Below B W w' := by
  obtain ⟨O, hO⟩ : ∃ O, O = Obj.cells #[.string (txB z)] 9 := ⟨_, rfl⟩
  have b0 : Below W.heap.size W (W.alloc O) := bal (Below.refl _ _) _
  obtain ⟨p', c', w1, r1, o1, b1, k1, q1⟩ := run_app kT_ok (L := l) (M := [z]) 93 (h.alloc O) (Nat.le_trans hB b0.size) (some ⟨W.heap.size, 0, none⟩) 1 (fun h => by cases h) (by rw [hO]; exact one_lies W z 9 _ rfl) hn
  simp only [List.length_singleton] at r1 o1 q1
  rw [hO] at r1
  exact ⟨p', c', w1, r1, o1, (b0.mono hB).trans b1⟩
/-- a column's side, as the document keeps it -/
def sdB (t : Int) : Bool := decide (t = 1) || decide (t = 5)
theorem sdB_rgt (T : List Int) : rgB (T.map sdB) = rgt (sdL T) := by
  funext c
  unfold rgB rgt sdL
  rw [List.getD_eq_getElem?_getD, List.getD_eq_getElem?_getD, List.getElem?_map, List.getElem?_map]
  cases h : T[c]? with
  | none => rfl
  | some t =>
    simp only [Option.map_some, Option.getD_some]
    unfold sdB sdT
    by_cases h1 : t = 1
    · simp [h1]
    · by_cases h5 : t = 5
      · simp [h5]
      · simp [h1, h5]
/-- a row that was made of its texts -/
theorem row_is {B : Nat} {W : World} {p : Option Addr} {n c : Nat} {r : List Tx} (hn : r.length = n) (h : W.ownsRow B 9 1 (.slice p n c) n (kT.flat r)) : RowIs W ⟨p, n, c⟩ r := by
  refine ⟨hn.symm, fun e => ?_, own_lies kT_ok hn h, fun a ha => ?_⟩
  · obtain ⟨p', c', e1, h1, _⟩ := row_slice h
    injection e1 with e2 _ e3
    subst e2 e3
    exact (h1 e).2
  · cases ha
    rcases h.2 with ⟨h1, _⟩ | ⟨g', cap, cur, e1, _, hh, _⟩
    · cases h1
    · injection e1 with e1
      cases e1
      exact ⟨cur, (0, 0), hh⟩
theorem Rl.nil (B : Nat) (W : World) : Rl B W (.slice none 0 0) [] := ⟨[], by exact World.ownsRow_nil _ _ _ _, rfl, fun k s r hs => by simp at hs⟩
theorem fstG_cons {α : Type} {f : α → Int} {X : List α} {k : Nat} {x : α} (hx : X[k]? = some x) : fstG f (X.drop k) = if f x = 0 then fstG f (X.drop (k + 1)) else f x := by
  have hk := (List.getElem?_eq_some_iff.1 hx).1
  rw [List.drop_eq_getElem_cons hk, fstG, (List.getElem?_eq_some_iff.1 hx).2]
theorem fltZ_cons {X : List Ce} {T : List Int} {k : Nat} {x : Ce} {t : Int} (hx : X[k]? = some x) (ht : T[k]? = some t) : fltZ (X.drop k) (T.drop k) = if faultC x t = 0 then fltZ (X.drop (k + 1)) (T.drop (k + 1)) else faultC x t := by
  have hk := (List.getElem?_eq_some_iff.1 hx).1
  have hk2 := (List.getElem?_eq_some_iff.1 ht).1
  rw [List.drop_eq_getElem_cons hk, List.drop_eq_getElem_cons hk2, fltZ, (List.getElem?_eq_some_iff.1 hx).2, (List.getElem?_eq_some_iff.1 ht).2]
theorem err1 {d : Nat} (hd : d ≤ 6) {T : List Int} {X : List Rw} {e : Int} (h : fstG faultT T = e) (he : e ≠ 0) : ansB (d : Int) T X = ([], e) := by
  have q : errB (d : Int) T X = e := by
    unfold errB
    rw [if_neg (by omega), h, if_pos he]
  unfold ansB
  rw [q, if_neg he]
theorem err2 {d : Nat} (hd : d ≤ 6) {T : List Int} {X : List Rw} {e : Int} (h0 : fstG faultT T = 0) (h : fstG (fun r => faultR T r.x) X = e) (he : e ≠ 0) : ansB (d : Int) T X = ([], e) := by
  have q : errB (d : Int) T X = e := by
    unfold errB
    rw [if_neg (by omega), h0, if_neg (by simp), h]
  unfold ansB
  rw [q, if_neg he]
theorem take_succ_map {α β : Type} {f : α → β} {X : List α} {k : Nat} {x : α} (hx : X[k]? = some x) : (X.map f).take (k + 1) = (X.map f).take k ++ [f x] := by
  refine take_up ?_
  rw [List.getElem?_map, hx]
  rfl
end Go.Proofs.YtcafhmlpmbkhkaaGreatDoor
