import Derived.Test.YtbenciieenbmeaaGreatDoorW02
import Derived.Test.YtbenciieenbmeaaGreatDoorW10
/- the document's day of a number (daybookref02.To 25: Leap 59, long 39, size 40). -/
namespace Go.Proofs.YtbenciieenbmeaaGreatDoor
open Go.ChangeShapes Go.WideShapes Go.ChangeAt Go.RowKit
set_option linter.unusedVariables false
/-- a date's block -/
abbrev dbR (y m d : Int) : Obj := .cells #[.int .i64 y, .int .i64 m, .int .i64 d] 73
set_option maxHeartbeats 1000000 in
theorem rleap (y : Int) (w : World) : Calls Tryz.prog 59 #[.int .i64 y] w fun e w' => e = .returned (.bool (lp y)) ∧ w' = w := by
  have h4 : y.tmod 400 = 0 → y.tmod 100 = 0 ∧ y.tmod 4 = 0 := by
    intro h
    have := Int.dvd_of_tmod_eq_zero h
    exact ⟨Int.tmod_eq_zero_of_dvd (by omega), Int.tmod_eq_zero_of_dvd (by omega)⟩
  have H := hide h4
  clear h4
  go_enter Tryz.func59, Tryz.ntmps59
  go_wp2
  all_goals
    go_ret
    have h4 := unhide H
    refine ⟨retB ?_, rfl⟩
    unfold lp
    rw [Bool.eq_iff_iff]
    simp [*]
    try omega
set_option maxHeartbeats 2000000 in
theorem rsize (y m : Nat) (w : World) (h1 : 1 ≤ m) (h2 : m ≤ 12) : Calls Tryz.prog 40 #[.int .i64 y, .int .i64 m] w fun e w' => e = .returned (.int .i64 (dm y m)) ∧ w' = w := by
  have hm : m = 2 ∨ m = 1 ∨ m = 3 ∨ m = 4 ∨ m = 5 ∨ m = 6 ∨ m = 7 ∨ m = 8 ∨ m = 9 ∨ m = 10 ∨ m = 11 ∨ m = 12 := by omega
  clear h1 h2
  rcases hm with rfl | hm
  · have hl := rleap y w
    rw [lp_nat] at hl
    cases he : leap y
    · rw [he] at hl
      have hd : dm y 2 = 28 := by simp [dm, he]
      rw [hd]
      clear hd he
      go_enter Tryz.func40, Tryz.ntmps40
      go_wp2_with (go_at_call 59; refine hl.mono ?_; rintro e w' ⟨rfl, hw⟩; subst hw)
      go_ret
      exact ⟨rfl, rfl⟩
    · rw [he] at hl
      have hd : dm y 2 = 29 := by simp [dm, he]
      rw [hd]
      clear hd he
      go_enter Tryz.func40, Tryz.ntmps40
      go_wp2_with (go_at_call 59; refine hl.mono ?_; rintro e w' ⟨rfl, hw⟩; subst hw)
      go_ret
      exact ⟨rfl, rfl⟩
  · rcases hm with rfl | rfl | rfl | rfl | rfl | rfl | rfl | rfl | rfl | rfl | rfl
    all_goals
      go_enter Tryz.func40, Tryz.ntmps40
      go_wp2
      go_ret
      exact ⟨rfl, rfl⟩
set_option maxHeartbeats 2000000 in
theorem rlong (y : Nat) (w : World) : Calls Tryz.prog 39 #[.int .i64 y] w fun e w' => e = .returned (.int .i64 (yl y)) ∧ w' = w := by
  have hl := rleap y w
  rw [lp_nat] at hl
  cases he : leap y
  · rw [he] at hl
    have hd : yl y = 365 := by simp [yl, he]
    rw [hd]
    clear hd he
    go_enter Tryz.func39, Tryz.ntmps39
    go_wp2_with (go_at_call 59; refine hl.mono ?_; rintro e w' ⟨rfl, hw⟩; subst hw)
    go_ret
    exact ⟨rfl, rfl⟩
  · rw [he] at hl
    have hd : yl y = 366 := by simp [yl, he]
    rw [hd]
    clear hd he
    go_enter Tryz.func39, Tryz.ntmps39
    go_wp2_with (go_at_call 59; refine hl.mono ?_; rintro e w' ⟨rfl, hw⟩; subst hw)
    go_ret
    exact ⟨rfl, rfl⟩
set_option maxHeartbeats 1000000 in
theorem rto_bad (n : Int) (w : World) (h : n < 1 ∨ 1 ≤ n ∧ 3652059 < n) :
    Calls Tryz.prog 25 #[.int .i64 n] w fun e w' => e = .returned (.tuple #[.agg #[.int .i64 0, .int .i64 0, .int .i64 0], .int .i64 20]) ∧ w' = w.alloc (dbR 0 0 0) := by
  rcases h with h | ⟨h, h'⟩
  all_goals
    go_enter Tryz.func25, Tryz.ntmps25
    go_wp2
    exact bodyPost_ret (v := .tuple #[.agg #[.int .i64 0, .int .i64 0, .int .i64 0], .int .i64 20]) (by simp [results, Tryz.results25, go_sem]) rfl ⟨rfl, rfl⟩
set_option maxHeartbeats 2000000 in
theorem rto_ok (y m d n : Nat) (w : World) (h : Dat y m d n) :
    Calls Tryz.prog 25 #[.int .i64 n] w fun e w' => e = .returned (.tuple #[.agg #[.int .i64 y, .int .i64 m, .int .i64 d], .int .i64 0]) ∧ w' = (w.alloc (dbR y m d)).alloc (dbR y m d) := by
  have h6 := h.lo
  have h7 := h.hi
  have h1 := h.y1
  have h2 := h.y2
  have h3 := h.m1
  have h4 := h.m2
  have h5 := h.d1
  have hd2 := hide h.d2
  have hiy := hide h.inYear
  have hn := hide h.num
  have hx1 : decide ((n : Int) < 1) = false := decide_eq_false (by omega)
  have hx2 : decide ((3652059 : Int) < (n : Int)) = false := decide_eq_false (by omega)
  clear h
  go_enter Tryz.func25, Tryz.ntmps25
  go_wp2
  go_loopw [0] (fun v wr => ∃ k z : Nat, 1 ≤ k ∧ k ≤ y ∧ v = .int .i64 z ∧ z + ahead k = n ∧ wr = (w.alloc (dbR 0 0 0)).alloc (dbR k 1 0)) (fun v _ => (RowKit.intOf v).toNat)
  case atStart => exact ⟨1, n, by omega, by omega, rfl, by rw [ahead_one]; omega, rfl⟩
  case round =>
    obtain ⟨k, z, hk1, hk2, rfl, hz, rfl⟩ := hrel
    have DC := hide (fun W => rlong k W)
    have hs := ahead_succ k hk1
    have hl := fun (h : k + 1 ≤ y) => ahead_le (y := k + 1) (z := y) (by omega) h
    have hyl := yl_cases k
    obtain ⟨L, hL⟩ : ∃ L, yl k = L := ⟨_, rfl⟩
    have HL := hide hL
    rw [hL] at DC hs hyl
    have hL1 : 365 ≤ L := by omega
    have hL2 : L ≤ 366 := by omega
    clear hyl hL
    by_cases hlt : k < y
    · have hge : L < z := by
        have := hl (by omega)
        have := unhide hn
        omega
      have HZ := hide (show z - L + ahead (k + 1) = n by omega)
      have hz3 : z ≤ 3652059 := by omega
      clear hz hs hl
      go_wp2_with (go_at_call 39; refine (unhide DC _).mono ?_; rintro e w' ⟨rfl, hw⟩; subst hw)
      refine ⟨⟨k + 1, z - L, by omega, by omega, by go_num, unhide HZ, by go_num⟩, ?_⟩
      simp [RowKit.intOf]
      omega
    · have hky : k = y := by omega
      subst hky
      have hzn : z = mb k m + d := by have := unhide hn; omega
      have hle : ¬ L < z := by have := unhide hiy; have := unhide HL; omega
      have HZ := hide hzn
      have hz3 : z ≤ 366 := by omega
      clear hz hs hl hk2 hzn
      go_wp2_with (go_at_call 39; refine (unhide DC _).mono ?_; rintro e w' ⟨rfl, hw⟩; subst hw)
      go_loopw [0] (fun v wr => ∃ j x : Nat, 1 ≤ j ∧ j ≤ m ∧ v = .int .i64 x ∧ x + mb k j = z ∧ wr = (w.alloc (dbR 0 0 0)).alloc (dbR k j 0)) (fun v _ => (RowKit.intOf v).toNat)
      case atStart => exact ⟨1, z, by omega, by omega, rfl, by rw [mb_one]; omega, rfl⟩
      case round =>
        obtain ⟨j, x, hj1, hj2, rfl, hx, rfl⟩ := hrel
        have DC := hide (fun W => rsize k j W hj1 (by omega))
        have hs := mb_succ k j hj1
        have hl := fun (h : j + 1 ≤ m) => mb_le k (m := j + 1) (k := m) (by omega) h
        have hx1 := dm_lo k j
        have hx2 := dm_hi k j
        obtain ⟨X, hX⟩ : ∃ X, dm k j = X := ⟨_, rfl⟩
        rw [hX] at DC hs hx1 hx2
        have HX := hide hX
        clear hX
        have hx3 : x ≤ 366 := by omega
        by_cases hlj : j < m
        · have hge : X < x := by
            have := hl (by omega)
            have := unhide HZ
            omega
          have HY := hide (show x - X + mb k (j + 1) = z by omega)
          clear hx hs hl
          go_wp2_with (go_at_call 40; refine (unhide DC _).mono ?_; rintro e w' ⟨rfl, hw⟩; subst hw)
          refine ⟨⟨j + 1, x - X, by omega, by omega, by go_num, unhide HY, by go_num⟩, ?_⟩
          simp [RowKit.intOf]
          omega
        · have hjm : j = m := by omega
          subst hjm
          have hxd : x = d := by have := unhide HZ; omega
          have hle : ¬ X < x := by have := unhide hd2; have := unhide HX; omega
          clear hx hs hl
          subst hxd
          go_wp2_with (go_at_call 40; refine (unhide DC _).mono ?_; rintro e w' ⟨rfl, hw⟩; subst hw)
          exact bodyPost_ret (v := .tuple #[.agg #[.int .i64 k, .int .i64 j, .int .i64 x], .int .i64 0]) (by simp [results, Tryz.results25, go_sem]) rfl ⟨rfl, rfl⟩
end Go.Proofs.YtbenciieenbmeaaGreatDoor
/- the document's field (daybookref15.Field 19: Is 38, over 27, number 24, day 26, root 28). -/
namespace Go.Proofs.YtbenciieenbmeaaGreatDoor
open Go Go.Shelf Go.ChangeShapes Go.WideShapes Go.ChangeAt Go.RowKit Go.Maps
set_option linter.unusedVariables false
abbrev wV (n : Int) (s : ByteArray) (b : Bool) : Value := .agg #[.int .i64 n, .string s, .bool b]
abbrev wO (n : Int) (s : ByteArray) (b : Bool) : Obj := .cells #[.int .i64 n, .string s, .bool b] 63
theorem risam_any (n : Int) (w : World) : Calls Tryz.prog 38 #[.int .i64 n] w fun e w' => e = .returned (.bool (amt n)) ∧ w' = w := by
  go_enter Tryz.func38, Tryz.ntmps38
  go_wp2_with fail
  go_ret
  exact ⟨retB (by unfold amt; rw [Bool.eq_iff_iff]; simp), rfl⟩
theorem rover_any (w : World) : Calls Tryz.prog 27 #[] w fun e w' => e = .returned (wV 0 ⟨#[]⟩ true) ∧ w' = w.alloc (wO 0 ⟨#[]⟩ true) := by
  go_enter Tryz.func27, Tryz.ntmps27
  go_wp2_with fail
  exact bodyPost_ret (v := wV 0 ⟨#[]⟩ true) (by simp [results, Tryz.results27, go_sem]) rfl ⟨rfl, rfl⟩
theorem rnum_no {n : Int} (h : amt n = false) (w : World) : Calls Tryz.prog 24 #[.int .i64 n, .int .i64 0] w fun e w' => e = .returned (wV 0 ⟨#[]⟩ true) ∧ w' = (w.alloc (wO 0 ⟨#[]⟩ true)).alloc (wO 0 ⟨#[]⟩ true) := by
  have d := hide (risam_any n)
  have d2 := hide rover_any
  rw [h] at d
  clear h
  go_enter Tryz.func24, Tryz.ntmps24
  go_wp2_with (first | (go_at_call 38; refine (unhide d _).mono ?_; rintro e w' ⟨rfl, hw⟩; subst hw) | (go_at_call 27; refine (unhide d2 _).mono ?_; rintro e w' ⟨rfl, hw⟩; subst hw))
  exact bodyPost_ret (v := wV 0 ⟨#[]⟩ true) (by simp [results, Tryz.results24, go_sem]) rfl ⟨rfl, rfl⟩
theorem rnum_yes {n : Int} (h : amt n = true) (w : World) : Calls Tryz.prog 24 #[.int .i64 n, .int .i64 0] w fun e w' => e = .returned (wV n ⟨#[]⟩ false) ∧ w' = w.alloc (wO n ⟨#[]⟩ false) := by
  have d := hide (risam_any n)
  rw [h] at d
  clear h
  go_enter Tryz.func24, Tryz.ntmps24
  go_wp2_with (first | (go_at_call 38; refine (unhide d _).mono ?_; rintro e w' ⟨rfl, hw⟩; subst hw))
  exact bodyPost_ret (v := wV n ⟨#[]⟩ false) (by simp [results, Tryz.results24, go_sem]) rfl ⟨rfl, rfl⟩
theorem rday_yes {n : Int} (h : dayB n = true) (w : World) : Calls Tryz.prog 26 #[.int .i64 n, .int .i64 0] w fun e w' => e = .returned (wV n ⟨#[]⟩ false) ∧ w' = w.alloc (wO n ⟨#[]⟩ false) := by
  have h' : 1 ≤ n ∧ n ≤ 3652059 := by unfold dayB at h; rwa [Bool.and_eq_true, decide_eq_true_iff, decide_eq_true_iff] at h
  obtain ⟨h1, h2⟩ := h'
  have h3 : ¬ n < 1 := by omega
  have h4 : ¬ 3652059 < n := by omega
  clear h h1 h2
  go_enter Tryz.func26, Tryz.ntmps26
  go_wp2_with fail
  exact bodyPost_ret (v := wV n ⟨#[]⟩ false) (by simp [results, Tryz.results26, go_sem]) rfl ⟨rfl, rfl⟩
theorem rday_no {n : Int} (h : dayB n = false) (w : World) : Calls Tryz.prog 26 #[.int .i64 n, .int .i64 0] w fun e w' => e = .returned (wV 0 ⟨#[]⟩ true) ∧ w' = (w.alloc (wO 0 ⟨#[]⟩ true)).alloc (wO 0 ⟨#[]⟩ true) := by
  have h' : n < 1 ∨ 1 ≤ n ∧ 3652059 < n := by unfold dayB at h; rw [Bool.and_eq_false_iff, decide_eq_false_iff_not, decide_eq_false_iff_not] at h; omega
  have d2 := hide rover_any
  clear h
  rcases h' with h1 | ⟨h1, h2⟩
  · go_enter Tryz.func26, Tryz.ntmps26
    go_wp2_with (first | (go_at_call 27; refine (unhide d2 _).mono ?_; rintro e w' ⟨rfl, hw⟩; subst hw))
    exact bodyPost_ret (v := wV 0 ⟨#[]⟩ true) (by simp [results, Tryz.results26, go_sem]) rfl ⟨rfl, rfl⟩
  · have h3 : ¬ n < 1 := by omega
    clear h1
    go_enter Tryz.func26, Tryz.ntmps26
    go_wp2_with (first | (go_at_call 27; refine (unhide d2 _).mono ?_; rintro e w' ⟨rfl, hw⟩; subst hw))
    exact bodyPost_ret (v := wV 0 ⟨#[]⟩ true) (by simp [results, Tryz.results26, go_sem]) rfl ⟨rfl, rfl⟩
theorem occ_is (l : List UInt8) (i : Nat) : Lib.occAt l [58] i = decide (l[i]? = some 58) := by
  unfold Lib.occAt
  rw [← List.head?_drop]
  cases l.drop i with
  | nil => rfl
  | cons b t =>
    rw [Bool.eq_iff_iff]
    simp [List.isPrefixOf]
    exact eq_comm
theorem root_at {a : ByteArray} {k : Nat} (h : ∀ j, j < k → a.data.toList[j]? ≠ some 58) (hk : a.data.toList[k]? = some 58) : rootT a = a.extract 0 k := by
  have hlt := (List.getElem?_eq_some_iff.1 hk).1
  have e : Lib.index a.data.toList [58] = k := by
    refine Lib.index_first (by omega) ?_ (fun j hj => ?_)
    · rw [occ_is]; simpa using hk
    · rw [occ_is]; simpa using h j hj
  unfold rootT Lib.cut
  rw [e, if_pos (by omega)]
  refine ByteArray.ext ?_
  rw [ByteArray.data_extract]
  refine Array.ext' ?_
  simp
theorem root_no {a : ByteArray} (h : ∀ j, j < a.size → a.data.toList[j]? ≠ some 58) : rootT a = a := by
  have e : Lib.index a.data.toList [58] = -1 := Lib.index_none (fun j hj => by
    rw [occ_is]
    by_cases hl : j < a.size
    · simpa using h j hl
    · rw [List.getElem?_eq_none (show a.data.toList.length ≤ j from by show a.data.size ≤ j; have : a.size = a.data.size := rfl; omega)]; rfl)
  unfold rootT Lib.cut
  rw [e, if_neg (by decide)]
set_option maxRecDepth 100000 in
set_option maxHeartbeats 2000000 in
theorem rroot_any (a : ByteArray) (ha : a.size < 4611686018427387904) (w : World) : Calls Tryz.prog 28 #[.string a] w fun e w' => e = .returned (.string (rootT a)) ∧ w' = w := by
  have la : a.data.toList.length = a.size := rfl
  go_enter Tryz.func28, Tryz.ntmps28
  go_wp2_with fail
  go_loopw [3] (fun i wr => ∃ (k : Nat), i = .int .i64 k ∧ k ≤ a.size ∧ Hid ((∀ j, j < k → a.data.toList[j]? ≠ some 58) ∧ wr = w)) (fun i _ => a.size - (intOf i).toNat)
  case atStart => exact ⟨0, rfl, by omega, (fun j hj => by omega), rfl⟩
  case round =>
    obtain ⟨k, rfl, hk, hrel⟩ := hrel
    by_cases hlt : k < a.size
    · have hI : (k : Int) < (a.size : Int) := by omega
      have hget : a.data.toList[k]? = some (a[k]) := by
        rw [List.getElem?_eq_getElem (by omega)]
        rfl
      by_cases h3 : a[k] = 58
      · have hc' : (a[k]).toNat = 58 := by rw [h3]; rfl
        have HR := hide (root_at (unhide hrel).1 (by rw [hget, h3]))
        clear hget h3
        go_wp2_with fail
        go_ret
        exact ⟨by rw [unhide HR]; rfl, (unhide hrel).2⟩
      · have hne : ((a[k]).toNat : Int) ≠ 58 := fun e => h3 (by
          refine UInt8.toNat_inj.1 ?_
          have : (a[k]).toNat = 58 := by omega
          rw [this]
          rfl)
        have hnb : (((a[k]).toNat : Int) == 58) = false := by simpa using hne
        have hup : Hid ((∀ j, j < k + 1 → a.data.toList[j]? ≠ some 58) ∧ wr = w) := by
          refine ⟨fun j hj => ?_, (unhide hrel).2⟩
          by_cases e : j = k
          · rw [e, hget]
            exact fun q => h3 (Option.some.inj q)
          · exact (unhide hrel).1 j (by omega)
        clear h3 hget hne hrel
        go_wp2_with fail
        refine ⟨⟨k + 1, by simp, by omega, hup⟩, by simp [intOf]; omega⟩
    · have hkn : k = a.size := by omega
      subst hkn
      have HR := hide (root_no (unhide hrel).1)
      go_wp2_with fail
      go_ret
      exact ⟨by rw [unhide HR]; rfl, (unhide hrel).2⟩
end Go.Proofs.YtbenciieenbmeaaGreatDoor
