import Derived.Test.YtjipemnphpnmiabDoorRfA
namespace Go.Proofs.YtjipemnphpnmiabDoor
open Go.ChangeShapes Go.WideShapes Go.ChangeAt Go.RowKit
set_option linter.unusedVariables false
/-- a date's block -/
abbrev db (t : TypeId) (y m d : Int) : Obj := .cells #[.int .i64 y, .int .i64 m, .int .i64 d] t
set_option maxHeartbeats 1000000 in
theorem dto_ok (y m d n : Nat) (w : World) (hM : Mon w) (h : Dat y m d n) :
    Calls Tryd.prog 10 #[.int .i64 n] w fun e w' => e = .returned (.tuple #[.agg #[.int .i64 y, .int .i64 m, .int .i64 d], .int .i64 0]) ∧ w' = ((w.alloc (db 25 y m d)).alloc (db 25 y m d)).alloc (db 25 y m d) := by
  have h6 := h.lo
  have h7 := h.hi
  have HM := hide hM
  have H := hide h
  clear h hM
  go_enter Tryd.func10, Tryd.ntmps10
  go_wp2_with (first | (go_at_call 24; refine (isday_yes _ _ (by omega) (by omega)).mono ?_; rintro e w' ⟨rfl, hw⟩; subst hw) | (go_at_call 25; refine (date_any y m d n _ (mon1 (unhide HM) _) (unhide H)).mono ?_; rintro e w' ⟨rfl, hw⟩; subst hw))
  exact bodyPost_ret (v := .tuple #[.agg #[.int .i64 y, .int .i64 m, .int .i64 d], .int .i64 0]) (by simp [results, Tryd.results10, go_sem]) rfl ⟨rfl, rfl⟩
set_option maxHeartbeats 1000000 in
theorem dto_bad (n : Int) (w : World) (h : n < 1 ∨ 3652059 < n) :
    Calls Tryd.prog 10 #[.int .i64 n] w fun e w' => e = .returned (.tuple #[.agg #[.int .i64 0, .int .i64 0, .int .i64 0], .int .i64 20]) ∧ w' = w.alloc (db 25 0 0 0) := by
  have H := hide h
  clear h
  go_enter Tryd.func10, Tryd.ntmps10
  go_wp2_with (first | (go_at_call 24; refine (isday_no _ _ (unhide H)).mono ?_; rintro e w' ⟨rfl, hw⟩; subst hw))
  exact bodyPost_ret (v := .tuple #[.agg #[.int .i64 0, .int .i64 0, .int .i64 0], .int .i64 20]) (by simp [results, Tryd.results10, go_sem]) rfl ⟨rfl, rfl⟩
set_option maxHeartbeats 1000000 in
theorem rto_bad (n : Int) (w : World) (h : n < 1 ∨ 1 ≤ n ∧ 3652059 < n) :
    Calls Tryd.prog 33 #[.int .i64 n] w fun e w' => e = .returned (.tuple #[.agg #[.int .i64 0, .int .i64 0, .int .i64 0], .int .i64 20]) ∧ w' = w.alloc (db 48 0 0 0) := by
  rcases h with h | ⟨h, h'⟩
  all_goals
    go_enter Tryd.func33, Tryd.ntmps33
    go_wp2
    exact bodyPost_ret (v := .tuple #[.agg #[.int .i64 0, .int .i64 0, .int .i64 0], .int .i64 20]) (by simp [results, Tryd.results33, go_sem]) rfl ⟨rfl, rfl⟩
set_option maxHeartbeats 2000000 in
theorem rto_ok (y m d n : Nat) (w : World) (h : Dat y m d n) :
    Calls Tryd.prog 33 #[.int .i64 n] w fun e w' => e = .returned (.tuple #[.agg #[.int .i64 y, .int .i64 m, .int .i64 d], .int .i64 0]) ∧ w' = (w.alloc (db 48 y m d)).alloc (db 48 y m d) := by
  have h6 := h.lo
  have h7 := h.hi
  have h1 := h.y1
  have h2 := h.y2
  have h3 := h.m1
  have h4 := h.m2
  have h5 := h.d1
  have hd2 := hide h.d2
  have hiy := hide h.inYear
  have hn := hide h.num
  have hx1 : decide ((n : Int) < 1) = false := decide_eq_false (by omega)
  have hx2 : decide ((3652059 : Int) < (n : Int)) = false := decide_eq_false (by omega)
  clear h
  go_enter Tryd.func33, Tryd.ntmps33
  go_wp2
  go_loopw [0] (fun v wr => ∃ k z : Nat, 1 ≤ k ∧ k ≤ y ∧ v = .int .i64 z ∧ z + ahead k = n ∧ wr = (w.alloc (db 48 0 0 0)).alloc (db 48 k 1 0)) (fun v _ => (RowKit.intOf v).toNat)
  case atStart => exact ⟨1, n, by omega, by omega, rfl, by rw [ahead_one]; omega, rfl⟩
  case round =>
    obtain ⟨k, z, hk1, hk2, rfl, hz, rfl⟩ := hrel
    have DC := hide (fun W => rlong k W)
    have hs := ahead_succ k hk1
    have hl := fun (h : k + 1 ≤ y) => ahead_le (y := k + 1) (z := y) (by omega) h
    have hyl := yl_cases k
    obtain ⟨L, hL⟩ : ∃ L, yl k = L := ⟨_, rfl⟩
    have HL := hide hL
    rw [hL] at DC hs hyl
    have hL1 : 365 ≤ L := by omega
    have hL2 : L ≤ 366 := by omega
    clear hyl hL
    by_cases hlt : k < y
    · have hge : L < z := by
        have := hl (by omega)
        have := unhide hn
        omega
      have HZ := hide (show z - L + ahead (k + 1) = n by omega)
      have hz3 : z ≤ 3652059 := by omega
      clear hz hs hl
      go_wp2_with (go_at_call 36; refine (unhide DC _).mono ?_; rintro e w' ⟨rfl, hw⟩; subst hw)
      refine ⟨⟨k + 1, z - L, by omega, by omega, by go_num, unhide HZ, by go_num⟩, ?_⟩
      simp [RowKit.intOf]
      omega
    · have hky : k = y := by omega
      subst hky
      have hzn : z = mb k m + d := by have := unhide hn; omega
      have hle : ¬ L < z := by have := unhide hiy; have := unhide HL; omega
      have HZ := hide hzn
      have hz3 : z ≤ 366 := by omega
      clear hz hs hl hk2 hzn
      go_wp2_with (go_at_call 36; refine (unhide DC _).mono ?_; rintro e w' ⟨rfl, hw⟩; subst hw)
      go_loopw [0] (fun v wr => ∃ j x : Nat, 1 ≤ j ∧ j ≤ m ∧ v = .int .i64 x ∧ x + mb k j = z ∧ wr = (w.alloc (db 48 0 0 0)).alloc (db 48 k j 0)) (fun v _ => (RowKit.intOf v).toNat)
      case atStart => exact ⟨1, z, by omega, by omega, rfl, by rw [mb_one]; omega, rfl⟩
      case round =>
        obtain ⟨j, x, hj1, hj2, rfl, hx, rfl⟩ := hrel
        have DC := hide (fun W => rsize k j W hj1 (by omega))
        have hs := mb_succ k j hj1
        have hl := fun (h : j + 1 ≤ m) => mb_le k (m := j + 1) (k := m) (by omega) h
        have hx1 := dm_lo k j
        have hx2 := dm_hi k j
        obtain ⟨X, hX⟩ : ∃ X, dm k j = X := ⟨_, rfl⟩
        rw [hX] at DC hs hx1 hx2
        have HX := hide hX
        clear hX
        have hx3 : x ≤ 366 := by omega
        by_cases hlj : j < m
        · have hge : X < x := by
            have := hl (by omega)
            have := unhide HZ
            omega
          have HY := hide (show x - X + mb k (j + 1) = z by omega)
          clear hx hs hl
          go_wp2_with (go_at_call 37; refine (unhide DC _).mono ?_; rintro e w' ⟨rfl, hw⟩; subst hw)
          refine ⟨⟨j + 1, x - X, by omega, by omega, by go_num, unhide HY, by go_num⟩, ?_⟩
          simp [RowKit.intOf]
          omega
        · have hjm : j = m := by omega
          subst hjm
          have hxd : x = d := by have := unhide HZ; omega
          have hle : ¬ X < x := by have := unhide hd2; have := unhide HX; omega
          clear hx hs hl
          subst hxd
          go_wp2_with (go_at_call 37; refine (unhide DC _).mono ?_; rintro e w' ⟨rfl, hw⟩; subst hw)
          exact bodyPost_ret (v := .tuple #[.agg #[.int .i64 k, .int .i64 j, .int .i64 x], .int .i64 0]) (by simp [results, Tryd.results33, go_sem]) rfl ⟨rfl, rfl⟩
end Go.Proofs.YtjipemnphpnmiabDoor
