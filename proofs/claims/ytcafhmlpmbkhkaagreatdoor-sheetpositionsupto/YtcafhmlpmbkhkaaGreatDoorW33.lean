import Derived.Test.YtcafhmlpmbkhkaaGreatDoorW32
namespace Go.Proofs.YtcafhmlpmbkhkaaGreatDoor.Dy
open Go.ChangeShapes Go.WideShapes Go.ChangeAt Go.RowKit
set_option linter.unusedVariables false
set_option linter.unusedSimpArgs false
set_option maxHeartbeats 2000000 in
theorem date_le_le (n A R1 Q1 R2 F R3 Q2 r y m d : Nat) (w : World) (HM : Hid (Mon w)) (hn1 : 1 ≤ n) (hn2 : n ≤ 3652059) (hA : ((n : Int) - 1) / 146097 = (A : Int)) (hA24 : A ≤ 24) (hR1 : ((n : Int) - 1) % 146097 = (R1 : Int)) (hR1b : R1 ≤ 146096)
    (hq1 : (R1 : Int) / 36524 = (Q1 : Int)) (hQ1 : Q1 ≤ 3) (hR2 : (R1 : Int) - (Q1 : Int) * 36524 = (R2 : Int)) (hR2b : R2 ≤ 146096) (hF : (R2 : Int) / 1461 = (F : Int)) (hFb : F ≤ 24) (hR3 : (R2 : Int) % 1461 = (R3 : Int)) (hR3b : R3 ≤ 1460) (hq2 : (R3 : Int) / 365 = (Q2 : Int)) (hQ2 : Q2 ≤ 3) (hR4 : (R3 : Int) - (Q2 : Int) * 365 = (r : Int))
    (hY : (A : Int) * 400 + (Q1 : Int) * 100 + (F : Int) * 4 + (Q2 : Int) + 1 = (y : Int)) (hy2 : y ≤ 9999) (hm1 : 1 ≤ m) (hm2 : m ≤ 12) (hd1 : 1 ≤ d) (hd2 : Hid (d ≤ dm y m)) (hr : r + 1 = mb y m + d) :
    Calls Tryz.prog 211 #[.int .i64 n] w fun e w' => e = .returned (.agg #[.int .i64 y, .int .i64 m, .int .i64 d]) ∧ w' = (w.alloc (.cells #[.int .i64 y, .int .i64 m, .int .i64 d] 251)).alloc (.cells #[.int .i64 y, .int .i64 m, .int .i64 d] 251) := by
  have HR := hide hr
  have hr2 : r ≤ 1460 := by omega
  clear hr
  go_enter Tryz.func211, Tryz.ntmps211
  go_wp2
  clear hA hA24 hR1 hR1b hq1 hQ1 hR2 hR2b hF hFb hR3 hR3b hq2 hQ2 hR4 hY
  go_loopw [3] (fun v wr => ∃ (k z : Nat), 1 ≤ k ∧ k ≤ m ∧ v = .int .i64 z ∧ z + mb y k = r ∧ wr = (w.alloc (.cells #[.int .i64 0, .int .i64 0, .int .i64 0] 251)).alloc (.cells #[.int .i64 y, .int .i64 k, .int .i64 0] 251)) (fun v _ => (RowKit.intOf v).toNat)
  case atStart => exact ⟨1, r, by omega, by omega, rfl, by rw [mb_one]; omega, rfl⟩
  case round =>
    obtain ⟨k, z, hk1, hk2, rfl, hz, rfl⟩ := hrel
    have DC := hide (dof y k _ (mon2 (unhide HM) (.cells #[.int .i64 0, .int .i64 0, .int .i64 0] 251) (.cells #[.int .i64 y, .int .i64 k, .int .i64 0] 251)) hk1 (by omega))
    have hx1 := dm_lo y k
    have hx2 := dm_hi y k
    have hs := mb_succ y k hk1
    have hl := fun (h : k + 1 ≤ m) => mb_le y (m := k + 1) (k := m) (by omega) h
    obtain ⟨X, hX⟩ : ∃ X, dm y k = X := ⟨_, rfl⟩
    rw [hX] at DC hx1 hx2 hs
    have hz3 : z ≤ 1460 := by omega
    by_cases hlt : k < m
    · have hge : X ≤ z := by
        have := hl (by omega)
        have := unhide HR
        omega
      have hz' : z - X + mb y (k + 1) = r := by omega
      have HZ := hide hz'
      clear hz hs hl hX hz'
      go_wp2_with (go_at_call 253; refine (unhide DC).mono ?_; rintro e w' ⟨rfl, hw⟩; subst hw)
      refine ⟨⟨k + 1, z - X, by omega, by omega, by go_num, unhide HZ, by go_num⟩, ?_⟩
      simp [RowKit.intOf]
      omega
    · have : k = m := by omega
      subst this
      have hzd : z + 1 = d := by have := unhide HR; omega
      have hlt2 : z < X := by have := unhide hd2; omega
      clear hz hs hl hX
      have hzd2 : (z : Int) + 1 = (d : Int) := by omega
      have ZD := hide hzd
      clear hzd
      go_wp2_with (go_at_call 253; refine (unhide DC).mono ?_; rintro e w' ⟨rfl, hw⟩; subst hw)
      refine bodyPost_ret (v := .agg #[.int .i64 y, .int .i64 k, .int .i64 d]) (by simp [results, Tryz.results211, go_sem]) rfl ⟨rfl, rfl⟩
set_option maxHeartbeats 2000000 in
theorem date_le_gt (n A R1 Q1 R2 F R3 Q2 r y m d : Nat) (w : World) (HM : Hid (Mon w)) (hn1 : 1 ≤ n) (hn2 : n ≤ 3652059) (hA : ((n : Int) - 1) / 146097 = (A : Int)) (hA24 : A ≤ 24) (hR1 : ((n : Int) - 1) % 146097 = (R1 : Int)) (hR1b : R1 ≤ 146096)
    (hq1 : (R1 : Int) / 36524 = (Q1 : Int)) (hQ1 : Q1 ≤ 3) (hR2 : (R1 : Int) - (Q1 : Int) * 36524 = (R2 : Int)) (hR2b : R2 ≤ 146096) (hF : (R2 : Int) / 1461 = (F : Int)) (hFb : F ≤ 24) (hR3 : (R2 : Int) % 1461 = (R3 : Int)) (hR3b : R3 ≤ 1460) (hq2 : (R3 : Int) / 365 = (Q2 : Int)) (hQ2 : 3 < Q2) (hR4 : (R3 : Int) - 1095 = (r : Int))
    (hY : (A : Int) * 400 + (Q1 : Int) * 100 + (F : Int) * 4 + 3 + 1 = (y : Int)) (hy2 : y ≤ 9999) (hm1 : 1 ≤ m) (hm2 : m ≤ 12) (hd1 : 1 ≤ d) (hd2 : Hid (d ≤ dm y m)) (hr : r + 1 = mb y m + d) :
    Calls Tryz.prog 211 #[.int .i64 n] w fun e w' => e = .returned (.agg #[.int .i64 y, .int .i64 m, .int .i64 d]) ∧ w' = (w.alloc (.cells #[.int .i64 y, .int .i64 m, .int .i64 d] 251)).alloc (.cells #[.int .i64 y, .int .i64 m, .int .i64 d] 251) := by
  have HR := hide hr
  have hr2 : r ≤ 1460 := by omega
  clear hr
  go_enter Tryz.func211, Tryz.ntmps211
  go_wp2
  clear hA hA24 hR1 hR1b hq1 hQ1 hR2 hR2b hF hFb hR3 hR3b hq2 hQ2 hR4 hY
  go_loopw [3] (fun v wr => ∃ (k z : Nat), 1 ≤ k ∧ k ≤ m ∧ v = .int .i64 z ∧ z + mb y k = r ∧ wr = (w.alloc (.cells #[.int .i64 0, .int .i64 0, .int .i64 0] 251)).alloc (.cells #[.int .i64 y, .int .i64 k, .int .i64 0] 251)) (fun v _ => (RowKit.intOf v).toNat)
  case atStart => exact ⟨1, r, by omega, by omega, rfl, by rw [mb_one]; omega, rfl⟩
  case round =>
    obtain ⟨k, z, hk1, hk2, rfl, hz, rfl⟩ := hrel
    have DC := hide (dof y k _ (mon2 (unhide HM) (.cells #[.int .i64 0, .int .i64 0, .int .i64 0] 251) (.cells #[.int .i64 y, .int .i64 k, .int .i64 0] 251)) hk1 (by omega))
    have hx1 := dm_lo y k
    have hx2 := dm_hi y k
    have hs := mb_succ y k hk1
    have hl := fun (h : k + 1 ≤ m) => mb_le y (m := k + 1) (k := m) (by omega) h
    obtain ⟨X, hX⟩ : ∃ X, dm y k = X := ⟨_, rfl⟩
    rw [hX] at DC hx1 hx2 hs
    have hz3 : z ≤ 1460 := by omega
    by_cases hlt : k < m
    · have hge : X ≤ z := by
        have := hl (by omega)
        have := unhide HR
        omega
      have hz' : z - X + mb y (k + 1) = r := by omega
      have HZ := hide hz'
      clear hz hs hl hX hz'
      go_wp2_with (go_at_call 253; refine (unhide DC).mono ?_; rintro e w' ⟨rfl, hw⟩; subst hw)
      refine ⟨⟨k + 1, z - X, by omega, by omega, by go_num, unhide HZ, by go_num⟩, ?_⟩
      simp [RowKit.intOf]
      omega
    · have : k = m := by omega
      subst this
      have hzd : z + 1 = d := by have := unhide HR; omega
      have hlt2 : z < X := by have := unhide hd2; omega
      clear hz hs hl hX
      have hzd2 : (z : Int) + 1 = (d : Int) := by omega
      have ZD := hide hzd
      clear hzd
      go_wp2_with (go_at_call 253; refine (unhide DC).mono ?_; rintro e w' ⟨rfl, hw⟩; subst hw)
      refine bodyPost_ret (v := .agg #[.int .i64 y, .int .i64 k, .int .i64 d]) (by simp [results, Tryz.results211, go_sem]) rfl ⟨rfl, rfl⟩
set_option maxHeartbeats 2000000 in
theorem date_gt_gt (n A R1 Q1 R2 F R3 Q2 r y m d : Nat) (w : World) (HM : Hid (Mon w)) (hn1 : 1 ≤ n) (hn2 : n ≤ 3652059) (hA : ((n : Int) - 1) / 146097 = (A : Int)) (hA24 : A ≤ 24) (hR1 : ((n : Int) - 1) % 146097 = (R1 : Int)) (hR1b : R1 ≤ 146096)
    (hq1 : (R1 : Int) / 36524 = (Q1 : Int)) (hQ1 : 3 < Q1) (hR2 : (R1 : Int) - 109572 = (R2 : Int)) (hR2b : R2 ≤ 146096) (hF : (R2 : Int) / 1461 = (F : Int)) (hFb : F ≤ 24) (hR3 : (R2 : Int) % 1461 = (R3 : Int)) (hR3b : R3 ≤ 1460) (hq2 : (R3 : Int) / 365 = (Q2 : Int)) (hQ2 : 3 < Q2) (hR4 : (R3 : Int) - 1095 = (r : Int))
    (hY : (A : Int) * 400 + 300 + (F : Int) * 4 + 3 + 1 = (y : Int)) (hy2 : y ≤ 9999) (hm1 : 1 ≤ m) (hm2 : m ≤ 12) (hd1 : 1 ≤ d) (hd2 : Hid (d ≤ dm y m)) (hr : r + 1 = mb y m + d) :
    Calls Tryz.prog 211 #[.int .i64 n] w fun e w' => e = .returned (.agg #[.int .i64 y, .int .i64 m, .int .i64 d]) ∧ w' = (w.alloc (.cells #[.int .i64 y, .int .i64 m, .int .i64 d] 251)).alloc (.cells #[.int .i64 y, .int .i64 m, .int .i64 d] 251) := by
  have HR := hide hr
  have hr2 : r ≤ 1460 := by omega
  clear hr
  go_enter Tryz.func211, Tryz.ntmps211
  go_wp2
  clear hA hA24 hR1 hR1b hq1 hQ1 hR2 hR2b hF hFb hR3 hR3b hq2 hQ2 hR4 hY
  go_loopw [3] (fun v wr => ∃ (k z : Nat), 1 ≤ k ∧ k ≤ m ∧ v = .int .i64 z ∧ z + mb y k = r ∧ wr = (w.alloc (.cells #[.int .i64 0, .int .i64 0, .int .i64 0] 251)).alloc (.cells #[.int .i64 y, .int .i64 k, .int .i64 0] 251)) (fun v _ => (RowKit.intOf v).toNat)
  case atStart => exact ⟨1, r, by omega, by omega, rfl, by rw [mb_one]; omega, rfl⟩
  case round =>
    obtain ⟨k, z, hk1, hk2, rfl, hz, rfl⟩ := hrel
    have DC := hide (dof y k _ (mon2 (unhide HM) (.cells #[.int .i64 0, .int .i64 0, .int .i64 0] 251) (.cells #[.int .i64 y, .int .i64 k, .int .i64 0] 251)) hk1 (by omega))
    have hx1 := dm_lo y k
    have hx2 := dm_hi y k
    have hs := mb_succ y k hk1
    have hl := fun (h : k + 1 ≤ m) => mb_le y (m := k + 1) (k := m) (by omega) h
    obtain ⟨X, hX⟩ : ∃ X, dm y k = X := ⟨_, rfl⟩
    rw [hX] at DC hx1 hx2 hs
    have hz3 : z ≤ 1460 := by omega
    by_cases hlt : k < m
    · have hge : X ≤ z := by
        have := hl (by omega)
        have := unhide HR
        omega
      have hz' : z - X + mb y (k + 1) = r := by omega
      have HZ := hide hz'
      clear hz hs hl hX hz'
      go_wp2_with (go_at_call 253; refine (unhide DC).mono ?_; rintro e w' ⟨rfl, hw⟩; subst hw)
      refine ⟨⟨k + 1, z - X, by omega, by omega, by go_num, unhide HZ, by go_num⟩, ?_⟩
      simp [RowKit.intOf]
      omega
    · have : k = m := by omega
      subst this
      have hzd : z + 1 = d := by have := unhide HR; omega
      have hlt2 : z < X := by have := unhide hd2; omega
      clear hz hs hl hX
      have hzd2 : (z : Int) + 1 = (d : Int) := by omega
      have ZD := hide hzd
      clear hzd
      go_wp2_with (go_at_call 253; refine (unhide DC).mono ?_; rintro e w' ⟨rfl, hw⟩; subst hw)
      refine bodyPost_ret (v := .agg #[.int .i64 y, .int .i64 k, .int .i64 d]) (by simp [results, Tryz.results211, go_sem]) rfl ⟨rfl, rfl⟩
theorem date_any (y m d n : Nat) (w : World) (hM : Mon w) (h : Dat y m d n) :
    Calls Tryz.prog 211 #[.int .i64 n] w fun e w' => e = .returned (.agg #[.int .i64 y, .int .i64 m, .int .i64 d]) ∧ w' = (w.alloc (.cells #[.int .i64 y, .int .i64 m, .int .i64 d] 251)).alloc (.cells #[.int .i64 y, .int .i64 m, .int .i64 d] 251) := by
  obtain ⟨a, b, c, e, r, hc, hr, hry, hA, hR, hb, hcc, he, ha⟩ := parts_int y m d n h
  have hy := hc.eq
  have h2 := h.y2
  have hl := yl_cases y
  have hlp := hc.leap
  have h0 := h.lo
  have h9 := h.hi
  have hr366 : r ≤ 365 := by omega
  by_cases h4 : r = 365 ∧ e = 3
  · obtain ⟨hr5, he3⟩ := h4
    have hlb : leap y = true := by
      rcases hl with ⟨h, _⟩ | ⟨_, h⟩
      · exact h
      · omega
    have hcb := (hlp hlb).2
    by_cases h5 : c = 24
    · exact date_gt_gt n a (36524 * b + 1461 * c + 365 * e + r) 4 (1461 * c + 365 * e + r) c (365 * e + r) 4 r y m d w hM h0 h9 hA ha hR (by omega) (by omega) (by omega) (by omega) (by omega) (by omega) (by omega) (by omega) (by omega) (by omega) (by omega) (by omega) (by omega) h2 h.m1 h.m2 h.d1 h.d2 hr
    · exact date_le_gt n a (36524 * b + 1461 * c + 365 * e + r) b (1461 * c + 365 * e + r) c (365 * e + r) 4 r y m d w hM h0 h9 hA ha hR (by omega) (by omega) (by omega) (by omega) (by omega) (by omega) (by omega) (by omega) (by omega) (by omega) (by omega) (by omega) (by omega) h2 h.m1 h.m2 h.d1 h.d2 hr
  · have hr364 : r ≤ 364 := by
      rcases hl with ⟨h, hh⟩ | ⟨_, h⟩
      · have := (hlp h).1
        omega
      · omega
    exact date_le_le n a (36524 * b + 1461 * c + 365 * e + r) b (1461 * c + 365 * e + r) c (365 * e + r) e r y m d w hM h0 h9 hA ha hR (by omega) (by omega) (by omega) (by omega) (by omega) (by omega) (by omega) (by omega) (by omega) (by omega) (by omega) (by omega) (by omega) h2 h.m1 h.m2 h.d1 h.d2 hr
end Go.Proofs.YtcafhmlpmbkhkaaGreatDoor.Dy
namespace Go.Proofs.YtcafhmlpmbkhkaaGreatDoor.Dy
open Go.ChangeShapes Go.WideShapes Go.ChangeAt Go.RowKit
set_option linter.unusedVariables false
set_option linter.unusedSimpArgs false
/-- a date's block -/
abbrev db (t : TypeId) (y m d : Int) : Obj := .cells #[.int .i64 y, .int .i64 m, .int .i64 d] t
set_option maxHeartbeats 1000000 in
theorem rto_bad (n : Int) (w : World) (h : n < 1 ∨ 1 ≤ n ∧ 3652059 < n) :
    Calls Tryz.prog 213 #[.int .i64 n] w fun e w' => e = .returned (.tuple #[.agg #[.int .i64 0, .int .i64 0, .int .i64 0], .int .i64 20]) ∧ w' = w.alloc (db 253 0 0 0) := by
  rcases h with h | ⟨h, h'⟩
  all_goals
    go_enter Tryz.func213, Tryz.ntmps213
    go_wp2
    exact bodyPost_ret (v := .tuple #[.agg #[.int .i64 0, .int .i64 0, .int .i64 0], .int .i64 20]) (by simp [results, Tryz.results213, go_sem]) rfl ⟨rfl, rfl⟩
set_option maxHeartbeats 2000000 in
theorem rto_ok (y m d n : Nat) (w : World) (h : Dat y m d n) :
    Calls Tryz.prog 213 #[.int .i64 n] w fun e w' => e = .returned (.tuple #[.agg #[.int .i64 y, .int .i64 m, .int .i64 d], .int .i64 0]) ∧ w' = (w.alloc (db 253 y m d)).alloc (db 253 y m d) := by
  have h6 := h.lo
  have h7 := h.hi
  have h1 := h.y1
  have h2 := h.y2
  have h3 := h.m1
  have h4 := h.m2
  have h5 := h.d1
  have hd2 := hide h.d2
  have hiy := hide h.inYear
  have hn := hide h.num
  have hx1 : decide ((n : Int) < 1) = false := decide_eq_false (by omega)
  have hx2 : decide ((3652059 : Int) < (n : Int)) = false := decide_eq_false (by omega)
  clear h
  go_enter Tryz.func213, Tryz.ntmps213
  go_wp2
  go_loopw [0] (fun v wr => ∃ k z : Nat, 1 ≤ k ∧ k ≤ y ∧ v = .int .i64 z ∧ z + ahead k = n ∧ wr = (w.alloc (db 253 0 0 0)).alloc (db 253 k 1 0)) (fun v _ => (RowKit.intOf v).toNat)
  case atStart => exact ⟨1, n, by omega, by omega, rfl, by rw [ahead_one]; omega, rfl⟩
  case round =>
    obtain ⟨k, z, hk1, hk2, rfl, hz, rfl⟩ := hrel
    have DC := hide (fun W => rlong k W)
    have hs := ahead_succ k hk1
    have hl := fun (h : k + 1 ≤ y) => ahead_le (y := k + 1) (z := y) (by omega) h
    have hyl := yl_cases k
    obtain ⟨L, hL⟩ : ∃ L, yl k = L := ⟨_, rfl⟩
    have HL := hide hL
    rw [hL] at DC hs hyl
    have hL1 : 365 ≤ L := by omega
    have hL2 : L ≤ 366 := by omega
    clear hyl hL
    by_cases hlt : k < y
    · have hge : L < z := by
        have := hl (by omega)
        have := unhide hn
        omega
      have HZ := hide (show z - L + ahead (k + 1) = n by omega)
      have hz3 : z ≤ 3652059 := by omega
      clear hz hs hl
      go_wp2_with (go_at_call 254; refine (unhide DC _).mono ?_; rintro e w' ⟨rfl, hw⟩; subst hw)
      refine ⟨⟨k + 1, z - L, by omega, by omega, by go_num, unhide HZ, by go_num⟩, ?_⟩
      simp [RowKit.intOf]
      omega
    · have hky : k = y := by omega
      subst hky
      have hzn : z = mb k m + d := by have := unhide hn; omega
      have hle : ¬ L < z := by have := unhide hiy; have := unhide HL; omega
      have HZ := hide hzn
      have hz3 : z ≤ 366 := by omega
      clear hz hs hl hk2 hzn
      go_wp2_with (go_at_call 254; refine (unhide DC _).mono ?_; rintro e w' ⟨rfl, hw⟩; subst hw)
      go_loopw [0] (fun v wr => ∃ j x : Nat, 1 ≤ j ∧ j ≤ m ∧ v = .int .i64 x ∧ x + mb k j = z ∧ wr = (w.alloc (db 253 0 0 0)).alloc (db 253 k j 0)) (fun v _ => (RowKit.intOf v).toNat)
      case atStart => exact ⟨1, z, by omega, by omega, rfl, by rw [mb_one]; omega, rfl⟩
      case round =>
        obtain ⟨j, x, hj1, hj2, rfl, hx, rfl⟩ := hrel
        have DC := hide (fun W => rsize k j W hj1 (by omega))
        have hs := mb_succ k j hj1
        have hl := fun (h : j + 1 ≤ m) => mb_le k (m := j + 1) (k := m) (by omega) h
        have hx1 := dm_lo k j
        have hx2 := dm_hi k j
        obtain ⟨X, hX⟩ : ∃ X, dm k j = X := ⟨_, rfl⟩
        rw [hX] at DC hs hx1 hx2
        have HX := hide hX
        clear hX
        have hx3 : x ≤ 366 := by omega
        by_cases hlj : j < m
        · have hge : X < x := by
            have := hl (by omega)
            have := unhide HZ
            omega
          have HY := hide (show x - X + mb k (j + 1) = z by omega)
          clear hx hs hl
          go_wp2_with (go_at_call 255; refine (unhide DC _).mono ?_; rintro e w' ⟨rfl, hw⟩; subst hw)
          refine ⟨⟨j + 1, x - X, by omega, by omega, by go_num, unhide HY, by go_num⟩, ?_⟩
          simp [RowKit.intOf]
          omega
        · have hjm : j = m := by omega
          subst hjm
          have hxd : x = d := by have := unhide HZ; omega
          have hle : ¬ X < x := by have := unhide hd2; have := unhide HX; omega
          clear hx hs hl
          subst hxd
          go_wp2_with (go_at_call 255; refine (unhide DC _).mono ?_; rintro e w' ⟨rfl, hw⟩; subst hw)
          exact bodyPost_ret (v := .tuple #[.agg #[.int .i64 k, .int .i64 j, .int .i64 x], .int .i64 0]) (by simp [results, Tryz.results213, go_sem]) rfl ⟨rfl, rfl⟩
end Go.Proofs.YtcafhmlpmbkhkaaGreatDoor.Dy
namespace Go.Proofs.YtcafhmlpmbkhkaaGreatDoor.Dy
open Go.ChangeShapes Go.WideShapes Go.ChangeAt Go.RowKit
set_option linter.unusedVariables false
set_option linter.unusedSimpArgs false
theorem carry {w W : World} (hW : Below w.heap.size w W) {f : Nat} {args : Array Value} {v : Ending} (h : Calls Tryz.prog f args W fun e w' => e = v ∧ Below W.heap.size W w') : Calls Tryz.prog f args W fun e w' => e = v ∧ Below w.heap.size w w' :=
  h.mono fun e w' ⟨he, hb⟩ => ⟨he, hW.trans (hb.mono hW.size)⟩
end Go.Proofs.YtcafhmlpmbkhkaaGreatDoor.Dy
