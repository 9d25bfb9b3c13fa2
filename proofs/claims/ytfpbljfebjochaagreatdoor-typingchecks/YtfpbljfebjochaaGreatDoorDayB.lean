import Derived.Test.YtfpbljfebjochaaGreatDoorDayA
namespace Go.Proofs.YtfpbljfebjochaaGreatDoor
open Go.ChangeShapes Go.WideShapes Go.ChangeAt Go.RowKit
set_option linter.unusedVariables false
theorem mon1 {w : World} (h : Mon w) (o1 : Obj) : Mon (w.alloc o1) := h.below ((Below.refl _ _).alloc (Nat.le_refl _) o1)
theorem mon2 {w : World} (h : Mon w) (o1 o2 : Obj) : Mon ((w.alloc o1).alloc o2) := mon1 (mon1 h o1) o2
theorem ahead_int (y : Nat) (h : 1 ≤ y) : ((y : Int) - 1) * 365 + ((y : Int) - 1) / 4 - ((y : Int) - 1) / 100 + ((y : Int) - 1) / 400 = (ahead y : Int) := by
  obtain ⟨k, rfl⟩ : ∃ k, y = k + 1 := ⟨y - 1, by omega⟩
  unfold ahead
  have : k / 100 ≤ k / 4 := Nat.div_le_div_left (by decide) (by decide)
  have e : ((k + 1 : Nat) : Int) - 1 = (k : Int) := by omega
  rw [e, Nat.add_sub_cancel]
  omega
theorem ahead_hi (y : Nat) (h1 : 1 ≤ y) (h : y ≤ 9999) : ahead y ≤ 3652059 := by
  have h3 := ahead_le (y := y) (z := 10000) h1 (by omega)
  rw [ahead_end] at h3
  exact h3
theorem mb_hi (y m : Nat) (h1 : 1 ≤ m) (h : m ≤ 12) : mb y m ≤ 366 := by
  have h3 := mb_le y (m := m) (k := 13) h1 (by omega)
  rw [mb_end] at h3
  have := yl_cases y
  omega
/-- what the divisions of a day's number come to -/
theorem parts_int (y m d n : Nat) (h : Dat y m d n) : ∃ a b c e r : Nat, Cyc y a b c e ∧ r + 1 = mb y m + d ∧ r < yl y ∧
    ((n : Int) - 1) / 146097 = a ∧ ((n : Int) - 1) % 146097 = ((36524 * b + 1461 * c + 365 * e + r : Nat) : Int) ∧ b ≤ 3 ∧ c ≤ 24 ∧ e ≤ 3 ∧ a ≤ 24 := by
  obtain ⟨a, b, c, e, k⟩ := cyc_ex y h.y1
  have h1 := h.inYear
  have h2 := h.d1
  have hr : mb y m + d - 1 < yl y := by omega
  have h3 := k.parts hr
  have h4 := h.num
  have h5 := k.eq
  have h6 := h.y2
  refine ⟨a, b, c, e, mb y m + d - 1, k, by omega, hr, ?_, ?_, k.b3, k.c24, k.e3, by omega⟩
  · have := h3.1
    omega
  · have := h3.2.1
    omega
set_option maxHeartbeats 2000000 in
theorem date_le_le (n A R1 Q1 R2 F R3 Q2 r y m d : Nat) (w : World) (HM : Hid (Mon w)) (hn1 : 1 ≤ n) (hn2 : n ≤ 3652059) (hA : ((n : Int) - 1) / 146097 = (A : Int)) (hA24 : A ≤ 24) (hR1 : ((n : Int) - 1) % 146097 = (R1 : Int)) (hR1b : R1 ≤ 146096)
    (hq1 : (R1 : Int) / 36524 = (Q1 : Int)) (hQ1 : Q1 ≤ 3) (hR2 : (R1 : Int) - (Q1 : Int) * 36524 = (R2 : Int)) (hR2b : R2 ≤ 146096) (hF : (R2 : Int) / 1461 = (F : Int)) (hFb : F ≤ 24) (hR3 : (R2 : Int) % 1461 = (R3 : Int)) (hR3b : R3 ≤ 1460) (hq2 : (R3 : Int) / 365 = (Q2 : Int)) (hQ2 : Q2 ≤ 3) (hR4 : (R3 : Int) - (Q2 : Int) * 365 = (r : Int))
    (hY : (A : Int) * 400 + (Q1 : Int) * 100 + (F : Int) * 4 + (Q2 : Int) + 1 = (y : Int)) (hy2 : y ≤ 9999) (hm1 : 1 ≤ m) (hm2 : m ≤ 12) (hd1 : 1 ≤ d) (hd2 : Hid (d ≤ dm y m)) (hr : r + 1 = mb y m + d) :
    Calls Tryz.prog 221 #[.int .i64 n] w fun e w' => e = .returned (.agg #[.int .i64 y, .int .i64 m, .int .i64 d]) ∧ w' = (w.alloc (.cells #[.int .i64 y, .int .i64 m, .int .i64 d] 286)).alloc (.cells #[.int .i64 y, .int .i64 m, .int .i64 d] 286) := by
  have HR := hide hr
  have hr2 : r ≤ 1460 := by omega
  clear hr
  go_enter Tryz.func221, Tryz.ntmps221
  go_wp2
  clear hA hA24 hR1 hR1b hq1 hQ1 hR2 hR2b hF hFb hR3 hR3b hq2 hQ2 hR4 hY
  go_loopw [3] (fun v wr => ∃ (k z : Nat), 1 ≤ k ∧ k ≤ m ∧ v = .int .i64 z ∧ z + mb y k = r ∧ wr = (w.alloc (.cells #[.int .i64 0, .int .i64 0, .int .i64 0] 286)).alloc (.cells #[.int .i64 y, .int .i64 k, .int .i64 0] 286)) (fun v _ => (RowKit.intOf v).toNat)
  case atStart => exact ⟨1, r, by omega, by omega, rfl, by rw [mb_one]; omega, rfl⟩
  case round =>
    obtain ⟨k, z, hk1, hk2, rfl, hz, rfl⟩ := hrel
    have DC := hide (dof y k _ (mon2 (unhide HM) (.cells #[.int .i64 0, .int .i64 0, .int .i64 0] 286) (.cells #[.int .i64 y, .int .i64 k, .int .i64 0] 286)) hk1 (by omega))
    have hx1 := dm_lo y k
    have hx2 := dm_hi y k
    have hs := mb_succ y k hk1
    have hl := fun (h : k + 1 ≤ m) => mb_le y (m := k + 1) (k := m) (by omega) h
    obtain ⟨X, hX⟩ : ∃ X, dm y k = X := ⟨_, rfl⟩
    rw [hX] at DC hx1 hx2 hs
    have hz3 : z ≤ 1460 := by omega
    by_cases hlt : k < m
    · have hge : X ≤ z := by
        have := hl (by omega)
        have := unhide HR
        omega
      have hz' : z - X + mb y (k + 1) = r := by omega
      have HZ := hide hz'
      clear hz hs hl hX hz'
      go_wp2_with (go_at_call 223; refine (unhide DC).mono ?_; rintro e w' ⟨rfl, hw⟩; subst hw)
      refine ⟨⟨k + 1, z - X, by omega, by omega, by go_num, unhide HZ, by go_num⟩, ?_⟩
      simp [RowKit.intOf]
      omega
    · have : k = m := by omega
      subst this
      have hzd : z + 1 = d := by have := unhide HR; omega
      have hlt2 : z < X := by have := unhide hd2; omega
      clear hz hs hl hX
      have hzd2 : (z : Int) + 1 = (d : Int) := by omega
      have ZD := hide hzd
      clear hzd
      go_wp2_with (go_at_call 223; refine (unhide DC).mono ?_; rintro e w' ⟨rfl, hw⟩; subst hw)
      refine bodyPost_ret (v := .agg #[.int .i64 y, .int .i64 k, .int .i64 d]) (by simp [results, Tryz.results221, go_sem]) rfl ⟨rfl, rfl⟩
set_option maxHeartbeats 2000000 in
theorem date_le_gt (n A R1 Q1 R2 F R3 Q2 r y m d : Nat) (w : World) (HM : Hid (Mon w)) (hn1 : 1 ≤ n) (hn2 : n ≤ 3652059) (hA : ((n : Int) - 1) / 146097 = (A : Int)) (hA24 : A ≤ 24) (hR1 : ((n : Int) - 1) % 146097 = (R1 : Int)) (hR1b : R1 ≤ 146096)
    (hq1 : (R1 : Int) / 36524 = (Q1 : Int)) (hQ1 : Q1 ≤ 3) (hR2 : (R1 : Int) - (Q1 : Int) * 36524 = (R2 : Int)) (hR2b : R2 ≤ 146096) (hF : (R2 : Int) / 1461 = (F : Int)) (hFb : F ≤ 24) (hR3 : (R2 : Int) % 1461 = (R3 : Int)) (hR3b : R3 ≤ 1460) (hq2 : (R3 : Int) / 365 = (Q2 : Int)) (hQ2 : 3 < Q2) (hR4 : (R3 : Int) - 1095 = (r : Int))
    (hY : (A : Int) * 400 + (Q1 : Int) * 100 + (F : Int) * 4 + 3 + 1 = (y : Int)) (hy2 : y ≤ 9999) (hm1 : 1 ≤ m) (hm2 : m ≤ 12) (hd1 : 1 ≤ d) (hd2 : Hid (d ≤ dm y m)) (hr : r + 1 = mb y m + d) :
    Calls Tryz.prog 221 #[.int .i64 n] w fun e w' => e = .returned (.agg #[.int .i64 y, .int .i64 m, .int .i64 d]) ∧ w' = (w.alloc (.cells #[.int .i64 y, .int .i64 m, .int .i64 d] 286)).alloc (.cells #[.int .i64 y, .int .i64 m, .int .i64 d] 286) := by
  have HR := hide hr
  have hr2 : r ≤ 1460 := by omega
  clear hr
  go_enter Tryz.func221, Tryz.ntmps221
  go_wp2
  clear hA hA24 hR1 hR1b hq1 hQ1 hR2 hR2b hF hFb hR3 hR3b hq2 hQ2 hR4 hY
  go_loopw [3] (fun v wr => ∃ (k z : Nat), 1 ≤ k ∧ k ≤ m ∧ v = .int .i64 z ∧ z + mb y k = r ∧ wr = (w.alloc (.cells #[.int .i64 0, .int .i64 0, .int .i64 0] 286)).alloc (.cells #[.int .i64 y, .int .i64 k, .int .i64 0] 286)) (fun v _ => (RowKit.intOf v).toNat)
  case atStart => exact ⟨1, r, by omega, by omega, rfl, by rw [mb_one]; omega, rfl⟩
  case round =>
    obtain ⟨k, z, hk1, hk2, rfl, hz, rfl⟩ := hrel
    have DC := hide (dof y k _ (mon2 (unhide HM) (.cells #[.int .i64 0, .int .i64 0, .int .i64 0] 286) (.cells #[.int .i64 y, .int .i64 k, .int .i64 0] 286)) hk1 (by omega))
    have hx1 := dm_lo y k
    have hx2 := dm_hi y k
    have hs := mb_succ y k hk1
    have hl := fun (h : k + 1 ≤ m) => mb_le y (m := k + 1) (k := m) (by omega) h
    obtain ⟨X, hX⟩ : ∃ X, dm y k = X := ⟨_, rfl⟩
    rw [hX] at DC hx1 hx2 hs
    have hz3 : z ≤ 1460 := by omega
    by_cases hlt : k < m
    · have hge : X ≤ z := by
        have := hl (by omega)
        have := unhide HR
        omega
      have hz' : z - X + mb y (k + 1) = r := by omega
      have HZ := hide hz'
      clear hz hs hl hX hz'
      go_wp2_with (go_at_call 223; refine (unhide DC).mono ?_; rintro e w' ⟨rfl, hw⟩; subst hw)
      refine ⟨⟨k + 1, z - X, by omega, by omega, by go_num, unhide HZ, by go_num⟩, ?_⟩
      simp [RowKit.intOf]
      omega
    · have : k = m := by omega
      subst this
      have hzd : z + 1 = d := by have := unhide HR; omega
      have hlt2 : z < X := by have := unhide hd2; omega
      clear hz hs hl hX
      have hzd2 : (z : Int) + 1 = (d : Int) := by omega
      have ZD := hide hzd
      clear hzd
      go_wp2_with (go_at_call 223; refine (unhide DC).mono ?_; rintro e w' ⟨rfl, hw⟩; subst hw)
      refine bodyPost_ret (v := .agg #[.int .i64 y, .int .i64 k, .int .i64 d]) (by simp [results, Tryz.results221, go_sem]) rfl ⟨rfl, rfl⟩
set_option maxHeartbeats 2000000 in
theorem date_gt_gt (n A R1 Q1 R2 F R3 Q2 r y m d : Nat) (w : World) (HM : Hid (Mon w)) (hn1 : 1 ≤ n) (hn2 : n ≤ 3652059) (hA : ((n : Int) - 1) / 146097 = (A : Int)) (hA24 : A ≤ 24) (hR1 : ((n : Int) - 1) % 146097 = (R1 : Int)) (hR1b : R1 ≤ 146096)
    (hq1 : (R1 : Int) / 36524 = (Q1 : Int)) (hQ1 : 3 < Q1) (hR2 : (R1 : Int) - 109572 = (R2 : Int)) (hR2b : R2 ≤ 146096) (hF : (R2 : Int) / 1461 = (F : Int)) (hFb : F ≤ 24) (hR3 : (R2 : Int) % 1461 = (R3 : Int)) (hR3b : R3 ≤ 1460) (hq2 : (R3 : Int) / 365 = (Q2 : Int)) (hQ2 : 3 < Q2) (hR4 : (R3 : Int) - 1095 = (r : Int))
    (hY : (A : Int) * 400 + 300 + (F : Int) * 4 + 3 + 1 = (y : Int)) (hy2 : y ≤ 9999) (hm1 : 1 ≤ m) (hm2 : m ≤ 12) (hd1 : 1 ≤ d) (hd2 : Hid (d ≤ dm y m)) (hr : r + 1 = mb y m + d) :
    Calls Tryz.prog 221 #[.int .i64 n] w fun e w' => e = .returned (.agg #[.int .i64 y, .int .i64 m, .int .i64 d]) ∧ w' = (w.alloc (.cells #[.int .i64 y, .int .i64 m, .int .i64 d] 286)).alloc (.cells #[.int .i64 y, .int .i64 m, .int .i64 d] 286) := by
  have HR := hide hr
  have hr2 : r ≤ 1460 := by omega
  clear hr
  go_enter Tryz.func221, Tryz.ntmps221
  go_wp2
  clear hA hA24 hR1 hR1b hq1 hQ1 hR2 hR2b hF hFb hR3 hR3b hq2 hQ2 hR4 hY
  go_loopw [3] (fun v wr => ∃ (k z : Nat), 1 ≤ k ∧ k ≤ m ∧ v = .int .i64 z ∧ z + mb y k = r ∧ wr = (w.alloc (.cells #[.int .i64 0, .int .i64 0, .int .i64 0] 286)).alloc (.cells #[.int .i64 y, .int .i64 k, .int .i64 0] 286)) (fun v _ => (RowKit.intOf v).toNat)
  case atStart => exact ⟨1, r, by omega, by omega, rfl, by rw [mb_one]; omega, rfl⟩
  case round =>
    obtain ⟨k, z, hk1, hk2, rfl, hz, rfl⟩ := hrel
    have DC := hide (dof y k _ (mon2 (unhide HM) (.cells #[.int .i64 0, .int .i64 0, .int .i64 0] 286) (.cells #[.int .i64 y, .int .i64 k, .int .i64 0] 286)) hk1 (by omega))
    have hx1 := dm_lo y k
    have hx2 := dm_hi y k
    have hs := mb_succ y k hk1
    have hl := fun (h : k + 1 ≤ m) => mb_le y (m := k + 1) (k := m) (by omega) h
    obtain ⟨X, hX⟩ : ∃ X, dm y k = X := ⟨_, rfl⟩
    rw [hX] at DC hx1 hx2 hs
    have hz3 : z ≤ 1460 := by omega
    by_cases hlt : k < m
    · have hge : X ≤ z := by
        have := hl (by omega)
        have := unhide HR
        omega
      have hz' : z - X + mb y (k + 1) = r := by omega
      have HZ := hide hz'
      clear hz hs hl hX hz'
      go_wp2_with (go_at_call 223; refine (unhide DC).mono ?_; rintro e w' ⟨rfl, hw⟩; subst hw)
      refine ⟨⟨k + 1, z - X, by omega, by omega, by go_num, unhide HZ, by go_num⟩, ?_⟩
      simp [RowKit.intOf]
      omega
    · have : k = m := by omega
      subst this
      have hzd : z + 1 = d := by have := unhide HR; omega
      have hlt2 : z < X := by have := unhide hd2; omega
      clear hz hs hl hX
      have hzd2 : (z : Int) + 1 = (d : Int) := by omega
      have ZD := hide hzd
      clear hzd
      go_wp2_with (go_at_call 223; refine (unhide DC).mono ?_; rintro e w' ⟨rfl, hw⟩; subst hw)
      refine bodyPost_ret (v := .agg #[.int .i64 y, .int .i64 k, .int .i64 d]) (by simp [results, Tryz.results221, go_sem]) rfl ⟨rfl, rfl⟩
theorem date_any (y m d n : Nat) (w : World) (hM : Mon w) (h : Dat y m d n) :
    Calls Tryz.prog 221 #[.int .i64 n] w fun e w' => e = .returned (.agg #[.int .i64 y, .int .i64 m, .int .i64 d]) ∧ w' = (w.alloc (.cells #[.int .i64 y, .int .i64 m, .int .i64 d] 286)).alloc (.cells #[.int .i64 y, .int .i64 m, .int .i64 d] 286) := by
  obtain ⟨a, b, c, e, r, hc, hr, hry, hA, hR, hb, hcc, he, ha⟩ := parts_int y m d n h
  have hy := hc.eq
  have h2 := h.y2
  have hl := yl_cases y
  have hlp := hc.leap
  have h0 := h.lo
  have h9 := h.hi
  have hr366 : r ≤ 365 := by omega
  by_cases h4 : r = 365 ∧ e = 3
  · obtain ⟨hr5, he3⟩ := h4
    have hlb : leap y = true := by
      rcases hl with ⟨h, _⟩ | ⟨_, h⟩
      · exact h
      · omega
    have hcb := (hlp hlb).2
    by_cases h5 : c = 24
    · exact date_gt_gt n a (36524 * b + 1461 * c + 365 * e + r) 4 (1461 * c + 365 * e + r) c (365 * e + r) 4 r y m d w hM h0 h9 hA ha hR (by omega) (by omega) (by omega) (by omega) (by omega) (by omega) (by omega) (by omega) (by omega) (by omega) (by omega) (by omega) (by omega) h2 h.m1 h.m2 h.d1 h.d2 hr
    · exact date_le_gt n a (36524 * b + 1461 * c + 365 * e + r) b (1461 * c + 365 * e + r) c (365 * e + r) 4 r y m d w hM h0 h9 hA ha hR (by omega) (by omega) (by omega) (by omega) (by omega) (by omega) (by omega) (by omega) (by omega) (by omega) (by omega) (by omega) (by omega) h2 h.m1 h.m2 h.d1 h.d2 hr
  · have hr364 : r ≤ 364 := by
      rcases hl with ⟨h, hh⟩ | ⟨_, h⟩
      · have := (hlp h).1
        omega
      · omega
    exact date_le_le n a (36524 * b + 1461 * c + 365 * e + r) b (1461 * c + 365 * e + r) c (365 * e + r) e r y m d w hM h0 h9 hA ha hR (by omega) (by omega) (by omega) (by omega) (by omega) (by omega) (by omega) (by omega) (by omega) (by omega) (by omega) (by omega) (by omega) h2 h.m1 h.m2 h.d1 h.d2 hr
end Go.Proofs.YtfpbljfebjochaaGreatDoor
