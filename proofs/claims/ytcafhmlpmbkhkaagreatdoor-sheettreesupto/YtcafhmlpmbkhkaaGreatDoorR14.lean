import Derived.Test.YtcafhmlpmbkhkaaGreatDoorR12
import Derived.Test.YtcafhmlpmbkhkaaGreatDoorR13
import Derived.Deep.RegionHeld3
namespace Go.Proofs.YtcafhmlpmbkhkaaGreatDoor.Mw
open Go.ChangeShapes Go.WideShapes Go.ChangeAt Go.RowKit
set_option linter.unusedVariables false
attribute [local go_sem] setCell_drewN alloc_drewN
attribute [local go_sem ↓] st46_is
attribute [local go_sem] run_st46 run_st46_new run_st46_past
set_option maxHeartbeats 4000000 in
theorem rratio_zero_t (a n d h : Int) (s t : Bool) (q r : Nat) (v : Int) (w : World) (hh0 : 0 ≤ h) (hh1 : h ≤ 5) (ha : -9223372036854775807 ≤ a) (hn : -9223372036854775807 ≤ n) (ha' : a ≤ 9223372036854775807) (hn' : n ≤ 9223372036854775807) (hd : 1 ≤ d) (hd' : d ≤ 9223372036854775807)
    (XA : Hid (a.natAbs < 4294967296 ^ 6)) (XB : Hid (n.natAbs < 4294967296 ^ 6)) (XM : Hid (a.natAbs * n.natAbs < 4294967296 ^ 6)) (XR : Hid (r < 4294967296 ^ 6)) (XQ : Hid (q + 1 < 4294967296 ^ 6))
    (hsa : decide (a < 0) = s) (hsb : decide (n < 0) = t) (o : Bool) (ho : (!(s == t)) = o) (hq : a.natAbs * n.natAbs / d.natAbs = q) (hr : a.natAbs * n.natAbs % d.natAbs = r) (hrz : Hid (r = 0))
    (ham : Hid (∀ W, Calls Tryz.prog 148 #[wv q, .bool o] W fun e w' => e = .returned (.tuple #[.int .i64 v, .bool true]) ∧ Below W.heap.size W w')) :
    Calls Tryz.prog 195 #[.int .i64 a, .int .i64 n, .int .i64 d, .int .i64 h] w fun e w' => e = .returned (.tuple #[.int .i64 v, .int .i64 0]) ∧ Below w.heap.size w w' := by
  have hov := hide (fun W => over_open (a.natAbs * n.natAbs) d.natAbs (unhide XM) (by omega) (by omega) W)
  rw [hq, hr] at hov
  have hez := fun W => eq_zero r (unhide XR) (unhide hrz) W
  clear hq hr
  go_enter Tryz.func195, Tryz.ntmps195
  go_wp2_with (first | (go_at_call 143; refine (is_yes _ _ (by omega)).mono ?_; rintro e w' ⟨rfl, hw⟩; subst hw))
  refine (of_any _ _ (by omega) (by omega)).mono ?_
  rintro e w1 ⟨rfl, hb1⟩
  go_wp2_with fail
  refine (of_any _ _ (by omega) (by omega)).mono ?_
  rintro e w2 ⟨rfl, hb2⟩
  go_wp2_with fail
  refine (times_any a.natAbs n.natAbs (unhide XA) (unhide XB) (unhide XM) _).mono ?_
  rintro e w3 ⟨rfl, hb3⟩
  go_wp2_with fail
  refine (of_any _ _ (by omega) (by omega)).mono ?_
  rintro e w4 ⟨rfl, hb4⟩
  go_wp2_with fail
  refine ((unhide hov) _).mono ?_
  rintro e w5 ⟨rfl, hb5⟩
  have c2 := hb1.trans (hb2.mono hb1.size)
  have c3 := c2.trans (hb3.mono c2.size)
  have c4 := c3.trans (hb4.mono c3.size)
  have C5 := hide (c4.trans (hb5.mono c4.size))
  have BQ := hide ((Box.new w5 q).alloc (.cells #[.int .u64 (dg r 0), .int .u64 (dg r 1), .int .u64 (dg r 2), .int .u64 (dg r 3), .int .u64 (dg r 4), .int .u64 (dg r 5)] 202))
  have BR := hide (show Box ((w5.alloc (.cells #[.int .u64 (dg q 0), .int .u64 (dg q 1), .int .u64 (dg q 2), .int .u64 (dg q 3), .int .u64 (dg q 4), .int .u64 (dg q 5)] 202)).alloc (.cells #[.int .u64 (dg r 0), .int .u64 (dg r 1), .int .u64 (dg r 2), .int .u64 (dg r 3), .int .u64 (dg r 4), .int .u64 (dg r 5)] 202)) (w5.heap.size + 1) r from by have h := Box.new (w5.alloc (.cells #[.int .u64 (dg q 0), .int .u64 (dg q 1), .int .u64 (dg q 2), .int .u64 (dg q 3), .int .u64 (dg q 4), .int .u64 (dg q 5)] 202)) r; rw [World.size_alloc] at h; exact h)
  have C0 := hide (bal (bal (unhide C5) (.cells #[.int .u64 (dg q 0), .int .u64 (dg q 1), .int .u64 (dg q 2), .int .u64 (dg q 3), .int .u64 (dg q 4), .int .u64 (dg q 5)] 202)) (.cells #[.int .u64 (dg r 0), .int .u64 (dg r 1), .int .u64 (dg r 2), .int .u64 (dg r 3), .int .u64 (dg r 4), .int .u64 (dg r 5)] 202))
  have sz := (unhide C5).size
  clear hb1 hb2 hb3 hb4 hb5 c2 c3 c4 hov C5
  go_wp2_with fail
  refine ((unhide ham) _).mono ?_
  rintro e w8 ⟨rfl, hb8⟩
  go_wp2
  go_ret2
  exact ⟨rfl, (unhide C0).trans (hb8.mono (unhide C0).size)⟩
set_option maxHeartbeats 4000000 in
theorem rratio_zero_f (a n d h : Int) (s t : Bool) (q r : Nat) (v : Int) (w : World) (hh0 : 0 ≤ h) (hh1 : h ≤ 5) (ha : -9223372036854775807 ≤ a) (hn : -9223372036854775807 ≤ n) (ha' : a ≤ 9223372036854775807) (hn' : n ≤ 9223372036854775807) (hd : 1 ≤ d) (hd' : d ≤ 9223372036854775807)
    (XA : Hid (a.natAbs < 4294967296 ^ 6)) (XB : Hid (n.natAbs < 4294967296 ^ 6)) (XM : Hid (a.natAbs * n.natAbs < 4294967296 ^ 6)) (XR : Hid (r < 4294967296 ^ 6)) (XQ : Hid (q + 1 < 4294967296 ^ 6))
    (hsa : decide (a < 0) = s) (hsb : decide (n < 0) = t) (o : Bool) (ho : (!(s == t)) = o) (hq : a.natAbs * n.natAbs / d.natAbs = q) (hr : a.natAbs * n.natAbs % d.natAbs = r) (hrz : Hid (r = 0))
    (ham : Hid (∀ W, Calls Tryz.prog 148 #[wv q, .bool o] W fun e w' => e = .returned (.tuple #[.int .i64 v, .bool false]) ∧ Below W.heap.size W w')) :
    Calls Tryz.prog 195 #[.int .i64 a, .int .i64 n, .int .i64 d, .int .i64 h] w fun e w' => e = .returned (.tuple #[.int .i64 0, .int .i64 11]) ∧ Below w.heap.size w w' := by
  have hov := hide (fun W => over_open (a.natAbs * n.natAbs) d.natAbs (unhide XM) (by omega) (by omega) W)
  rw [hq, hr] at hov
  have hez := fun W => eq_zero r (unhide XR) (unhide hrz) W
  clear hq hr
  go_enter Tryz.func195, Tryz.ntmps195
  go_wp2_with (first | (go_at_call 143; refine (is_yes _ _ (by omega)).mono ?_; rintro e w' ⟨rfl, hw⟩; subst hw))
  refine (of_any _ _ (by omega) (by omega)).mono ?_
  rintro e w1 ⟨rfl, hb1⟩
  go_wp2_with fail
  refine (of_any _ _ (by omega) (by omega)).mono ?_
  rintro e w2 ⟨rfl, hb2⟩
  go_wp2_with fail
  refine (times_any a.natAbs n.natAbs (unhide XA) (unhide XB) (unhide XM) _).mono ?_
  rintro e w3 ⟨rfl, hb3⟩
  go_wp2_with fail
  refine (of_any _ _ (by omega) (by omega)).mono ?_
  rintro e w4 ⟨rfl, hb4⟩
  go_wp2_with fail
  refine ((unhide hov) _).mono ?_
  rintro e w5 ⟨rfl, hb5⟩
  have c2 := hb1.trans (hb2.mono hb1.size)
  have c3 := c2.trans (hb3.mono c2.size)
  have c4 := c3.trans (hb4.mono c3.size)
  have C5 := hide (c4.trans (hb5.mono c4.size))
  have BQ := hide ((Box.new w5 q).alloc (.cells #[.int .u64 (dg r 0), .int .u64 (dg r 1), .int .u64 (dg r 2), .int .u64 (dg r 3), .int .u64 (dg r 4), .int .u64 (dg r 5)] 202))
  have BR := hide (show Box ((w5.alloc (.cells #[.int .u64 (dg q 0), .int .u64 (dg q 1), .int .u64 (dg q 2), .int .u64 (dg q 3), .int .u64 (dg q 4), .int .u64 (dg q 5)] 202)).alloc (.cells #[.int .u64 (dg r 0), .int .u64 (dg r 1), .int .u64 (dg r 2), .int .u64 (dg r 3), .int .u64 (dg r 4), .int .u64 (dg r 5)] 202)) (w5.heap.size + 1) r from by have h := Box.new (w5.alloc (.cells #[.int .u64 (dg q 0), .int .u64 (dg q 1), .int .u64 (dg q 2), .int .u64 (dg q 3), .int .u64 (dg q 4), .int .u64 (dg q 5)] 202)) r; rw [World.size_alloc] at h; exact h)
  have C0 := hide (bal (bal (unhide C5) (.cells #[.int .u64 (dg q 0), .int .u64 (dg q 1), .int .u64 (dg q 2), .int .u64 (dg q 3), .int .u64 (dg q 4), .int .u64 (dg q 5)] 202)) (.cells #[.int .u64 (dg r 0), .int .u64 (dg r 1), .int .u64 (dg r 2), .int .u64 (dg r 3), .int .u64 (dg r 4), .int .u64 (dg r 5)] 202))
  have sz := (unhide C5).size
  clear hb1 hb2 hb3 hb4 hb5 c2 c3 c4 hov C5
  go_wp2_with fail
  refine ((unhide ham) _).mono ?_
  rintro e w8 ⟨rfl, hb8⟩
  go_wp2
  go_ret2
  exact ⟨rfl, (unhide C0).trans (hb8.mono (unhide C0).size)⟩
set_option maxHeartbeats 4000000 in
theorem rratio_stay_t (a n d h : Int) (s t : Bool) (q r : Nat) (v : Int) (w : World) (hh0 : 0 ≤ h) (hh1 : h ≤ 5) (ha : -9223372036854775807 ≤ a) (hn : -9223372036854775807 ≤ n) (ha' : a ≤ 9223372036854775807) (hn' : n ≤ 9223372036854775807) (hd : 1 ≤ d) (hd' : d ≤ 9223372036854775807)
    (XA : Hid (a.natAbs < 4294967296 ^ 6)) (XB : Hid (n.natAbs < 4294967296 ^ 6)) (XM : Hid (a.natAbs * n.natAbs < 4294967296 ^ 6)) (XR : Hid (r < 4294967296 ^ 6)) (XQ : Hid (q + 1 < 4294967296 ^ 6))
    (hsa : decide (a < 0) = s) (hsb : decide (n < 0) = t) (o : Bool) (ho : (!(s == t)) = o) (hq : a.natAbs * n.natAbs / d.natAbs = q) (hr : a.natAbs * n.natAbs % d.natAbs = r) (hrz : Hid (r ≠ 0))
    (hup : Hid (∀ W, Calls Tryz.prog 242 #[.int .i64 h, .bool o, .agg #[.int .u64 (dg q 0), .int .u64 (dg q 1), .int .u64 (dg q 2), .int .u64 (dg q 3), .int .u64 (dg q 4), .int .u64 (dg q 5)], .agg #[.int .u64 (dg r 0), .int .u64 (dg r 1), .int .u64 (dg r 2), .int .u64 (dg r 3), .int .u64 (dg r 4), .int .u64 (dg r 5)], wv d.natAbs] W fun e w' => e = .returned (.bool false) ∧ Below W.heap.size W w'))
    (ham : Hid (∀ W, Calls Tryz.prog 148 #[wv q, .bool o] W fun e w' => e = .returned (.tuple #[.int .i64 v, .bool true]) ∧ Below W.heap.size W w')) :
    Calls Tryz.prog 195 #[.int .i64 a, .int .i64 n, .int .i64 d, .int .i64 h] w fun e w' => e = .returned (.tuple #[.int .i64 v, .int .i64 0]) ∧ Below w.heap.size w w' := by
  have hov := hide (fun W => over_open (a.natAbs * n.natAbs) d.natAbs (unhide XM) (by omega) (by omega) W)
  rw [hq, hr] at hov
  have hez := fun W => ne_zero r (unhide XR) (unhide hrz) W
  clear hq hr
  go_enter Tryz.func195, Tryz.ntmps195
  go_wp2_with (first | (go_at_call 143; refine (is_yes _ _ (by omega)).mono ?_; rintro e w' ⟨rfl, hw⟩; subst hw))
  refine (of_any _ _ (by omega) (by omega)).mono ?_
  rintro e w1 ⟨rfl, hb1⟩
  go_wp2_with fail
  refine (of_any _ _ (by omega) (by omega)).mono ?_
  rintro e w2 ⟨rfl, hb2⟩
  go_wp2_with fail
  refine (times_any a.natAbs n.natAbs (unhide XA) (unhide XB) (unhide XM) _).mono ?_
  rintro e w3 ⟨rfl, hb3⟩
  go_wp2_with fail
  refine (of_any _ _ (by omega) (by omega)).mono ?_
  rintro e w4 ⟨rfl, hb4⟩
  go_wp2_with fail
  refine ((unhide hov) _).mono ?_
  rintro e w5 ⟨rfl, hb5⟩
  have c2 := hb1.trans (hb2.mono hb1.size)
  have c3 := c2.trans (hb3.mono c2.size)
  have c4 := c3.trans (hb4.mono c3.size)
  have C5 := hide (c4.trans (hb5.mono c4.size))
  have BQ := hide ((Box.new w5 q).alloc (.cells #[.int .u64 (dg r 0), .int .u64 (dg r 1), .int .u64 (dg r 2), .int .u64 (dg r 3), .int .u64 (dg r 4), .int .u64 (dg r 5)] 202))
  have BR := hide (show Box ((w5.alloc (.cells #[.int .u64 (dg q 0), .int .u64 (dg q 1), .int .u64 (dg q 2), .int .u64 (dg q 3), .int .u64 (dg q 4), .int .u64 (dg q 5)] 202)).alloc (.cells #[.int .u64 (dg r 0), .int .u64 (dg r 1), .int .u64 (dg r 2), .int .u64 (dg r 3), .int .u64 (dg r 4), .int .u64 (dg r 5)] 202)) (w5.heap.size + 1) r from by have h := Box.new (w5.alloc (.cells #[.int .u64 (dg q 0), .int .u64 (dg q 1), .int .u64 (dg q 2), .int .u64 (dg q 3), .int .u64 (dg q 4), .int .u64 (dg q 5)] 202)) r; rw [World.size_alloc] at h; exact h)
  have C0 := hide (bal (bal (unhide C5) (.cells #[.int .u64 (dg q 0), .int .u64 (dg q 1), .int .u64 (dg q 2), .int .u64 (dg q 3), .int .u64 (dg q 4), .int .u64 (dg q 5)] 202)) (.cells #[.int .u64 (dg r 0), .int .u64 (dg r 1), .int .u64 (dg r 2), .int .u64 (dg r 3), .int .u64 (dg r 4), .int .u64 (dg r 5)] 202))
  have sz := (unhide C5).size
  clear hb1 hb2 hb3 hb4 hb5 c2 c3 c4 hov C5
  go_wp2_with fail
  generalize (w5.alloc (.cells #[.int .u64 (dg q 0), .int .u64 (dg q 1), .int .u64 (dg q 2), .int .u64 (dg q 3), .int .u64 (dg q 4), .int .u64 (dg q 5)] 202)).alloc (.cells #[.int .u64 (dg r 0), .int .u64 (dg r 1), .int .u64 (dg r 2), .int .u64 (dg r 3), .int .u64 (dg r 4), .int .u64 (dg r 5)] 202) = W0 at *
  have q0 := (unhide BQ).at' 0 (by omega)
  have r0 := (unhide BR).at' 0 (by omega)
  have q1 := (unhide BQ).at' 1 (by omega)
  have r1 := (unhide BR).at' 1 (by omega)
  have q2 := (unhide BQ).at' 2 (by omega)
  have r2 := (unhide BR).at' 2 (by omega)
  have q3 := (unhide BQ).at' 3 (by omega)
  have r3 := (unhide BR).at' 3 (by omega)
  have q4 := (unhide BQ).at' 4 (by omega)
  have r4 := (unhide BR).at' 4 (by omega)
  have q5 := (unhide BQ).at' 5 (by omega)
  have r5 := (unhide BR).at' 5 (by omega)
  go_region_held3 (fun w' => w'.cell? ⟨w5.heap.size, 0, none⟩ = some (.int .u64 (dg q 0)) ∧ w'.cell? ⟨w5.heap.size, 1, none⟩ = some (.int .u64 (dg q 1)) ∧ w'.cell? ⟨w5.heap.size, 2, none⟩ = some (.int .u64 (dg q 2)) ∧ w'.cell? ⟨w5.heap.size, 3, none⟩ = some (.int .u64 (dg q 3)) ∧ w'.cell? ⟨w5.heap.size, 4, none⟩ = some (.int .u64 (dg q 4)) ∧ w'.cell? ⟨w5.heap.size, 5, none⟩ = some (.int .u64 (dg q 5)) ∧ w'.cell? ⟨w5.heap.size + 1, 0, none⟩ = some (.int .u64 (dg r 0)) ∧ w'.cell? ⟨w5.heap.size + 1, 1, none⟩ = some (.int .u64 (dg r 1)) ∧ w'.cell? ⟨w5.heap.size + 1, 2, none⟩ = some (.int .u64 (dg r 2)) ∧ w'.cell? ⟨w5.heap.size + 1, 3, none⟩ = some (.int .u64 (dg r 3)) ∧ w'.cell? ⟨w5.heap.size + 1, 4, none⟩ = some (.int .u64 (dg r 4)) ∧ w'.cell? ⟨w5.heap.size + 1, 5, none⟩ = some (.int .u64 (dg r 5))) (first | (refine ⟨?_, ?_, ?_, ?_, ?_, ?_, ?_, ?_, ?_, ?_, ?_, ?_⟩ <;> with_reducible assumption) | go_keep) (first | (go_at_call 145; refine (of_any _ _ (by omega) (by omega)).mono ?_; rintro e w6 ⟨rfl, hb6⟩; have BQ6 := hide (Box.below' hb6 (unhide BQ).lt (unhide BQ).at' (unhide BQ).fz); have BR6 := hide (Box.below' hb6 (unhide BR).lt (unhide BR).at' (unhide BR).fz); have C6 := hide ((unhide C0).trans (undrew (hb6.mono (unhide C0).size))); clear hb6; have x0 := (unhide BQ6).at' 0 (by omega); have y0 := (unhide BR6).at' 0 (by omega); have x1 := (unhide BQ6).at' 1 (by omega); have y1 := (unhide BR6).at' 1 (by omega); have x2 := (unhide BQ6).at' 2 (by omega); have y2 := (unhide BR6).at' 2 (by omega); have x3 := (unhide BQ6).at' 3 (by omega); have y3 := (unhide BR6).at' 3 (by omega); have x4 := (unhide BQ6).at' 4 (by omega); have y4 := (unhide BR6).at' 4 (by omega); have x5 := (unhide BQ6).at' 5 (by omega); have y5 := (unhide BR6).at' 5 (by omega)) | (go_at_call 242; refine ((unhide hup) _).mono ?_; rintro e w7 ⟨rfl, hb7⟩; have BQ7 := hide ((unhide BQ6).below hb7); have C7 := hide ((unhide C6).trans (hb7.mono (unhide C6).size)); have BR7 := hide ((unhide BR6).below hb7); have p0 := (unhide BQ7).at' 0 (by omega); have e0 := (unhide BR7).at' 0 (by omega); have p1 := (unhide BQ7).at' 1 (by omega); have e1 := (unhide BR7).at' 1 (by omega); have p2 := (unhide BQ7).at' 2 (by omega); have e2 := (unhide BR7).at' 2 (by omega); have p3 := (unhide BQ7).at' 3 (by omega); have e3 := (unhide BR7).at' 3 (by omega); have p4 := (unhide BQ7).at' 4 (by omega); have e4 := (unhide BR7).at' 4 (by omega); have p5 := (unhide BQ7).at' 5 (by omega); have e5 := (unhide BR7).at' 5 (by omega); clear hb7))
  all_goals
    have z0 := (unhide BQ7).at' 0 (by omega)
    have z1 := (unhide BQ7).at' 1 (by omega)
    have z2 := (unhide BQ7).at' 2 (by omega)
    have z3 := (unhide BQ7).at' 3 (by omega)
    have z4 := (unhide BQ7).at' 4 (by omega)
    have z5 := (unhide BQ7).at' 5 (by omega)
    go_wp2_with (go_at_call 148; refine ((unhide ham) _).mono ?_; rintro e w8 ⟨rfl, hb8⟩; have HB8 := hide hb8; clear hb8)
    go_ret2
    exact ⟨rfl, (unhide C7).trans ((unhide HB8).mono (unhide C7).size)⟩
set_option maxHeartbeats 4000000 in
theorem rratio_stay_f (a n d h : Int) (s t : Bool) (q r : Nat) (v : Int) (w : World) (hh0 : 0 ≤ h) (hh1 : h ≤ 5) (ha : -9223372036854775807 ≤ a) (hn : -9223372036854775807 ≤ n) (ha' : a ≤ 9223372036854775807) (hn' : n ≤ 9223372036854775807) (hd : 1 ≤ d) (hd' : d ≤ 9223372036854775807)
    (XA : Hid (a.natAbs < 4294967296 ^ 6)) (XB : Hid (n.natAbs < 4294967296 ^ 6)) (XM : Hid (a.natAbs * n.natAbs < 4294967296 ^ 6)) (XR : Hid (r < 4294967296 ^ 6)) (XQ : Hid (q + 1 < 4294967296 ^ 6))
    (hsa : decide (a < 0) = s) (hsb : decide (n < 0) = t) (o : Bool) (ho : (!(s == t)) = o) (hq : a.natAbs * n.natAbs / d.natAbs = q) (hr : a.natAbs * n.natAbs % d.natAbs = r) (hrz : Hid (r ≠ 0))
    (hup : Hid (∀ W, Calls Tryz.prog 242 #[.int .i64 h, .bool o, .agg #[.int .u64 (dg q 0), .int .u64 (dg q 1), .int .u64 (dg q 2), .int .u64 (dg q 3), .int .u64 (dg q 4), .int .u64 (dg q 5)], .agg #[.int .u64 (dg r 0), .int .u64 (dg r 1), .int .u64 (dg r 2), .int .u64 (dg r 3), .int .u64 (dg r 4), .int .u64 (dg r 5)], wv d.natAbs] W fun e w' => e = .returned (.bool false) ∧ Below W.heap.size W w'))
    (ham : Hid (∀ W, Calls Tryz.prog 148 #[wv q, .bool o] W fun e w' => e = .returned (.tuple #[.int .i64 v, .bool false]) ∧ Below W.heap.size W w')) :
    Calls Tryz.prog 195 #[.int .i64 a, .int .i64 n, .int .i64 d, .int .i64 h] w fun e w' => e = .returned (.tuple #[.int .i64 0, .int .i64 11]) ∧ Below w.heap.size w w' := by
  have hov := hide (fun W => over_open (a.natAbs * n.natAbs) d.natAbs (unhide XM) (by omega) (by omega) W)
  rw [hq, hr] at hov
  have hez := fun W => ne_zero r (unhide XR) (unhide hrz) W
  clear hq hr
  go_enter Tryz.func195, Tryz.ntmps195
  go_wp2_with (first | (go_at_call 143; refine (is_yes _ _ (by omega)).mono ?_; rintro e w' ⟨rfl, hw⟩; subst hw))
  refine (of_any _ _ (by omega) (by omega)).mono ?_
  rintro e w1 ⟨rfl, hb1⟩
  go_wp2_with fail
  refine (of_any _ _ (by omega) (by omega)).mono ?_
  rintro e w2 ⟨rfl, hb2⟩
  go_wp2_with fail
  refine (times_any a.natAbs n.natAbs (unhide XA) (unhide XB) (unhide XM) _).mono ?_
  rintro e w3 ⟨rfl, hb3⟩
  go_wp2_with fail
  refine (of_any _ _ (by omega) (by omega)).mono ?_
  rintro e w4 ⟨rfl, hb4⟩
  go_wp2_with fail
  refine ((unhide hov) _).mono ?_
  rintro e w5 ⟨rfl, hb5⟩
  have c2 := hb1.trans (hb2.mono hb1.size)
  have c3 := c2.trans (hb3.mono c2.size)
  have c4 := c3.trans (hb4.mono c3.size)
  have C5 := hide (c4.trans (hb5.mono c4.size))
  have BQ := hide ((Box.new w5 q).alloc (.cells #[.int .u64 (dg r 0), .int .u64 (dg r 1), .int .u64 (dg r 2), .int .u64 (dg r 3), .int .u64 (dg r 4), .int .u64 (dg r 5)] 202))
  have BR := hide (show Box ((w5.alloc (.cells #[.int .u64 (dg q 0), .int .u64 (dg q 1), .int .u64 (dg q 2), .int .u64 (dg q 3), .int .u64 (dg q 4), .int .u64 (dg q 5)] 202)).alloc (.cells #[.int .u64 (dg r 0), .int .u64 (dg r 1), .int .u64 (dg r 2), .int .u64 (dg r 3), .int .u64 (dg r 4), .int .u64 (dg r 5)] 202)) (w5.heap.size + 1) r from by have h := Box.new (w5.alloc (.cells #[.int .u64 (dg q 0), .int .u64 (dg q 1), .int .u64 (dg q 2), .int .u64 (dg q 3), .int .u64 (dg q 4), .int .u64 (dg q 5)] 202)) r; rw [World.size_alloc] at h; exact h)
  have C0 := hide (bal (bal (unhide C5) (.cells #[.int .u64 (dg q 0), .int .u64 (dg q 1), .int .u64 (dg q 2), .int .u64 (dg q 3), .int .u64 (dg q 4), .int .u64 (dg q 5)] 202)) (.cells #[.int .u64 (dg r 0), .int .u64 (dg r 1), .int .u64 (dg r 2), .int .u64 (dg r 3), .int .u64 (dg r 4), .int .u64 (dg r 5)] 202))
  have sz := (unhide C5).size
  clear hb1 hb2 hb3 hb4 hb5 c2 c3 c4 hov C5
  go_wp2_with fail
  generalize (w5.alloc (.cells #[.int .u64 (dg q 0), .int .u64 (dg q 1), .int .u64 (dg q 2), .int .u64 (dg q 3), .int .u64 (dg q 4), .int .u64 (dg q 5)] 202)).alloc (.cells #[.int .u64 (dg r 0), .int .u64 (dg r 1), .int .u64 (dg r 2), .int .u64 (dg r 3), .int .u64 (dg r 4), .int .u64 (dg r 5)] 202) = W0 at *
  have q0 := (unhide BQ).at' 0 (by omega)
  have r0 := (unhide BR).at' 0 (by omega)
  have q1 := (unhide BQ).at' 1 (by omega)
  have r1 := (unhide BR).at' 1 (by omega)
  have q2 := (unhide BQ).at' 2 (by omega)
  have r2 := (unhide BR).at' 2 (by omega)
  have q3 := (unhide BQ).at' 3 (by omega)
  have r3 := (unhide BR).at' 3 (by omega)
  have q4 := (unhide BQ).at' 4 (by omega)
  have r4 := (unhide BR).at' 4 (by omega)
  have q5 := (unhide BQ).at' 5 (by omega)
  have r5 := (unhide BR).at' 5 (by omega)
  go_region_held3 (fun w' => w'.cell? ⟨w5.heap.size, 0, none⟩ = some (.int .u64 (dg q 0)) ∧ w'.cell? ⟨w5.heap.size, 1, none⟩ = some (.int .u64 (dg q 1)) ∧ w'.cell? ⟨w5.heap.size, 2, none⟩ = some (.int .u64 (dg q 2)) ∧ w'.cell? ⟨w5.heap.size, 3, none⟩ = some (.int .u64 (dg q 3)) ∧ w'.cell? ⟨w5.heap.size, 4, none⟩ = some (.int .u64 (dg q 4)) ∧ w'.cell? ⟨w5.heap.size, 5, none⟩ = some (.int .u64 (dg q 5)) ∧ w'.cell? ⟨w5.heap.size + 1, 0, none⟩ = some (.int .u64 (dg r 0)) ∧ w'.cell? ⟨w5.heap.size + 1, 1, none⟩ = some (.int .u64 (dg r 1)) ∧ w'.cell? ⟨w5.heap.size + 1, 2, none⟩ = some (.int .u64 (dg r 2)) ∧ w'.cell? ⟨w5.heap.size + 1, 3, none⟩ = some (.int .u64 (dg r 3)) ∧ w'.cell? ⟨w5.heap.size + 1, 4, none⟩ = some (.int .u64 (dg r 4)) ∧ w'.cell? ⟨w5.heap.size + 1, 5, none⟩ = some (.int .u64 (dg r 5))) (first | (refine ⟨?_, ?_, ?_, ?_, ?_, ?_, ?_, ?_, ?_, ?_, ?_, ?_⟩ <;> with_reducible assumption) | go_keep) (first | (go_at_call 145; refine (of_any _ _ (by omega) (by omega)).mono ?_; rintro e w6 ⟨rfl, hb6⟩; have BQ6 := hide (Box.below' hb6 (unhide BQ).lt (unhide BQ).at' (unhide BQ).fz); have BR6 := hide (Box.below' hb6 (unhide BR).lt (unhide BR).at' (unhide BR).fz); have C6 := hide ((unhide C0).trans (undrew (hb6.mono (unhide C0).size))); clear hb6; have x0 := (unhide BQ6).at' 0 (by omega); have y0 := (unhide BR6).at' 0 (by omega); have x1 := (unhide BQ6).at' 1 (by omega); have y1 := (unhide BR6).at' 1 (by omega); have x2 := (unhide BQ6).at' 2 (by omega); have y2 := (unhide BR6).at' 2 (by omega); have x3 := (unhide BQ6).at' 3 (by omega); have y3 := (unhide BR6).at' 3 (by omega); have x4 := (unhide BQ6).at' 4 (by omega); have y4 := (unhide BR6).at' 4 (by omega); have x5 := (unhide BQ6).at' 5 (by omega); have y5 := (unhide BR6).at' 5 (by omega)) | (go_at_call 242; refine ((unhide hup) _).mono ?_; rintro e w7 ⟨rfl, hb7⟩; have BQ7 := hide ((unhide BQ6).below hb7); have C7 := hide ((unhide C6).trans (hb7.mono (unhide C6).size)); have BR7 := hide ((unhide BR6).below hb7); have p0 := (unhide BQ7).at' 0 (by omega); have e0 := (unhide BR7).at' 0 (by omega); have p1 := (unhide BQ7).at' 1 (by omega); have e1 := (unhide BR7).at' 1 (by omega); have p2 := (unhide BQ7).at' 2 (by omega); have e2 := (unhide BR7).at' 2 (by omega); have p3 := (unhide BQ7).at' 3 (by omega); have e3 := (unhide BR7).at' 3 (by omega); have p4 := (unhide BQ7).at' 4 (by omega); have e4 := (unhide BR7).at' 4 (by omega); have p5 := (unhide BQ7).at' 5 (by omega); have e5 := (unhide BR7).at' 5 (by omega); clear hb7))
  all_goals
    have z0 := (unhide BQ7).at' 0 (by omega)
    have z1 := (unhide BQ7).at' 1 (by omega)
    have z2 := (unhide BQ7).at' 2 (by omega)
    have z3 := (unhide BQ7).at' 3 (by omega)
    have z4 := (unhide BQ7).at' 4 (by omega)
    have z5 := (unhide BQ7).at' 5 (by omega)
    go_wp2_with (go_at_call 148; refine ((unhide ham) _).mono ?_; rintro e w8 ⟨rfl, hb8⟩; have HB8 := hide hb8; clear hb8)
    go_ret2
    exact ⟨rfl, (unhide C7).trans ((unhide HB8).mono (unhide C7).size)⟩
set_option maxHeartbeats 4000000 in
theorem rratio_away_t (a n d h : Int) (s t : Bool) (q r : Nat) (v : Int) (w : World) (hh0 : 0 ≤ h) (hh1 : h ≤ 5) (ha : -9223372036854775807 ≤ a) (hn : -9223372036854775807 ≤ n) (ha' : a ≤ 9223372036854775807) (hn' : n ≤ 9223372036854775807) (hd : 1 ≤ d) (hd' : d ≤ 9223372036854775807)
    (XA : Hid (a.natAbs < 4294967296 ^ 6)) (XB : Hid (n.natAbs < 4294967296 ^ 6)) (XM : Hid (a.natAbs * n.natAbs < 4294967296 ^ 6)) (XR : Hid (r < 4294967296 ^ 6)) (XQ : Hid (q + 1 < 4294967296 ^ 6))
    (hsa : decide (a < 0) = s) (hsb : decide (n < 0) = t) (o : Bool) (ho : (!(s == t)) = o) (hq : a.natAbs * n.natAbs / d.natAbs = q) (hr : a.natAbs * n.natAbs % d.natAbs = r) (hrz : Hid (r ≠ 0))
    (hup : Hid (∀ W, Calls Tryz.prog 242 #[.int .i64 h, .bool o, .agg #[.int .u64 (dg q 0), .int .u64 (dg q 1), .int .u64 (dg q 2), .int .u64 (dg q 3), .int .u64 (dg q 4), .int .u64 (dg q 5)], .agg #[.int .u64 (dg r 0), .int .u64 (dg r 1), .int .u64 (dg r 2), .int .u64 (dg r 3), .int .u64 (dg r 4), .int .u64 (dg r 5)], wv d.natAbs] W fun e w' => e = .returned (.bool true) ∧ Below W.heap.size W w'))
    (ham : Hid (∀ W, Calls Tryz.prog 148 #[wv (q + 1), .bool o] W fun e w' => e = .returned (.tuple #[.int .i64 v, .bool true]) ∧ Below W.heap.size W w')) :
    Calls Tryz.prog 195 #[.int .i64 a, .int .i64 n, .int .i64 d, .int .i64 h] w fun e w' => e = .returned (.tuple #[.int .i64 v, .int .i64 0]) ∧ Below w.heap.size w w' := by
  have hov := hide (fun W => over_open (a.natAbs * n.natAbs) d.natAbs (unhide XM) (by omega) (by omega) W)
  rw [hq, hr] at hov
  have hez := fun W => ne_zero r (unhide XR) (unhide hrz) W
  clear hq hr
  go_enter Tryz.func195, Tryz.ntmps195
  go_wp2_with (first | (go_at_call 143; refine (is_yes _ _ (by omega)).mono ?_; rintro e w' ⟨rfl, hw⟩; subst hw))
  refine (of_any _ _ (by omega) (by omega)).mono ?_
  rintro e w1 ⟨rfl, hb1⟩
  go_wp2_with fail
  refine (of_any _ _ (by omega) (by omega)).mono ?_
  rintro e w2 ⟨rfl, hb2⟩
  go_wp2_with fail
  refine (times_any a.natAbs n.natAbs (unhide XA) (unhide XB) (unhide XM) _).mono ?_
  rintro e w3 ⟨rfl, hb3⟩
  go_wp2_with fail
  refine (of_any _ _ (by omega) (by omega)).mono ?_
  rintro e w4 ⟨rfl, hb4⟩
  go_wp2_with fail
  refine ((unhide hov) _).mono ?_
  rintro e w5 ⟨rfl, hb5⟩
  have c2 := hb1.trans (hb2.mono hb1.size)
  have c3 := c2.trans (hb3.mono c2.size)
  have c4 := c3.trans (hb4.mono c3.size)
  have C5 := hide (c4.trans (hb5.mono c4.size))
  have BQ := hide ((Box.new w5 q).alloc (.cells #[.int .u64 (dg r 0), .int .u64 (dg r 1), .int .u64 (dg r 2), .int .u64 (dg r 3), .int .u64 (dg r 4), .int .u64 (dg r 5)] 202))
  have BR := hide (show Box ((w5.alloc (.cells #[.int .u64 (dg q 0), .int .u64 (dg q 1), .int .u64 (dg q 2), .int .u64 (dg q 3), .int .u64 (dg q 4), .int .u64 (dg q 5)] 202)).alloc (.cells #[.int .u64 (dg r 0), .int .u64 (dg r 1), .int .u64 (dg r 2), .int .u64 (dg r 3), .int .u64 (dg r 4), .int .u64 (dg r 5)] 202)) (w5.heap.size + 1) r from by have h := Box.new (w5.alloc (.cells #[.int .u64 (dg q 0), .int .u64 (dg q 1), .int .u64 (dg q 2), .int .u64 (dg q 3), .int .u64 (dg q 4), .int .u64 (dg q 5)] 202)) r; rw [World.size_alloc] at h; exact h)
  have C0 := hide (bal (bal (unhide C5) (.cells #[.int .u64 (dg q 0), .int .u64 (dg q 1), .int .u64 (dg q 2), .int .u64 (dg q 3), .int .u64 (dg q 4), .int .u64 (dg q 5)] 202)) (.cells #[.int .u64 (dg r 0), .int .u64 (dg r 1), .int .u64 (dg r 2), .int .u64 (dg r 3), .int .u64 (dg r 4), .int .u64 (dg r 5)] 202))
  have sz := (unhide C5).size
  clear hb1 hb2 hb3 hb4 hb5 c2 c3 c4 hov C5
  go_wp2_with fail
  generalize (w5.alloc (.cells #[.int .u64 (dg q 0), .int .u64 (dg q 1), .int .u64 (dg q 2), .int .u64 (dg q 3), .int .u64 (dg q 4), .int .u64 (dg q 5)] 202)).alloc (.cells #[.int .u64 (dg r 0), .int .u64 (dg r 1), .int .u64 (dg r 2), .int .u64 (dg r 3), .int .u64 (dg r 4), .int .u64 (dg r 5)] 202) = W0 at *
  have q0 := (unhide BQ).at' 0 (by omega)
  have r0 := (unhide BR).at' 0 (by omega)
  have q1 := (unhide BQ).at' 1 (by omega)
  have r1 := (unhide BR).at' 1 (by omega)
  have q2 := (unhide BQ).at' 2 (by omega)
  have r2 := (unhide BR).at' 2 (by omega)
  have q3 := (unhide BQ).at' 3 (by omega)
  have r3 := (unhide BR).at' 3 (by omega)
  have q4 := (unhide BQ).at' 4 (by omega)
  have r4 := (unhide BR).at' 4 (by omega)
  have q5 := (unhide BQ).at' 5 (by omega)
  have r5 := (unhide BR).at' 5 (by omega)
  go_region_held3 (fun w' => w'.cell? ⟨w5.heap.size, 0, none⟩ = some (.int .u64 (dg q 0)) ∧ w'.cell? ⟨w5.heap.size, 1, none⟩ = some (.int .u64 (dg q 1)) ∧ w'.cell? ⟨w5.heap.size, 2, none⟩ = some (.int .u64 (dg q 2)) ∧ w'.cell? ⟨w5.heap.size, 3, none⟩ = some (.int .u64 (dg q 3)) ∧ w'.cell? ⟨w5.heap.size, 4, none⟩ = some (.int .u64 (dg q 4)) ∧ w'.cell? ⟨w5.heap.size, 5, none⟩ = some (.int .u64 (dg q 5)) ∧ w'.cell? ⟨w5.heap.size + 1, 0, none⟩ = some (.int .u64 (dg r 0)) ∧ w'.cell? ⟨w5.heap.size + 1, 1, none⟩ = some (.int .u64 (dg r 1)) ∧ w'.cell? ⟨w5.heap.size + 1, 2, none⟩ = some (.int .u64 (dg r 2)) ∧ w'.cell? ⟨w5.heap.size + 1, 3, none⟩ = some (.int .u64 (dg r 3)) ∧ w'.cell? ⟨w5.heap.size + 1, 4, none⟩ = some (.int .u64 (dg r 4)) ∧ w'.cell? ⟨w5.heap.size + 1, 5, none⟩ = some (.int .u64 (dg r 5))) (first | (refine ⟨?_, ?_, ?_, ?_, ?_, ?_, ?_, ?_, ?_, ?_, ?_, ?_⟩ <;> with_reducible assumption) | go_keep) (first | (go_at_call 145; refine (of_any _ _ (by omega) (by omega)).mono ?_; rintro e w6 ⟨rfl, hb6⟩; have BQ6 := hide (Box.below' hb6 (unhide BQ).lt (unhide BQ).at' (unhide BQ).fz); have BR6 := hide (Box.below' hb6 (unhide BR).lt (unhide BR).at' (unhide BR).fz); have C6 := hide ((unhide C0).trans (undrew (hb6.mono (unhide C0).size))); clear hb6; have x0 := (unhide BQ6).at' 0 (by omega); have y0 := (unhide BR6).at' 0 (by omega); have x1 := (unhide BQ6).at' 1 (by omega); have y1 := (unhide BR6).at' 1 (by omega); have x2 := (unhide BQ6).at' 2 (by omega); have y2 := (unhide BR6).at' 2 (by omega); have x3 := (unhide BQ6).at' 3 (by omega); have y3 := (unhide BR6).at' 3 (by omega); have x4 := (unhide BQ6).at' 4 (by omega); have y4 := (unhide BR6).at' 4 (by omega); have x5 := (unhide BQ6).at' 5 (by omega); have y5 := (unhide BR6).at' 5 (by omega)) | (go_at_call 242; refine ((unhide hup) _).mono ?_; rintro e w7 ⟨rfl, hb7⟩; have BQ7 := hide ((unhide BQ6).below hb7); have C7 := hide ((unhide C6).trans (hb7.mono (unhide C6).size)); have BR7 := hide ((unhide BR6).below hb7); have p0 := (unhide BQ7).at' 0 (by omega); have e0 := (unhide BR7).at' 0 (by omega); have p1 := (unhide BQ7).at' 1 (by omega); have e1 := (unhide BR7).at' 1 (by omega); have p2 := (unhide BQ7).at' 2 (by omega); have e2 := (unhide BR7).at' 2 (by omega); have p3 := (unhide BQ7).at' 3 (by omega); have e3 := (unhide BR7).at' 3 (by omega); have p4 := (unhide BQ7).at' 4 (by omega); have e4 := (unhide BR7).at' 4 (by omega); have p5 := (unhide BQ7).at' 5 (by omega); have e5 := (unhide BR7).at' 5 (by omega); clear hb7))
  all_goals
    have z0 := (unhide BQ7).at' 0 (by omega)
    have z1 := (unhide BQ7).at' 1 (by omega)
    have z2 := (unhide BQ7).at' 2 (by omega)
    have z3 := (unhide BQ7).at' 3 (by omega)
    have z4 := (unhide BQ7).at' 4 (by omega)
    have z5 := (unhide BQ7).at' 5 (by omega)
    go_wp2
    go_region_with (first | (go_at_call 145; refine (of_any _ _ (by omega) (by omega)).mono ?_; rintro e w8 ⟨rfl, hb8⟩; have BQ8 := hide (Box.below' hb8 (unhide BQ7).lt (unhide BQ7).at' (unhide BQ7).fz); have C8 := hide ((unhide C7).trans (undrew (hb8.mono (unhide C7).size))); clear hb8; have u0 := (unhide BQ8).at' 0 (by omega); have u1 := (unhide BQ8).at' 1 (by omega); have u2 := (unhide BQ8).at' 2 (by omega); have u3 := (unhide BQ8).at' 3 (by omega); have u4 := (unhide BQ8).at' 4 (by omega); have u5 := (unhide BQ8).at' 5 (by omega)) | (go_at_call 144; refine (plus_open q 1 (unhide XQ) _).mono ?_; rintro e w9 ⟨rfl, hb9⟩; have BQ9 := hide ((unhide BQ8).below hb9); have C9 := hide ((unhide C8).trans (hb9.mono (unhide C8).size)); clear hb9; have hst := (unhide BQ9).there))
    all_goals
      have BQ10 := hide ((unhide BQ9).put (q + 1))
      have C10 := hide (below_put6 (unhide C9) sz (q + 1))
      generalize put6 w9 w5.heap.size (q + 1) = W10 at *
      have f0 := (unhide BQ10).at' 0 (by omega)
      have f1 := (unhide BQ10).at' 1 (by omega)
      have f2 := (unhide BQ10).at' 2 (by omega)
      have f3 := (unhide BQ10).at' 3 (by omega)
      have f4 := (unhide BQ10).at' 4 (by omega)
      have f5 := (unhide BQ10).at' 5 (by omega)
      go_wp2_with (go_at_call 148; refine ((unhide ham) _).mono ?_; rintro e w11 ⟨rfl, hb11⟩; have HB11 := hide hb11; clear hb11)
      go_ret2
      exact ⟨rfl, (unhide C10).trans ((unhide HB11).mono (unhide C10).size)⟩
set_option maxHeartbeats 4000000 in
theorem rratio_away_f (a n d h : Int) (s t : Bool) (q r : Nat) (v : Int) (w : World) (hh0 : 0 ≤ h) (hh1 : h ≤ 5) (ha : -9223372036854775807 ≤ a) (hn : -9223372036854775807 ≤ n) (ha' : a ≤ 9223372036854775807) (hn' : n ≤ 9223372036854775807) (hd : 1 ≤ d) (hd' : d ≤ 9223372036854775807)
    (XA : Hid (a.natAbs < 4294967296 ^ 6)) (XB : Hid (n.natAbs < 4294967296 ^ 6)) (XM : Hid (a.natAbs * n.natAbs < 4294967296 ^ 6)) (XR : Hid (r < 4294967296 ^ 6)) (XQ : Hid (q + 1 < 4294967296 ^ 6))
    (hsa : decide (a < 0) = s) (hsb : decide (n < 0) = t) (o : Bool) (ho : (!(s == t)) = o) (hq : a.natAbs * n.natAbs / d.natAbs = q) (hr : a.natAbs * n.natAbs % d.natAbs = r) (hrz : Hid (r ≠ 0))
    (hup : Hid (∀ W, Calls Tryz.prog 242 #[.int .i64 h, .bool o, .agg #[.int .u64 (dg q 0), .int .u64 (dg q 1), .int .u64 (dg q 2), .int .u64 (dg q 3), .int .u64 (dg q 4), .int .u64 (dg q 5)], .agg #[.int .u64 (dg r 0), .int .u64 (dg r 1), .int .u64 (dg r 2), .int .u64 (dg r 3), .int .u64 (dg r 4), .int .u64 (dg r 5)], wv d.natAbs] W fun e w' => e = .returned (.bool true) ∧ Below W.heap.size W w'))
    (ham : Hid (∀ W, Calls Tryz.prog 148 #[wv (q + 1), .bool o] W fun e w' => e = .returned (.tuple #[.int .i64 v, .bool false]) ∧ Below W.heap.size W w')) :
    Calls Tryz.prog 195 #[.int .i64 a, .int .i64 n, .int .i64 d, .int .i64 h] w fun e w' => e = .returned (.tuple #[.int .i64 0, .int .i64 11]) ∧ Below w.heap.size w w' := by
  have hov := hide (fun W => over_open (a.natAbs * n.natAbs) d.natAbs (unhide XM) (by omega) (by omega) W)
  rw [hq, hr] at hov
  have hez := fun W => ne_zero r (unhide XR) (unhide hrz) W
  clear hq hr
  go_enter Tryz.func195, Tryz.ntmps195
  go_wp2_with (first | (go_at_call 143; refine (is_yes _ _ (by omega)).mono ?_; rintro e w' ⟨rfl, hw⟩; subst hw))
  refine (of_any _ _ (by omega) (by omega)).mono ?_
  rintro e w1 ⟨rfl, hb1⟩
  go_wp2_with fail
  refine (of_any _ _ (by omega) (by omega)).mono ?_
  rintro e w2 ⟨rfl, hb2⟩
  go_wp2_with fail
  refine (times_any a.natAbs n.natAbs (unhide XA) (unhide XB) (unhide XM) _).mono ?_
  rintro e w3 ⟨rfl, hb3⟩
  go_wp2_with fail
  refine (of_any _ _ (by omega) (by omega)).mono ?_
  rintro e w4 ⟨rfl, hb4⟩
  go_wp2_with fail
  refine ((unhide hov) _).mono ?_
  rintro e w5 ⟨rfl, hb5⟩
  have c2 := hb1.trans (hb2.mono hb1.size)
  have c3 := c2.trans (hb3.mono c2.size)
  have c4 := c3.trans (hb4.mono c3.size)
  have C5 := hide (c4.trans (hb5.mono c4.size))
  have BQ := hide ((Box.new w5 q).alloc (.cells #[.int .u64 (dg r 0), .int .u64 (dg r 1), .int .u64 (dg r 2), .int .u64 (dg r 3), .int .u64 (dg r 4), .int .u64 (dg r 5)] 202))
  have BR := hide (show Box ((w5.alloc (.cells #[.int .u64 (dg q 0), .int .u64 (dg q 1), .int .u64 (dg q 2), .int .u64 (dg q 3), .int .u64 (dg q 4), .int .u64 (dg q 5)] 202)).alloc (.cells #[.int .u64 (dg r 0), .int .u64 (dg r 1), .int .u64 (dg r 2), .int .u64 (dg r 3), .int .u64 (dg r 4), .int .u64 (dg r 5)] 202)) (w5.heap.size + 1) r from by have h := Box.new (w5.alloc (.cells #[.int .u64 (dg q 0), .int .u64 (dg q 1), .int .u64 (dg q 2), .int .u64 (dg q 3), .int .u64 (dg q 4), .int .u64 (dg q 5)] 202)) r; rw [World.size_alloc] at h; exact h)
  have C0 := hide (bal (bal (unhide C5) (.cells #[.int .u64 (dg q 0), .int .u64 (dg q 1), .int .u64 (dg q 2), .int .u64 (dg q 3), .int .u64 (dg q 4), .int .u64 (dg q 5)] 202)) (.cells #[.int .u64 (dg r 0), .int .u64 (dg r 1), .int .u64 (dg r 2), .int .u64 (dg r 3), .int .u64 (dg r 4), .int .u64 (dg r 5)] 202))
  have sz := (unhide C5).size
  clear hb1 hb2 hb3 hb4 hb5 c2 c3 c4 hov C5
  go_wp2_with fail
  generalize (w5.alloc (.cells #[.int .u64 (dg q 0), .int .u64 (dg q 1), .int .u64 (dg q 2), .int .u64 (dg q 3), .int .u64 (dg q 4), .int .u64 (dg q 5)] 202)).alloc (.cells #[.int .u64 (dg r 0), .int .u64 (dg r 1), .int .u64 (dg r 2), .int .u64 (dg r 3), .int .u64 (dg r 4), .int .u64 (dg r 5)] 202) = W0 at *
  have q0 := (unhide BQ).at' 0 (by omega)
  have r0 := (unhide BR).at' 0 (by omega)
  have q1 := (unhide BQ).at' 1 (by omega)
  have r1 := (unhide BR).at' 1 (by omega)
  have q2 := (unhide BQ).at' 2 (by omega)
  have r2 := (unhide BR).at' 2 (by omega)
  have q3 := (unhide BQ).at' 3 (by omega)
  have r3 := (unhide BR).at' 3 (by omega)
  have q4 := (unhide BQ).at' 4 (by omega)
  have r4 := (unhide BR).at' 4 (by omega)
  have q5 := (unhide BQ).at' 5 (by omega)
  have r5 := (unhide BR).at' 5 (by omega)
  go_region_held3 (fun w' => w'.cell? ⟨w5.heap.size, 0, none⟩ = some (.int .u64 (dg q 0)) ∧ w'.cell? ⟨w5.heap.size, 1, none⟩ = some (.int .u64 (dg q 1)) ∧ w'.cell? ⟨w5.heap.size, 2, none⟩ = some (.int .u64 (dg q 2)) ∧ w'.cell? ⟨w5.heap.size, 3, none⟩ = some (.int .u64 (dg q 3)) ∧ w'.cell? ⟨w5.heap.size, 4, none⟩ = some (.int .u64 (dg q 4)) ∧ w'.cell? ⟨w5.heap.size, 5, none⟩ = some (.int .u64 (dg q 5)) ∧ w'.cell? ⟨w5.heap.size + 1, 0, none⟩ = some (.int .u64 (dg r 0)) ∧ w'.cell? ⟨w5.heap.size + 1, 1, none⟩ = some (.int .u64 (dg r 1)) ∧ w'.cell? ⟨w5.heap.size + 1, 2, none⟩ = some (.int .u64 (dg r 2)) ∧ w'.cell? ⟨w5.heap.size + 1, 3, none⟩ = some (.int .u64 (dg r 3)) ∧ w'.cell? ⟨w5.heap.size + 1, 4, none⟩ = some (.int .u64 (dg r 4)) ∧ w'.cell? ⟨w5.heap.size + 1, 5, none⟩ = some (.int .u64 (dg r 5))) (first | (refine ⟨?_, ?_, ?_, ?_, ?_, ?_, ?_, ?_, ?_, ?_, ?_, ?_⟩ <;> with_reducible assumption) | go_keep) (first | (go_at_call 145; refine (of_any _ _ (by omega) (by omega)).mono ?_; rintro e w6 ⟨rfl, hb6⟩; have BQ6 := hide (Box.below' hb6 (unhide BQ).lt (unhide BQ).at' (unhide BQ).fz); have BR6 := hide (Box.below' hb6 (unhide BR).lt (unhide BR).at' (unhide BR).fz); have C6 := hide ((unhide C0).trans (undrew (hb6.mono (unhide C0).size))); clear hb6; have x0 := (unhide BQ6).at' 0 (by omega); have y0 := (unhide BR6).at' 0 (by omega); have x1 := (unhide BQ6).at' 1 (by omega); have y1 := (unhide BR6).at' 1 (by omega); have x2 := (unhide BQ6).at' 2 (by omega); have y2 := (unhide BR6).at' 2 (by omega); have x3 := (unhide BQ6).at' 3 (by omega); have y3 := (unhide BR6).at' 3 (by omega); have x4 := (unhide BQ6).at' 4 (by omega); have y4 := (unhide BR6).at' 4 (by omega); have x5 := (unhide BQ6).at' 5 (by omega); have y5 := (unhide BR6).at' 5 (by omega)) | (go_at_call 242; refine ((unhide hup) _).mono ?_; rintro e w7 ⟨rfl, hb7⟩; have BQ7 := hide ((unhide BQ6).below hb7); have C7 := hide ((unhide C6).trans (hb7.mono (unhide C6).size)); have BR7 := hide ((unhide BR6).below hb7); have p0 := (unhide BQ7).at' 0 (by omega); have e0 := (unhide BR7).at' 0 (by omega); have p1 := (unhide BQ7).at' 1 (by omega); have e1 := (unhide BR7).at' 1 (by omega); have p2 := (unhide BQ7).at' 2 (by omega); have e2 := (unhide BR7).at' 2 (by omega); have p3 := (unhide BQ7).at' 3 (by omega); have e3 := (unhide BR7).at' 3 (by omega); have p4 := (unhide BQ7).at' 4 (by omega); have e4 := (unhide BR7).at' 4 (by omega); have p5 := (unhide BQ7).at' 5 (by omega); have e5 := (unhide BR7).at' 5 (by omega); clear hb7))
  all_goals
    have z0 := (unhide BQ7).at' 0 (by omega)
    have z1 := (unhide BQ7).at' 1 (by omega)
    have z2 := (unhide BQ7).at' 2 (by omega)
    have z3 := (unhide BQ7).at' 3 (by omega)
    have z4 := (unhide BQ7).at' 4 (by omega)
    have z5 := (unhide BQ7).at' 5 (by omega)
    go_wp2
    go_region_with (first | (go_at_call 145; refine (of_any _ _ (by omega) (by omega)).mono ?_; rintro e w8 ⟨rfl, hb8⟩; have BQ8 := hide (Box.below' hb8 (unhide BQ7).lt (unhide BQ7).at' (unhide BQ7).fz); have C8 := hide ((unhide C7).trans (undrew (hb8.mono (unhide C7).size))); clear hb8; have u0 := (unhide BQ8).at' 0 (by omega); have u1 := (unhide BQ8).at' 1 (by omega); have u2 := (unhide BQ8).at' 2 (by omega); have u3 := (unhide BQ8).at' 3 (by omega); have u4 := (unhide BQ8).at' 4 (by omega); have u5 := (unhide BQ8).at' 5 (by omega)) | (go_at_call 144; refine (plus_open q 1 (unhide XQ) _).mono ?_; rintro e w9 ⟨rfl, hb9⟩; have BQ9 := hide ((unhide BQ8).below hb9); have C9 := hide ((unhide C8).trans (hb9.mono (unhide C8).size)); clear hb9; have hst := (unhide BQ9).there))
    all_goals
      have BQ10 := hide ((unhide BQ9).put (q + 1))
      have C10 := hide (below_put6 (unhide C9) sz (q + 1))
      generalize put6 w9 w5.heap.size (q + 1) = W10 at *
      have f0 := (unhide BQ10).at' 0 (by omega)
      have f1 := (unhide BQ10).at' 1 (by omega)
      have f2 := (unhide BQ10).at' 2 (by omega)
      have f3 := (unhide BQ10).at' 3 (by omega)
      have f4 := (unhide BQ10).at' 4 (by omega)
      have f5 := (unhide BQ10).at' 5 (by omega)
      go_wp2_with (go_at_call 148; refine ((unhide ham) _).mono ?_; rintro e w11 ⟨rfl, hb11⟩; have HB11 := hide hb11; clear hb11)
      go_ret2
      exact ⟨rfl, (unhide C10).trans ((unhide HB11).mono (unhide C10).size)⟩
end Go.Proofs.YtcafhmlpmbkhkaaGreatDoor.Mw
