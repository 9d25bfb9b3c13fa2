import Derived.Test.YtddpladmkmpoaabDoorParB
namespace Go.Proofs.YtddpladmkmpoaabDoor
open Go.ChangeShapes Go.WideShapes Go.ChangeAt Go.RowKit
set_option linter.unusedVariables false
set_option maxRecDepth 100000 in
set_option maxHeartbeats 1000000 in
theorem mparse_tt (L U W B : List UInt8) (mn pt : Bool) (D : Nat) (w : World) (hD : D ≤ 6) (hL : L.length ≤ 40)
    (c1 : ∀ w, Calls Tryd.prog 35 #[.string ⟨L.toArray⟩, .string ⟨#[45]⟩] w fun e w' => e = .returned (.tuple #[.string ⟨U.toArray⟩, .bool mn]) ∧ w' = w)
    (c2 : Calls Tryd.prog 36 #[.string ⟨U.toArray⟩, .string ⟨#[46]⟩] w fun e w' => e = .returned (.tuple #[.string ⟨W.toArray⟩, .string ⟨B.toArray⟩, .bool pt]) ∧ ∃ n, w' = w.drewN n)
    (hW : W.length ≤ 40) (hB : B.length ≤ 40) (hd : allD W = true) (hp : pt = true) (hm : mn = true) (he : allD B = true) (hlen : B.length ≤ D) (R : List UInt8) (hR : R = List.replicate (D - B.length) 48) (v : Nat) (hv : v < 9223372036854775808) (c5 : ∀ W', Below w.heap.size w W' → Calls Tryd.prog 39 #[.string (⟨W.toArray⟩ ++ ⟨B.toArray⟩ ++ ⟨R.toArray⟩), .int .i64 10, .int .i64 64] W' fun e w' => e = .returned (.tuple #[.int .i64 v, .nilIface]) ∧ Below W'.heap.size W' w') : Calls Tryd.prog 16 #[.string ⟨L.toArray⟩, .int .i64 D] w fun e w' => e = .returned (.tuple #[.int .i64 (-(v : Int)), .int .i64 0]) ∧ Below w.heap.size w w' := by
  have hz := sizeL L
  have hzB := sizeL B
  have hzW := sizeL W
  have hI : ¬ (40 : Int) < (L.length : Int) := by omega
  have C1 := hide c1
  have C2 := hide c2
  have C3 := hide (fun w => alld_any W w hW)
  have C4 := hide (fun w => alld_any B w hB)
  rw [hd] at C3
  rw [he] at C4
  subst hp
  subst hm
  have hJ : ¬ (D : Int) < (B.length : Int) := by omega
  have C5 := hide c5
  have C6 := hide (fun w => rep_at ((D : Int) - (B.length : Int)) (D - B.length) R hR (by omega) (by omega) w)
  have hRl : R.length ≤ 6 := by rw [hR, List.length_replicate]; omega
  have hzR := sizeL R
  clear hR c5
  have hv' : (v : Int) ≤ 9223372036854775807 := by omega
  clear c1 c2
  go_enter Tryd.func16, Tryd.ntmps16
  go_wp2_with fail
  refine (goodYes _ _ (by omega) (by omega)).mono ?_
  rintro e w0 ⟨rfl, hw⟩
  rw [hw]
  clear hw w0
  go_wp2_with fail
  refine (unhide C1 _).mono ?_
  rintro e w0 ⟨rfl, hw⟩
  rw [hw]
  clear hw w0
  go_wp2_with fail
  refine (unhide C2).mono ?_
  rintro e w0 ⟨rfl, n, hw⟩
  rw [hw]
  clear hw w0
  go_wp2_with fail
  refine (unhide C3 _).mono ?_
  rintro e w0 ⟨rfl, hw⟩
  rw [hw]
  clear hw w0
  go_wp2_with fail
  refine (unhide C4 _).mono ?_
  rintro e w0 ⟨rfl, hw⟩
  rw [hw]
  clear hw w0
  go_wp2_with fail
  refine (unhide C6 _).mono ?_
  rintro e w1 ⟨rfl, hb1⟩
  have B1 := hide ((below_drewN (Below.refl w.heap.size w) n).trans (hb1.mono (below_drewN (Below.refl w.heap.size w) n).size))
  clear hb1
  go_wp2_with fail
  refine (unhide C5 _ (unhide B1)).mono ?_
  rintro e w2 ⟨rfl, hb2⟩
  go_wp2
  go_ret2
  exact ⟨rfl, (unhide B1).trans (hb2.mono (unhide B1).size)⟩
set_option maxRecDepth 100000 in
set_option maxHeartbeats 1000000 in
theorem mparse_tf (L U W B : List UInt8) (mn pt : Bool) (D : Nat) (w : World) (hD : D ≤ 6) (hL : L.length ≤ 40)
    (c1 : ∀ w, Calls Tryd.prog 35 #[.string ⟨L.toArray⟩, .string ⟨#[45]⟩] w fun e w' => e = .returned (.tuple #[.string ⟨U.toArray⟩, .bool mn]) ∧ w' = w)
    (c2 : Calls Tryd.prog 36 #[.string ⟨U.toArray⟩, .string ⟨#[46]⟩] w fun e w' => e = .returned (.tuple #[.string ⟨W.toArray⟩, .string ⟨B.toArray⟩, .bool pt]) ∧ ∃ n, w' = w.drewN n)
    (hW : W.length ≤ 40) (hB : B.length ≤ 40) (hd : allD W = true) (hp : pt = true) (hm : mn = false) (he : allD B = true) (hlen : B.length ≤ D) (R : List UInt8) (hR : R = List.replicate (D - B.length) 48) (v : Nat) (hv : v < 9223372036854775808) (c5 : ∀ W', Below w.heap.size w W' → Calls Tryd.prog 39 #[.string (⟨W.toArray⟩ ++ ⟨B.toArray⟩ ++ ⟨R.toArray⟩), .int .i64 10, .int .i64 64] W' fun e w' => e = .returned (.tuple #[.int .i64 v, .nilIface]) ∧ Below W'.heap.size W' w') : Calls Tryd.prog 16 #[.string ⟨L.toArray⟩, .int .i64 D] w fun e w' => e = .returned (.tuple #[.int .i64 (v), .int .i64 0]) ∧ Below w.heap.size w w' := by
  have hz := sizeL L
  have hzB := sizeL B
  have hzW := sizeL W
  have hI : ¬ (40 : Int) < (L.length : Int) := by omega
  have C1 := hide c1
  have C2 := hide c2
  have C3 := hide (fun w => alld_any W w hW)
  have C4 := hide (fun w => alld_any B w hB)
  rw [hd] at C3
  rw [he] at C4
  subst hp
  subst hm
  have hJ : ¬ (D : Int) < (B.length : Int) := by omega
  have C5 := hide c5
  have C6 := hide (fun w => rep_at ((D : Int) - (B.length : Int)) (D - B.length) R hR (by omega) (by omega) w)
  have hRl : R.length ≤ 6 := by rw [hR, List.length_replicate]; omega
  have hzR := sizeL R
  clear hR c5
  have hv' : (v : Int) ≤ 9223372036854775807 := by omega
  clear c1 c2
  go_enter Tryd.func16, Tryd.ntmps16
  go_wp2_with fail
  refine (goodYes _ _ (by omega) (by omega)).mono ?_
  rintro e w0 ⟨rfl, hw⟩
  rw [hw]
  clear hw w0
  go_wp2_with fail
  refine (unhide C1 _).mono ?_
  rintro e w0 ⟨rfl, hw⟩
  rw [hw]
  clear hw w0
  go_wp2_with fail
  refine (unhide C2).mono ?_
  rintro e w0 ⟨rfl, n, hw⟩
  rw [hw]
  clear hw w0
  go_wp2_with fail
  refine (unhide C3 _).mono ?_
  rintro e w0 ⟨rfl, hw⟩
  rw [hw]
  clear hw w0
  go_wp2_with fail
  refine (unhide C4 _).mono ?_
  rintro e w0 ⟨rfl, hw⟩
  rw [hw]
  clear hw w0
  go_wp2_with fail
  refine (unhide C6 _).mono ?_
  rintro e w1 ⟨rfl, hb1⟩
  have B1 := hide ((below_drewN (Below.refl w.heap.size w) n).trans (hb1.mono (below_drewN (Below.refl w.heap.size w) n).size))
  clear hb1
  go_wp2_with fail
  refine (unhide C5 _ (unhide B1)).mono ?_
  rintro e w2 ⟨rfl, hb2⟩
  go_wp2
  go_ret2
  exact ⟨rfl, (unhide B1).trans (hb2.mono (unhide B1).size)⟩
set_option maxRecDepth 100000 in
set_option maxHeartbeats 1000000 in
theorem mparse_ft (L U W B : List UInt8) (mn pt : Bool) (D : Nat) (w : World) (hD : D ≤ 6) (hL : L.length ≤ 40)
    (c1 : ∀ w, Calls Tryd.prog 35 #[.string ⟨L.toArray⟩, .string ⟨#[45]⟩] w fun e w' => e = .returned (.tuple #[.string ⟨U.toArray⟩, .bool mn]) ∧ w' = w)
    (c2 : Calls Tryd.prog 36 #[.string ⟨U.toArray⟩, .string ⟨#[46]⟩] w fun e w' => e = .returned (.tuple #[.string ⟨W.toArray⟩, .string ⟨B.toArray⟩, .bool pt]) ∧ ∃ n, w' = w.drewN n)
    (hW : W.length ≤ 40) (hB : B.length ≤ 40) (hd : allD W = true) (hp : pt = false) (hm : mn = true) (hlen : B.length ≤ D) (R : List UInt8) (hR : R = List.replicate (D - B.length) 48) (v : Nat) (hv : v < 9223372036854775808) (c5 : ∀ W', Below w.heap.size w W' → Calls Tryd.prog 39 #[.string (⟨W.toArray⟩ ++ ⟨B.toArray⟩ ++ ⟨R.toArray⟩), .int .i64 10, .int .i64 64] W' fun e w' => e = .returned (.tuple #[.int .i64 v, .nilIface]) ∧ Below W'.heap.size W' w') : Calls Tryd.prog 16 #[.string ⟨L.toArray⟩, .int .i64 D] w fun e w' => e = .returned (.tuple #[.int .i64 (-(v : Int)), .int .i64 0]) ∧ Below w.heap.size w w' := by
  have hz := sizeL L
  have hzB := sizeL B
  have hzW := sizeL W
  have hI : ¬ (40 : Int) < (L.length : Int) := by omega
  have C1 := hide c1
  have C2 := hide c2
  have C3 := hide (fun w => alld_any W w hW)
  have C4 := hide (fun w => alld_any B w hB)
  rw [hd] at C3
  subst hp
  subst hm
  have hJ : ¬ (D : Int) < (B.length : Int) := by omega
  have C5 := hide c5
  have C6 := hide (fun w => rep_at ((D : Int) - (B.length : Int)) (D - B.length) R hR (by omega) (by omega) w)
  have hRl : R.length ≤ 6 := by rw [hR, List.length_replicate]; omega
  have hzR := sizeL R
  clear hR c5
  have hv' : (v : Int) ≤ 9223372036854775807 := by omega
  clear c1 c2
  go_enter Tryd.func16, Tryd.ntmps16
  go_wp2_with fail
  refine (goodYes _ _ (by omega) (by omega)).mono ?_
  rintro e w0 ⟨rfl, hw⟩
  rw [hw]
  clear hw w0
  go_wp2_with fail
  refine (unhide C1 _).mono ?_
  rintro e w0 ⟨rfl, hw⟩
  rw [hw]
  clear hw w0
  go_wp2_with fail
  refine (unhide C2).mono ?_
  rintro e w0 ⟨rfl, n, hw⟩
  rw [hw]
  clear hw w0
  go_wp2_with fail
  refine (unhide C3 _).mono ?_
  rintro e w0 ⟨rfl, hw⟩
  rw [hw]
  clear hw w0
  go_wp2_with fail
  refine (unhide C6 _).mono ?_
  rintro e w1 ⟨rfl, hb1⟩
  have B1 := hide ((below_drewN (Below.refl w.heap.size w) n).trans (hb1.mono (below_drewN (Below.refl w.heap.size w) n).size))
  clear hb1
  go_wp2_with fail
  refine (unhide C5 _ (unhide B1)).mono ?_
  rintro e w2 ⟨rfl, hb2⟩
  go_wp2
  go_ret2
  exact ⟨rfl, (unhide B1).trans (hb2.mono (unhide B1).size)⟩
set_option maxRecDepth 100000 in
set_option maxHeartbeats 1000000 in
theorem mparse_ff (L U W B : List UInt8) (mn pt : Bool) (D : Nat) (w : World) (hD : D ≤ 6) (hL : L.length ≤ 40)
    (c1 : ∀ w, Calls Tryd.prog 35 #[.string ⟨L.toArray⟩, .string ⟨#[45]⟩] w fun e w' => e = .returned (.tuple #[.string ⟨U.toArray⟩, .bool mn]) ∧ w' = w)
    (c2 : Calls Tryd.prog 36 #[.string ⟨U.toArray⟩, .string ⟨#[46]⟩] w fun e w' => e = .returned (.tuple #[.string ⟨W.toArray⟩, .string ⟨B.toArray⟩, .bool pt]) ∧ ∃ n, w' = w.drewN n)
    (hW : W.length ≤ 40) (hB : B.length ≤ 40) (hd : allD W = true) (hp : pt = false) (hm : mn = false) (hlen : B.length ≤ D) (R : List UInt8) (hR : R = List.replicate (D - B.length) 48) (v : Nat) (hv : v < 9223372036854775808) (c5 : ∀ W', Below w.heap.size w W' → Calls Tryd.prog 39 #[.string (⟨W.toArray⟩ ++ ⟨B.toArray⟩ ++ ⟨R.toArray⟩), .int .i64 10, .int .i64 64] W' fun e w' => e = .returned (.tuple #[.int .i64 v, .nilIface]) ∧ Below W'.heap.size W' w') : Calls Tryd.prog 16 #[.string ⟨L.toArray⟩, .int .i64 D] w fun e w' => e = .returned (.tuple #[.int .i64 (v), .int .i64 0]) ∧ Below w.heap.size w w' := by
  have hz := sizeL L
  have hzB := sizeL B
  have hzW := sizeL W
  have hI : ¬ (40 : Int) < (L.length : Int) := by omega
  have C1 := hide c1
  have C2 := hide c2
  have C3 := hide (fun w => alld_any W w hW)
  have C4 := hide (fun w => alld_any B w hB)
  rw [hd] at C3
  subst hp
  subst hm
  have hJ : ¬ (D : Int) < (B.length : Int) := by omega
  have C5 := hide c5
  have C6 := hide (fun w => rep_at ((D : Int) - (B.length : Int)) (D - B.length) R hR (by omega) (by omega) w)
  have hRl : R.length ≤ 6 := by rw [hR, List.length_replicate]; omega
  have hzR := sizeL R
  clear hR c5
  have hv' : (v : Int) ≤ 9223372036854775807 := by omega
  clear c1 c2
  go_enter Tryd.func16, Tryd.ntmps16
  go_wp2_with fail
  refine (goodYes _ _ (by omega) (by omega)).mono ?_
  rintro e w0 ⟨rfl, hw⟩
  rw [hw]
  clear hw w0
  go_wp2_with fail
  refine (unhide C1 _).mono ?_
  rintro e w0 ⟨rfl, hw⟩
  rw [hw]
  clear hw w0
  go_wp2_with fail
  refine (unhide C2).mono ?_
  rintro e w0 ⟨rfl, n, hw⟩
  rw [hw]
  clear hw w0
  go_wp2_with fail
  refine (unhide C3 _).mono ?_
  rintro e w0 ⟨rfl, hw⟩
  rw [hw]
  clear hw w0
  go_wp2_with fail
  refine (unhide C6 _).mono ?_
  rintro e w1 ⟨rfl, hb1⟩
  have B1 := hide ((below_drewN (Below.refl w.heap.size w) n).trans (hb1.mono (below_drewN (Below.refl w.heap.size w) n).size))
  clear hb1
  go_wp2_with fail
  refine (unhide C5 _ (unhide B1)).mono ?_
  rintro e w2 ⟨rfl, hb2⟩
  go_wp2
  go_ret2
  exact ⟨rfl, (unhide B1).trans (hb2.mono (unhide B1).size)⟩
set_option maxRecDepth 100000 in
set_option maxHeartbeats 1000000 in
theorem mparse_ott (L U W B : List UInt8) (mn pt : Bool) (D : Nat) (w : World) (hD : D ≤ 6) (hL : L.length ≤ 40)
    (c1 : ∀ w, Calls Tryd.prog 35 #[.string ⟨L.toArray⟩, .string ⟨#[45]⟩] w fun e w' => e = .returned (.tuple #[.string ⟨U.toArray⟩, .bool mn]) ∧ w' = w)
    (c2 : Calls Tryd.prog 36 #[.string ⟨U.toArray⟩, .string ⟨#[46]⟩] w fun e w' => e = .returned (.tuple #[.string ⟨W.toArray⟩, .string ⟨B.toArray⟩, .bool pt]) ∧ ∃ n, w' = w.drewN n)
    (hW : W.length ≤ 40) (hB : B.length ≤ 40) (hd : allD W = true) (hp : pt = true) (hm : mn = true) (he : allD B = true) (hlen : B.length ≤ D) (R : List UInt8) (hR : R = List.replicate (D - B.length) 48) (c5 : ∀ W', Below w.heap.size w W' → Calls Tryd.prog 39 #[.string (⟨W.toArray⟩ ++ ⟨B.toArray⟩ ++ ⟨R.toArray⟩), .int .i64 10, .int .i64 64] W' fun e w' => ∃ N z, e = .returned (.tuple #[.int .i64 z, .iface 109 (.pointer (some ⟨N, 0, none⟩))]) ∧ Below W'.heap.size W' w') : Calls Tryd.prog 16 #[.string ⟨L.toArray⟩, .int .i64 D] w fun e w' => e = .returned (.tuple #[.int .i64 0, .int .i64 11]) ∧ Below w.heap.size w w' := by
  have hz := sizeL L
  have hzB := sizeL B
  have hzW := sizeL W
  have hI : ¬ (40 : Int) < (L.length : Int) := by omega
  have C1 := hide c1
  have C2 := hide c2
  have C3 := hide (fun w => alld_any W w hW)
  have C4 := hide (fun w => alld_any B w hB)
  rw [hd] at C3
  rw [he] at C4
  subst hp
  subst hm
  have hJ : ¬ (D : Int) < (B.length : Int) := by omega
  have C5 := hide c5
  have C6 := hide (fun w => rep_at ((D : Int) - (B.length : Int)) (D - B.length) R hR (by omega) (by omega) w)
  have hRl : R.length ≤ 6 := by rw [hR, List.length_replicate]; omega
  have hzR := sizeL R
  clear hR c5
  clear c1 c2
  go_enter Tryd.func16, Tryd.ntmps16
  go_wp2_with fail
  refine (goodYes _ _ (by omega) (by omega)).mono ?_
  rintro e w0 ⟨rfl, hw⟩
  rw [hw]
  clear hw w0
  go_wp2_with fail
  refine (unhide C1 _).mono ?_
  rintro e w0 ⟨rfl, hw⟩
  rw [hw]
  clear hw w0
  go_wp2_with fail
  refine (unhide C2).mono ?_
  rintro e w0 ⟨rfl, n, hw⟩
  rw [hw]
  clear hw w0
  go_wp2_with fail
  refine (unhide C3 _).mono ?_
  rintro e w0 ⟨rfl, hw⟩
  rw [hw]
  clear hw w0
  go_wp2_with fail
  refine (unhide C4 _).mono ?_
  rintro e w0 ⟨rfl, hw⟩
  rw [hw]
  clear hw w0
  go_wp2_with fail
  refine (unhide C6 _).mono ?_
  rintro e w1 ⟨rfl, hb1⟩
  have B1 := hide ((below_drewN (Below.refl w.heap.size w) n).trans (hb1.mono (below_drewN (Below.refl w.heap.size w) n).size))
  clear hb1
  go_wp2_with fail
  refine (unhide C5 _ (unhide B1)).mono ?_
  rintro e w2 ⟨N, z, rfl, hb2⟩
  go_wp2
  go_ret2
  exact ⟨rfl, (unhide B1).trans (hb2.mono (unhide B1).size)⟩
set_option maxRecDepth 100000 in
set_option maxHeartbeats 1000000 in
theorem mparse_otf (L U W B : List UInt8) (mn pt : Bool) (D : Nat) (w : World) (hD : D ≤ 6) (hL : L.length ≤ 40)
    (c1 : ∀ w, Calls Tryd.prog 35 #[.string ⟨L.toArray⟩, .string ⟨#[45]⟩] w fun e w' => e = .returned (.tuple #[.string ⟨U.toArray⟩, .bool mn]) ∧ w' = w)
    (c2 : Calls Tryd.prog 36 #[.string ⟨U.toArray⟩, .string ⟨#[46]⟩] w fun e w' => e = .returned (.tuple #[.string ⟨W.toArray⟩, .string ⟨B.toArray⟩, .bool pt]) ∧ ∃ n, w' = w.drewN n)
    (hW : W.length ≤ 40) (hB : B.length ≤ 40) (hd : allD W = true) (hp : pt = true) (hm : mn = false) (he : allD B = true) (hlen : B.length ≤ D) (R : List UInt8) (hR : R = List.replicate (D - B.length) 48) (c5 : ∀ W', Below w.heap.size w W' → Calls Tryd.prog 39 #[.string (⟨W.toArray⟩ ++ ⟨B.toArray⟩ ++ ⟨R.toArray⟩), .int .i64 10, .int .i64 64] W' fun e w' => ∃ N z, e = .returned (.tuple #[.int .i64 z, .iface 109 (.pointer (some ⟨N, 0, none⟩))]) ∧ Below W'.heap.size W' w') : Calls Tryd.prog 16 #[.string ⟨L.toArray⟩, .int .i64 D] w fun e w' => e = .returned (.tuple #[.int .i64 0, .int .i64 11]) ∧ Below w.heap.size w w' := by
  have hz := sizeL L
  have hzB := sizeL B
  have hzW := sizeL W
  have hI : ¬ (40 : Int) < (L.length : Int) := by omega
  have C1 := hide c1
  have C2 := hide c2
  have C3 := hide (fun w => alld_any W w hW)
  have C4 := hide (fun w => alld_any B w hB)
  rw [hd] at C3
  rw [he] at C4
  subst hp
  subst hm
  have hJ : ¬ (D : Int) < (B.length : Int) := by omega
  have C5 := hide c5
  have C6 := hide (fun w => rep_at ((D : Int) - (B.length : Int)) (D - B.length) R hR (by omega) (by omega) w)
  have hRl : R.length ≤ 6 := by rw [hR, List.length_replicate]; omega
  have hzR := sizeL R
  clear hR c5
  clear c1 c2
  go_enter Tryd.func16, Tryd.ntmps16
  go_wp2_with fail
  refine (goodYes _ _ (by omega) (by omega)).mono ?_
  rintro e w0 ⟨rfl, hw⟩
  rw [hw]
  clear hw w0
  go_wp2_with fail
  refine (unhide C1 _).mono ?_
  rintro e w0 ⟨rfl, hw⟩
  rw [hw]
  clear hw w0
  go_wp2_with fail
  refine (unhide C2).mono ?_
  rintro e w0 ⟨rfl, n, hw⟩
  rw [hw]
  clear hw w0
  go_wp2_with fail
  refine (unhide C3 _).mono ?_
  rintro e w0 ⟨rfl, hw⟩
  rw [hw]
  clear hw w0
  go_wp2_with fail
  refine (unhide C4 _).mono ?_
  rintro e w0 ⟨rfl, hw⟩
  rw [hw]
  clear hw w0
  go_wp2_with fail
  refine (unhide C6 _).mono ?_
  rintro e w1 ⟨rfl, hb1⟩
  have B1 := hide ((below_drewN (Below.refl w.heap.size w) n).trans (hb1.mono (below_drewN (Below.refl w.heap.size w) n).size))
  clear hb1
  go_wp2_with fail
  refine (unhide C5 _ (unhide B1)).mono ?_
  rintro e w2 ⟨N, z, rfl, hb2⟩
  go_wp2
  go_ret2
  exact ⟨rfl, (unhide B1).trans (hb2.mono (unhide B1).size)⟩
set_option maxRecDepth 100000 in
set_option maxHeartbeats 1000000 in
theorem mparse_oft (L U W B : List UInt8) (mn pt : Bool) (D : Nat) (w : World) (hD : D ≤ 6) (hL : L.length ≤ 40)
    (c1 : ∀ w, Calls Tryd.prog 35 #[.string ⟨L.toArray⟩, .string ⟨#[45]⟩] w fun e w' => e = .returned (.tuple #[.string ⟨U.toArray⟩, .bool mn]) ∧ w' = w)
    (c2 : Calls Tryd.prog 36 #[.string ⟨U.toArray⟩, .string ⟨#[46]⟩] w fun e w' => e = .returned (.tuple #[.string ⟨W.toArray⟩, .string ⟨B.toArray⟩, .bool pt]) ∧ ∃ n, w' = w.drewN n)
    (hW : W.length ≤ 40) (hB : B.length ≤ 40) (hd : allD W = true) (hp : pt = false) (hm : mn = true) (hlen : B.length ≤ D) (R : List UInt8) (hR : R = List.replicate (D - B.length) 48) (c5 : ∀ W', Below w.heap.size w W' → Calls Tryd.prog 39 #[.string (⟨W.toArray⟩ ++ ⟨B.toArray⟩ ++ ⟨R.toArray⟩), .int .i64 10, .int .i64 64] W' fun e w' => ∃ N z, e = .returned (.tuple #[.int .i64 z, .iface 109 (.pointer (some ⟨N, 0, none⟩))]) ∧ Below W'.heap.size W' w') : Calls Tryd.prog 16 #[.string ⟨L.toArray⟩, .int .i64 D] w fun e w' => e = .returned (.tuple #[.int .i64 0, .int .i64 11]) ∧ Below w.heap.size w w' := by
  have hz := sizeL L
  have hzB := sizeL B
  have hzW := sizeL W
  have hI : ¬ (40 : Int) < (L.length : Int) := by omega
  have C1 := hide c1
  have C2 := hide c2
  have C3 := hide (fun w => alld_any W w hW)
  have C4 := hide (fun w => alld_any B w hB)
  rw [hd] at C3
  subst hp
  subst hm
  have hJ : ¬ (D : Int) < (B.length : Int) := by omega
  have C5 := hide c5
  have C6 := hide (fun w => rep_at ((D : Int) - (B.length : Int)) (D - B.length) R hR (by omega) (by omega) w)
  have hRl : R.length ≤ 6 := by rw [hR, List.length_replicate]; omega
  have hzR := sizeL R
  clear hR c5
  clear c1 c2
  go_enter Tryd.func16, Tryd.ntmps16
  go_wp2_with fail
  refine (goodYes _ _ (by omega) (by omega)).mono ?_
  rintro e w0 ⟨rfl, hw⟩
  rw [hw]
  clear hw w0
  go_wp2_with fail
  refine (unhide C1 _).mono ?_
  rintro e w0 ⟨rfl, hw⟩
  rw [hw]
  clear hw w0
  go_wp2_with fail
  refine (unhide C2).mono ?_
  rintro e w0 ⟨rfl, n, hw⟩
  rw [hw]
  clear hw w0
  go_wp2_with fail
  refine (unhide C3 _).mono ?_
  rintro e w0 ⟨rfl, hw⟩
  rw [hw]
  clear hw w0
  go_wp2_with fail
  refine (unhide C6 _).mono ?_
  rintro e w1 ⟨rfl, hb1⟩
  have B1 := hide ((below_drewN (Below.refl w.heap.size w) n).trans (hb1.mono (below_drewN (Below.refl w.heap.size w) n).size))
  clear hb1
  go_wp2_with fail
  refine (unhide C5 _ (unhide B1)).mono ?_
  rintro e w2 ⟨N, z, rfl, hb2⟩
  go_wp2
  go_ret2
  exact ⟨rfl, (unhide B1).trans (hb2.mono (unhide B1).size)⟩
set_option maxRecDepth 100000 in
set_option maxHeartbeats 1000000 in
theorem mparse_off (L U W B : List UInt8) (mn pt : Bool) (D : Nat) (w : World) (hD : D ≤ 6) (hL : L.length ≤ 40)
    (c1 : ∀ w, Calls Tryd.prog 35 #[.string ⟨L.toArray⟩, .string ⟨#[45]⟩] w fun e w' => e = .returned (.tuple #[.string ⟨U.toArray⟩, .bool mn]) ∧ w' = w)
    (c2 : Calls Tryd.prog 36 #[.string ⟨U.toArray⟩, .string ⟨#[46]⟩] w fun e w' => e = .returned (.tuple #[.string ⟨W.toArray⟩, .string ⟨B.toArray⟩, .bool pt]) ∧ ∃ n, w' = w.drewN n)
    (hW : W.length ≤ 40) (hB : B.length ≤ 40) (hd : allD W = true) (hp : pt = false) (hm : mn = false) (hlen : B.length ≤ D) (R : List UInt8) (hR : R = List.replicate (D - B.length) 48) (c5 : ∀ W', Below w.heap.size w W' → Calls Tryd.prog 39 #[.string (⟨W.toArray⟩ ++ ⟨B.toArray⟩ ++ ⟨R.toArray⟩), .int .i64 10, .int .i64 64] W' fun e w' => ∃ N z, e = .returned (.tuple #[.int .i64 z, .iface 109 (.pointer (some ⟨N, 0, none⟩))]) ∧ Below W'.heap.size W' w') : Calls Tryd.prog 16 #[.string ⟨L.toArray⟩, .int .i64 D] w fun e w' => e = .returned (.tuple #[.int .i64 0, .int .i64 11]) ∧ Below w.heap.size w w' := by
  have hz := sizeL L
  have hzB := sizeL B
  have hzW := sizeL W
  have hI : ¬ (40 : Int) < (L.length : Int) := by omega
  have C1 := hide c1
  have C2 := hide c2
  have C3 := hide (fun w => alld_any W w hW)
  have C4 := hide (fun w => alld_any B w hB)
  rw [hd] at C3
  subst hp
  subst hm
  have hJ : ¬ (D : Int) < (B.length : Int) := by omega
  have C5 := hide c5
  have C6 := hide (fun w => rep_at ((D : Int) - (B.length : Int)) (D - B.length) R hR (by omega) (by omega) w)
  have hRl : R.length ≤ 6 := by rw [hR, List.length_replicate]; omega
  have hzR := sizeL R
  clear hR c5
  clear c1 c2
  go_enter Tryd.func16, Tryd.ntmps16
  go_wp2_with fail
  refine (goodYes _ _ (by omega) (by omega)).mono ?_
  rintro e w0 ⟨rfl, hw⟩
  rw [hw]
  clear hw w0
  go_wp2_with fail
  refine (unhide C1 _).mono ?_
  rintro e w0 ⟨rfl, hw⟩
  rw [hw]
  clear hw w0
  go_wp2_with fail
  refine (unhide C2).mono ?_
  rintro e w0 ⟨rfl, n, hw⟩
  rw [hw]
  clear hw w0
  go_wp2_with fail
  refine (unhide C3 _).mono ?_
  rintro e w0 ⟨rfl, hw⟩
  rw [hw]
  clear hw w0
  go_wp2_with fail
  refine (unhide C6 _).mono ?_
  rintro e w1 ⟨rfl, hb1⟩
  have B1 := hide ((below_drewN (Below.refl w.heap.size w) n).trans (hb1.mono (below_drewN (Below.refl w.heap.size w) n).size))
  clear hb1
  go_wp2_with fail
  refine (unhide C5 _ (unhide B1)).mono ?_
  rintro e w2 ⟨N, z, rfl, hb2⟩
  go_wp2
  go_ret2
  exact ⟨rfl, (unhide B1).trans (hb2.mono (unhide B1).size)⟩
end Go.Proofs.YtddpladmkmpoaabDoor
