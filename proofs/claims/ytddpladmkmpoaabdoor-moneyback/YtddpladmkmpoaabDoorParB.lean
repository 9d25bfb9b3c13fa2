import Derived.Test.YtddpladmkmpoaabDoorParA
namespace Go.Proofs.YtddpladmkmpoaabDoor
open Go.ChangeShapes Go.WideShapes Go.ChangeAt Go.RowKit
set_option linter.unusedVariables false
set_option maxHeartbeats 1000000 in
theorem mparse_arg (s : ByteArray) (d : Int) (w : World) (h : d < 0 ∨ 6 < d) : Calls Tryd.prog 16 #[.string s, .int .i64 d] w fun e w' => e = .returned (.tuple #[.int .i64 0, .int .i64 1]) ∧ w' = w := by
  go_enter Tryd.func16, Tryd.ntmps16
  go_wp2_with (go_at_call 34; refine (goodNo _ _ h).mono ?_; rintro e w' ⟨rfl, hw⟩; subst hw)
  go_ret2
  exact ⟨rfl, rfl⟩
set_option maxHeartbeats 1000000 in
theorem mparse_long (L : List UInt8) (D : Nat) (w : World) (hD : D ≤ 6) (hL : 40 < L.length) : Calls Tryd.prog 16 #[.string ⟨L.toArray⟩, .int .i64 D] w fun e w' => e = .returned (.tuple #[.int .i64 0, .int .i64 12]) ∧ w' = w := by
  have hz := sizeL L
  have hI : (40 : Int) < (L.length : Int) := by omega
  go_enter Tryd.func16, Tryd.ntmps16
  go_wp2_with (go_at_call 34; refine (goodYes _ _ (by omega) (by omega)).mono ?_; rintro e w' ⟨rfl, hw⟩; subst hw)
  go_ret2
  exact ⟨rfl, rfl⟩
set_option maxRecDepth 100000 in
set_option maxHeartbeats 1000000 in
theorem mparse_no1 (L U W B : List UInt8) (mn pt : Bool) (D : Nat) (w : World) (hD : D ≤ 6) (hL : L.length ≤ 40)
    (c1 : ∀ w, Calls Tryd.prog 35 #[.string ⟨L.toArray⟩, .string ⟨#[45]⟩] w fun e w' => e = .returned (.tuple #[.string ⟨U.toArray⟩, .bool mn]) ∧ w' = w)
    (c2 : Calls Tryd.prog 36 #[.string ⟨U.toArray⟩, .string ⟨#[46]⟩] w fun e w' => e = .returned (.tuple #[.string ⟨W.toArray⟩, .string ⟨B.toArray⟩, .bool pt]) ∧ ∃ n, w' = w.drewN n)
    (hW : W.length ≤ 40) (hB : B.length ≤ 40) (hd : allD W = false) : Calls Tryd.prog 16 #[.string ⟨L.toArray⟩, .int .i64 D] w fun e w' => e = .returned (.tuple #[.int .i64 0, .int .i64 12]) ∧ Below w.heap.size w w' := by
  have hz := sizeL L
  have hzB := sizeL B
  have hzW := sizeL W
  have hI : ¬ (40 : Int) < (L.length : Int) := by omega
  have C1 := hide c1
  have C2 := hide c2
  have C3 := hide (fun w => alld_any W w hW)
  have C4 := hide (fun w => alld_any B w hB)
  rw [hd] at C3
  clear c1 c2
  go_enter Tryd.func16, Tryd.ntmps16
  go_wp2_with fail
  refine (goodYes _ _ (by omega) (by omega)).mono ?_
  rintro e w0 ⟨rfl, hw⟩
  rw [hw]
  clear hw w0
  go_wp2_with fail
  refine (unhide C1 _).mono ?_
  rintro e w0 ⟨rfl, hw⟩
  rw [hw]
  clear hw w0
  go_wp2_with fail
  refine (unhide C2).mono ?_
  rintro e w0 ⟨rfl, n, hw⟩
  rw [hw]
  clear hw w0
  go_wp2_with fail
  refine (unhide C3 _).mono ?_
  rintro e w0 ⟨rfl, hw⟩
  rw [hw]
  clear hw w0
  go_wp2
  go_ret2
  exact ⟨rfl, below_drewN (Below.refl _ _) _⟩
set_option maxRecDepth 100000 in
set_option maxHeartbeats 1000000 in
theorem mparse_no2 (L U W B : List UInt8) (mn pt : Bool) (D : Nat) (w : World) (hD : D ≤ 6) (hL : L.length ≤ 40)
    (c1 : ∀ w, Calls Tryd.prog 35 #[.string ⟨L.toArray⟩, .string ⟨#[45]⟩] w fun e w' => e = .returned (.tuple #[.string ⟨U.toArray⟩, .bool mn]) ∧ w' = w)
    (c2 : Calls Tryd.prog 36 #[.string ⟨U.toArray⟩, .string ⟨#[46]⟩] w fun e w' => e = .returned (.tuple #[.string ⟨W.toArray⟩, .string ⟨B.toArray⟩, .bool pt]) ∧ ∃ n, w' = w.drewN n)
    (hW : W.length ≤ 40) (hB : B.length ≤ 40) (hd : allD W = true) (hp : pt = true) (he : allD B = false) : Calls Tryd.prog 16 #[.string ⟨L.toArray⟩, .int .i64 D] w fun e w' => e = .returned (.tuple #[.int .i64 0, .int .i64 12]) ∧ Below w.heap.size w w' := by
  have hz := sizeL L
  have hzB := sizeL B
  have hzW := sizeL W
  have hI : ¬ (40 : Int) < (L.length : Int) := by omega
  have C1 := hide c1
  have C2 := hide c2
  have C3 := hide (fun w => alld_any W w hW)
  have C4 := hide (fun w => alld_any B w hB)
  rw [hd] at C3
  rw [he] at C4
  subst hp
  clear c1 c2
  go_enter Tryd.func16, Tryd.ntmps16
  go_wp2_with fail
  refine (goodYes _ _ (by omega) (by omega)).mono ?_
  rintro e w0 ⟨rfl, hw⟩
  rw [hw]
  clear hw w0
  go_wp2_with fail
  refine (unhide C1 _).mono ?_
  rintro e w0 ⟨rfl, hw⟩
  rw [hw]
  clear hw w0
  go_wp2_with fail
  refine (unhide C2).mono ?_
  rintro e w0 ⟨rfl, n, hw⟩
  rw [hw]
  clear hw w0
  go_wp2_with fail
  refine (unhide C3 _).mono ?_
  rintro e w0 ⟨rfl, hw⟩
  rw [hw]
  clear hw w0
  go_wp2_with fail
  refine (unhide C4 _).mono ?_
  rintro e w0 ⟨rfl, hw⟩
  rw [hw]
  clear hw w0
  go_wp2
  go_ret2
  exact ⟨rfl, below_drewN (Below.refl _ _) _⟩
set_option maxRecDepth 100000 in
set_option maxHeartbeats 1000000 in
theorem mparse_no3 (L U W B : List UInt8) (mn pt : Bool) (D : Nat) (w : World) (hD : D ≤ 6) (hL : L.length ≤ 40)
    (c1 : ∀ w, Calls Tryd.prog 35 #[.string ⟨L.toArray⟩, .string ⟨#[45]⟩] w fun e w' => e = .returned (.tuple #[.string ⟨U.toArray⟩, .bool mn]) ∧ w' = w)
    (c2 : Calls Tryd.prog 36 #[.string ⟨U.toArray⟩, .string ⟨#[46]⟩] w fun e w' => e = .returned (.tuple #[.string ⟨W.toArray⟩, .string ⟨B.toArray⟩, .bool pt]) ∧ ∃ n, w' = w.drewN n)
    (hW : W.length ≤ 40) (hB : B.length ≤ 40) (hd : allD W = true) (hp : pt = true) (he : allD B = true) (hlen : D < B.length) : Calls Tryd.prog 16 #[.string ⟨L.toArray⟩, .int .i64 D] w fun e w' => e = .returned (.tuple #[.int .i64 0, .int .i64 12]) ∧ Below w.heap.size w w' := by
  have hz := sizeL L
  have hzB := sizeL B
  have hzW := sizeL W
  have hI : ¬ (40 : Int) < (L.length : Int) := by omega
  have C1 := hide c1
  have C2 := hide c2
  have C3 := hide (fun w => alld_any W w hW)
  have C4 := hide (fun w => alld_any B w hB)
  rw [hd] at C3
  rw [he] at C4
  subst hp
  have hJ : (D : Int) < (B.length : Int) := by omega
  clear c1 c2
  go_enter Tryd.func16, Tryd.ntmps16
  go_wp2_with fail
  refine (goodYes _ _ (by omega) (by omega)).mono ?_
  rintro e w0 ⟨rfl, hw⟩
  rw [hw]
  clear hw w0
  go_wp2_with fail
  refine (unhide C1 _).mono ?_
  rintro e w0 ⟨rfl, hw⟩
  rw [hw]
  clear hw w0
  go_wp2_with fail
  refine (unhide C2).mono ?_
  rintro e w0 ⟨rfl, n, hw⟩
  rw [hw]
  clear hw w0
  go_wp2_with fail
  refine (unhide C3 _).mono ?_
  rintro e w0 ⟨rfl, hw⟩
  rw [hw]
  clear hw w0
  go_wp2_with fail
  refine (unhide C4 _).mono ?_
  rintro e w0 ⟨rfl, hw⟩
  rw [hw]
  clear hw w0
  go_wp2
  go_ret2
  exact ⟨rfl, below_drewN (Below.refl _ _) _⟩
end Go.Proofs.YtddpladmkmpoaabDoor
