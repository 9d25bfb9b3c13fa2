import Derived.Test.YtddpladmkmpoaabDoorRatM
namespace Go.Proofs.YtddpladmkmpoaabDoor
open Go.ChangeShapes Go.WideShapes Go.ChangeAt Go.RowKit
set_option linter.unusedVariables false
theorem keep1 {W w1 : World} (hb : Below W.heap.size W w1) {b o : Nat} {v : Value} (h : b < W.heap.size) (hv : W.cell? ⟨b, o, none⟩ = some v) : w1.cell? ⟨b, o, none⟩ = some v := (hb.cell (p := ⟨b, o, none⟩) h).trans hv
theorem keepF {W w1 : World} (hb : Below W.heap.size W w1) {b o : Nat} {v : Bool} (h : b < W.heap.size) (hv : W.frozen? ⟨b, o, none⟩ = v) : w1.frozen? ⟨b, o, none⟩ = v := (hb.frozen (p := ⟨b, o, none⟩) h).trans hv
attribute [local go_sem] setCell_drewN alloc_drewN

set_option maxHeartbeats 2000000 in
theorem mratio0_t (a n d : Int) (q r D : Nat) (o : Bool) (v c : Int) (w : World) (ha : -9223372036854775807 ≤ a) (hn : -9223372036854775807 ≤ n) (ha' : a ≤ 9223372036854775807) (hn' : n ≤ 9223372036854775807) (hd : 1 ≤ d) (hd' : d ≤ 9223372036854775807) (hD : Hid (d = (D : Int))) (hq : q ≤ 9223372036854775807) (hr : r < D) (hD2 : D ≤ 9223372036854775807) (ho : Hid (opp a n = o)) (hst : Hid (stepB 0 o q r D = true))
    (hdv : Hid (∀ W, Calls Tryd.prog 30 #[.int .u64 (a.natAbs : Int), .int .u64 (n.natAbs : Int), .int .u64 d] W fun e w' => e = .returned (.tuple #[.agg #[.int .u64 q, .int .u64 r, .int .u64 D, .bool false], .int .i64 0]) ∧ Below W.heap.size W w'))
    (hsg : Hid (∀ W, Calls Tryd.prog 32 #[.int .u64 ((q + 1 : Nat) : Int), .bool o] W fun e w' => e = .returned (.tuple #[.int .i64 v, .int .i64 c]) ∧ w' = W)) :
    Calls Tryd.prog 13 #[.int .i64 a, .int .i64 n, .int .i64 d, .int .i64 0] w fun e w' => e = .returned (.tuple #[.int .i64 v, .int .i64 c]) ∧ Below w.heap.size w w' := by
  have hqi : (q : Int) ≤ 9223372036854775807 := by omega
  go_enter Tryd.func13, Tryd.ntmps13
  go_wp2_with fail
  refine (rnd0 _).mono ?_
  rintro e w1 ⟨rfl, hb1⟩
  go_wp2_with fail
  refine (both_yes _ _ _ (by omega) (by omega)).mono ?_
  rintro e w' ⟨rfl, hw⟩
  subst hw
  go_wp2_with fail
  refine (size_any _ _ (by omega) (by omega)).mono ?_
  rintro e w' ⟨rfl, hw⟩
  subst hw
  go_wp2_with fail
  refine (size_any _ _ (by omega) (by omega)).mono ?_
  rintro e w' ⟨rfl, hw⟩
  subst hw
  go_wp2_with fail
  refine ((unhide hdv) _).mono ?_
  rintro e w2 ⟨rfl, hb2⟩
  have C2 := hide (hb1.trans (hb2.mono hb1.size))
  clear hb1 hb2
  go_wp2_with fail
  refine (opp_any _ _ _).mono ?_
  rintro e w' ⟨rfl, hw⟩
  subst hw
  rw [unhide ho]
  go_wp2_with fail
  refine (meth0 q r D o _ hq hr hD2).mono ?_
  rintro e w3 ⟨rfl, hb3⟩
  rw [unhide hst]
  have c3 := bal (unhide C2) (.cells #[.int .u64 q, .int .u64 r, .int .u64 D, .bool o] 57)
  have C3 := hide (c3.trans (hb3.mono c3.size))
  have k0 : w3.cell? ⟨w2.heap.size, 0, none⟩ = some (.int .u64 q) := keep1 hb3 (by simp) (by simp)
  have k3 : w3.cell? ⟨w2.heap.size, 3, none⟩ = some (.bool o) := keep1 hb3 (by simp) (by simp)
  have z0 : w3.frozen? ⟨w2.heap.size, 0, none⟩ = false := keepF hb3 (by simp) (by simp)
  have sz := (unhide C2).size
  clear hb3 c3
  go_wp2_with (go_at_call 32; refine ((unhide hsg) _).mono ?_; rintro e w4 ⟨rfl, hw⟩; subst hw)
  go_ret2
  exact ⟨rfl, (unhide C3).setCell sz _⟩

set_option maxHeartbeats 2000000 in
theorem mratio0_f (a n d : Int) (q r D : Nat) (o : Bool) (v c : Int) (w : World) (ha : -9223372036854775807 ≤ a) (hn : -9223372036854775807 ≤ n) (ha' : a ≤ 9223372036854775807) (hn' : n ≤ 9223372036854775807) (hd : 1 ≤ d) (hd' : d ≤ 9223372036854775807) (hD : Hid (d = (D : Int))) (hq : q ≤ 9223372036854775807) (hr : r < D) (hD2 : D ≤ 9223372036854775807) (ho : Hid (opp a n = o)) (hst : Hid (stepB 0 o q r D = false))
    (hdv : Hid (∀ W, Calls Tryd.prog 30 #[.int .u64 (a.natAbs : Int), .int .u64 (n.natAbs : Int), .int .u64 d] W fun e w' => e = .returned (.tuple #[.agg #[.int .u64 q, .int .u64 r, .int .u64 D, .bool false], .int .i64 0]) ∧ Below W.heap.size W w'))
    (hsg : Hid (∀ W, Calls Tryd.prog 32 #[.int .u64 ((q : Nat) : Int), .bool o] W fun e w' => e = .returned (.tuple #[.int .i64 v, .int .i64 c]) ∧ w' = W)) :
    Calls Tryd.prog 13 #[.int .i64 a, .int .i64 n, .int .i64 d, .int .i64 0] w fun e w' => e = .returned (.tuple #[.int .i64 v, .int .i64 c]) ∧ Below w.heap.size w w' := by
  have hqi : (q : Int) ≤ 9223372036854775807 := by omega
  go_enter Tryd.func13, Tryd.ntmps13
  go_wp2_with fail
  refine (rnd0 _).mono ?_
  rintro e w1 ⟨rfl, hb1⟩
  go_wp2_with fail
  refine (both_yes _ _ _ (by omega) (by omega)).mono ?_
  rintro e w' ⟨rfl, hw⟩
  subst hw
  go_wp2_with fail
  refine (size_any _ _ (by omega) (by omega)).mono ?_
  rintro e w' ⟨rfl, hw⟩
  subst hw
  go_wp2_with fail
  refine (size_any _ _ (by omega) (by omega)).mono ?_
  rintro e w' ⟨rfl, hw⟩
  subst hw
  go_wp2_with fail
  refine ((unhide hdv) _).mono ?_
  rintro e w2 ⟨rfl, hb2⟩
  have C2 := hide (hb1.trans (hb2.mono hb1.size))
  clear hb1 hb2
  go_wp2_with fail
  refine (opp_any _ _ _).mono ?_
  rintro e w' ⟨rfl, hw⟩
  subst hw
  rw [unhide ho]
  go_wp2_with fail
  refine (meth0 q r D o _ hq hr hD2).mono ?_
  rintro e w3 ⟨rfl, hb3⟩
  rw [unhide hst]
  have c3 := bal (unhide C2) (.cells #[.int .u64 q, .int .u64 r, .int .u64 D, .bool o] 57)
  have C3 := hide (c3.trans (hb3.mono c3.size))
  have k0 : w3.cell? ⟨w2.heap.size, 0, none⟩ = some (.int .u64 q) := keep1 hb3 (by simp) (by simp)
  have k3 : w3.cell? ⟨w2.heap.size, 3, none⟩ = some (.bool o) := keep1 hb3 (by simp) (by simp)
  have z0 : w3.frozen? ⟨w2.heap.size, 0, none⟩ = false := keepF hb3 (by simp) (by simp)
  have sz := (unhide C2).size
  clear hb3 c3
  go_wp2_with (go_at_call 32; refine ((unhide hsg) _).mono ?_; rintro e w4 ⟨rfl, hw⟩; subst hw)
  go_ret2
  exact ⟨rfl, (unhide C3)⟩

set_option maxHeartbeats 2000000 in
theorem mratio1_t (a n d : Int) (q r D : Nat) (o : Bool) (v c : Int) (w : World) (ha : -9223372036854775807 ≤ a) (hn : -9223372036854775807 ≤ n) (ha' : a ≤ 9223372036854775807) (hn' : n ≤ 9223372036854775807) (hd : 1 ≤ d) (hd' : d ≤ 9223372036854775807) (hD : Hid (d = (D : Int))) (hq : q ≤ 9223372036854775807) (hr : r < D) (hD2 : D ≤ 9223372036854775807) (ho : Hid (opp a n = o)) (hst : Hid (stepB 1 o q r D = true))
    (hdv : Hid (∀ W, Calls Tryd.prog 30 #[.int .u64 (a.natAbs : Int), .int .u64 (n.natAbs : Int), .int .u64 d] W fun e w' => e = .returned (.tuple #[.agg #[.int .u64 q, .int .u64 r, .int .u64 D, .bool false], .int .i64 0]) ∧ Below W.heap.size W w'))
    (hsg : Hid (∀ W, Calls Tryd.prog 32 #[.int .u64 ((q + 1 : Nat) : Int), .bool o] W fun e w' => e = .returned (.tuple #[.int .i64 v, .int .i64 c]) ∧ w' = W)) :
    Calls Tryd.prog 13 #[.int .i64 a, .int .i64 n, .int .i64 d, .int .i64 1] w fun e w' => e = .returned (.tuple #[.int .i64 v, .int .i64 c]) ∧ Below w.heap.size w w' := by
  have hqi : (q : Int) ≤ 9223372036854775807 := by omega
  go_enter Tryd.func13, Tryd.ntmps13
  go_wp2_with fail
  refine (rnd1 _).mono ?_
  rintro e w1 ⟨rfl, hb1⟩
  go_wp2_with fail
  refine (both_yes _ _ _ (by omega) (by omega)).mono ?_
  rintro e w' ⟨rfl, hw⟩
  subst hw
  go_wp2_with fail
  refine (size_any _ _ (by omega) (by omega)).mono ?_
  rintro e w' ⟨rfl, hw⟩
  subst hw
  go_wp2_with fail
  refine (size_any _ _ (by omega) (by omega)).mono ?_
  rintro e w' ⟨rfl, hw⟩
  subst hw
  go_wp2_with fail
  refine ((unhide hdv) _).mono ?_
  rintro e w2 ⟨rfl, hb2⟩
  have C2 := hide (hb1.trans (hb2.mono hb1.size))
  clear hb1 hb2
  go_wp2_with fail
  refine (opp_any _ _ _).mono ?_
  rintro e w' ⟨rfl, hw⟩
  subst hw
  rw [unhide ho]
  go_wp2_with fail
  refine (meth1 q r D o _ hq hr hD2).mono ?_
  rintro e w3 ⟨rfl, hb3⟩
  rw [unhide hst]
  have c3 := bal (unhide C2) (.cells #[.int .u64 q, .int .u64 r, .int .u64 D, .bool o] 57)
  have C3 := hide (c3.trans (hb3.mono c3.size))
  have k0 : w3.cell? ⟨w2.heap.size, 0, none⟩ = some (.int .u64 q) := keep1 hb3 (by simp) (by simp)
  have k3 : w3.cell? ⟨w2.heap.size, 3, none⟩ = some (.bool o) := keep1 hb3 (by simp) (by simp)
  have z0 : w3.frozen? ⟨w2.heap.size, 0, none⟩ = false := keepF hb3 (by simp) (by simp)
  have sz := (unhide C2).size
  clear hb3 c3
  go_wp2_with (go_at_call 32; refine ((unhide hsg) _).mono ?_; rintro e w4 ⟨rfl, hw⟩; subst hw)
  go_ret2
  exact ⟨rfl, (unhide C3).setCell sz _⟩

set_option maxHeartbeats 2000000 in
theorem mratio1_f (a n d : Int) (q r D : Nat) (o : Bool) (v c : Int) (w : World) (ha : -9223372036854775807 ≤ a) (hn : -9223372036854775807 ≤ n) (ha' : a ≤ 9223372036854775807) (hn' : n ≤ 9223372036854775807) (hd : 1 ≤ d) (hd' : d ≤ 9223372036854775807) (hD : Hid (d = (D : Int))) (hq : q ≤ 9223372036854775807) (hr : r < D) (hD2 : D ≤ 9223372036854775807) (ho : Hid (opp a n = o)) (hst : Hid (stepB 1 o q r D = false))
    (hdv : Hid (∀ W, Calls Tryd.prog 30 #[.int .u64 (a.natAbs : Int), .int .u64 (n.natAbs : Int), .int .u64 d] W fun e w' => e = .returned (.tuple #[.agg #[.int .u64 q, .int .u64 r, .int .u64 D, .bool false], .int .i64 0]) ∧ Below W.heap.size W w'))
    (hsg : Hid (∀ W, Calls Tryd.prog 32 #[.int .u64 ((q : Nat) : Int), .bool o] W fun e w' => e = .returned (.tuple #[.int .i64 v, .int .i64 c]) ∧ w' = W)) :
    Calls Tryd.prog 13 #[.int .i64 a, .int .i64 n, .int .i64 d, .int .i64 1] w fun e w' => e = .returned (.tuple #[.int .i64 v, .int .i64 c]) ∧ Below w.heap.size w w' := by
  have hqi : (q : Int) ≤ 9223372036854775807 := by omega
  go_enter Tryd.func13, Tryd.ntmps13
  go_wp2_with fail
  refine (rnd1 _).mono ?_
  rintro e w1 ⟨rfl, hb1⟩
  go_wp2_with fail
  refine (both_yes _ _ _ (by omega) (by omega)).mono ?_
  rintro e w' ⟨rfl, hw⟩
  subst hw
  go_wp2_with fail
  refine (size_any _ _ (by omega) (by omega)).mono ?_
  rintro e w' ⟨rfl, hw⟩
  subst hw
  go_wp2_with fail
  refine (size_any _ _ (by omega) (by omega)).mono ?_
  rintro e w' ⟨rfl, hw⟩
  subst hw
  go_wp2_with fail
  refine ((unhide hdv) _).mono ?_
  rintro e w2 ⟨rfl, hb2⟩
  have C2 := hide (hb1.trans (hb2.mono hb1.size))
  clear hb1 hb2
  go_wp2_with fail
  refine (opp_any _ _ _).mono ?_
  rintro e w' ⟨rfl, hw⟩
  subst hw
  rw [unhide ho]
  go_wp2_with fail
  refine (meth1 q r D o _ hq hr hD2).mono ?_
  rintro e w3 ⟨rfl, hb3⟩
  rw [unhide hst]
  have c3 := bal (unhide C2) (.cells #[.int .u64 q, .int .u64 r, .int .u64 D, .bool o] 57)
  have C3 := hide (c3.trans (hb3.mono c3.size))
  have k0 : w3.cell? ⟨w2.heap.size, 0, none⟩ = some (.int .u64 q) := keep1 hb3 (by simp) (by simp)
  have k3 : w3.cell? ⟨w2.heap.size, 3, none⟩ = some (.bool o) := keep1 hb3 (by simp) (by simp)
  have z0 : w3.frozen? ⟨w2.heap.size, 0, none⟩ = false := keepF hb3 (by simp) (by simp)
  have sz := (unhide C2).size
  clear hb3 c3
  go_wp2_with (go_at_call 32; refine ((unhide hsg) _).mono ?_; rintro e w4 ⟨rfl, hw⟩; subst hw)
  go_ret2
  exact ⟨rfl, (unhide C3)⟩

set_option maxHeartbeats 2000000 in
theorem mratio2_t (a n d : Int) (q r D : Nat) (o : Bool) (v c : Int) (w : World) (ha : -9223372036854775807 ≤ a) (hn : -9223372036854775807 ≤ n) (ha' : a ≤ 9223372036854775807) (hn' : n ≤ 9223372036854775807) (hd : 1 ≤ d) (hd' : d ≤ 9223372036854775807) (hD : Hid (d = (D : Int))) (hq : q ≤ 9223372036854775807) (hr : r < D) (hD2 : D ≤ 9223372036854775807) (ho : Hid (opp a n = o)) (hst : Hid (stepB 2 o q r D = true))
    (hdv : Hid (∀ W, Calls Tryd.prog 30 #[.int .u64 (a.natAbs : Int), .int .u64 (n.natAbs : Int), .int .u64 d] W fun e w' => e = .returned (.tuple #[.agg #[.int .u64 q, .int .u64 r, .int .u64 D, .bool false], .int .i64 0]) ∧ Below W.heap.size W w'))
    (hsg : Hid (∀ W, Calls Tryd.prog 32 #[.int .u64 ((q + 1 : Nat) : Int), .bool o] W fun e w' => e = .returned (.tuple #[.int .i64 v, .int .i64 c]) ∧ w' = W)) :
    Calls Tryd.prog 13 #[.int .i64 a, .int .i64 n, .int .i64 d, .int .i64 2] w fun e w' => e = .returned (.tuple #[.int .i64 v, .int .i64 c]) ∧ Below w.heap.size w w' := by
  have hqi : (q : Int) ≤ 9223372036854775807 := by omega
  go_enter Tryd.func13, Tryd.ntmps13
  go_wp2_with fail
  refine (rnd2 _).mono ?_
  rintro e w1 ⟨rfl, hb1⟩
  go_wp2_with fail
  refine (both_yes _ _ _ (by omega) (by omega)).mono ?_
  rintro e w' ⟨rfl, hw⟩
  subst hw
  go_wp2_with fail
  refine (size_any _ _ (by omega) (by omega)).mono ?_
  rintro e w' ⟨rfl, hw⟩
  subst hw
  go_wp2_with fail
  refine (size_any _ _ (by omega) (by omega)).mono ?_
  rintro e w' ⟨rfl, hw⟩
  subst hw
  go_wp2_with fail
  refine ((unhide hdv) _).mono ?_
  rintro e w2 ⟨rfl, hb2⟩
  have C2 := hide (hb1.trans (hb2.mono hb1.size))
  clear hb1 hb2
  go_wp2_with fail
  refine (opp_any _ _ _).mono ?_
  rintro e w' ⟨rfl, hw⟩
  subst hw
  rw [unhide ho]
  go_wp2_with fail
  refine (meth2 q r D o _ hq hr hD2).mono ?_
  rintro e w3 ⟨rfl, hb3⟩
  rw [unhide hst]
  have c3 := bal (unhide C2) (.cells #[.int .u64 q, .int .u64 r, .int .u64 D, .bool o] 57)
  have C3 := hide (c3.trans (hb3.mono c3.size))
  have k0 : w3.cell? ⟨w2.heap.size, 0, none⟩ = some (.int .u64 q) := keep1 hb3 (by simp) (by simp)
  have k3 : w3.cell? ⟨w2.heap.size, 3, none⟩ = some (.bool o) := keep1 hb3 (by simp) (by simp)
  have z0 : w3.frozen? ⟨w2.heap.size, 0, none⟩ = false := keepF hb3 (by simp) (by simp)
  have sz := (unhide C2).size
  clear hb3 c3
  go_wp2_with (go_at_call 32; refine ((unhide hsg) _).mono ?_; rintro e w4 ⟨rfl, hw⟩; subst hw)
  go_ret2
  exact ⟨rfl, (unhide C3).setCell sz _⟩

set_option maxHeartbeats 2000000 in
theorem mratio2_f (a n d : Int) (q r D : Nat) (o : Bool) (v c : Int) (w : World) (ha : -9223372036854775807 ≤ a) (hn : -9223372036854775807 ≤ n) (ha' : a ≤ 9223372036854775807) (hn' : n ≤ 9223372036854775807) (hd : 1 ≤ d) (hd' : d ≤ 9223372036854775807) (hD : Hid (d = (D : Int))) (hq : q ≤ 9223372036854775807) (hr : r < D) (hD2 : D ≤ 9223372036854775807) (ho : Hid (opp a n = o)) (hst : Hid (stepB 2 o q r D = false))
    (hdv : Hid (∀ W, Calls Tryd.prog 30 #[.int .u64 (a.natAbs : Int), .int .u64 (n.natAbs : Int), .int .u64 d] W fun e w' => e = .returned (.tuple #[.agg #[.int .u64 q, .int .u64 r, .int .u64 D, .bool false], .int .i64 0]) ∧ Below W.heap.size W w'))
    (hsg : Hid (∀ W, Calls Tryd.prog 32 #[.int .u64 ((q : Nat) : Int), .bool o] W fun e w' => e = .returned (.tuple #[.int .i64 v, .int .i64 c]) ∧ w' = W)) :
    Calls Tryd.prog 13 #[.int .i64 a, .int .i64 n, .int .i64 d, .int .i64 2] w fun e w' => e = .returned (.tuple #[.int .i64 v, .int .i64 c]) ∧ Below w.heap.size w w' := by
  have hqi : (q : Int) ≤ 9223372036854775807 := by omega
  go_enter Tryd.func13, Tryd.ntmps13
  go_wp2_with fail
  refine (rnd2 _).mono ?_
  rintro e w1 ⟨rfl, hb1⟩
  go_wp2_with fail
  refine (both_yes _ _ _ (by omega) (by omega)).mono ?_
  rintro e w' ⟨rfl, hw⟩
  subst hw
  go_wp2_with fail
  refine (size_any _ _ (by omega) (by omega)).mono ?_
  rintro e w' ⟨rfl, hw⟩
  subst hw
  go_wp2_with fail
  refine (size_any _ _ (by omega) (by omega)).mono ?_
  rintro e w' ⟨rfl, hw⟩
  subst hw
  go_wp2_with fail
  refine ((unhide hdv) _).mono ?_
  rintro e w2 ⟨rfl, hb2⟩
  have C2 := hide (hb1.trans (hb2.mono hb1.size))
  clear hb1 hb2
  go_wp2_with fail
  refine (opp_any _ _ _).mono ?_
  rintro e w' ⟨rfl, hw⟩
  subst hw
  rw [unhide ho]
  go_wp2_with fail
  refine (meth2 q r D o _ hq hr hD2).mono ?_
  rintro e w3 ⟨rfl, hb3⟩
  rw [unhide hst]
  have c3 := bal (unhide C2) (.cells #[.int .u64 q, .int .u64 r, .int .u64 D, .bool o] 57)
  have C3 := hide (c3.trans (hb3.mono c3.size))
  have k0 : w3.cell? ⟨w2.heap.size, 0, none⟩ = some (.int .u64 q) := keep1 hb3 (by simp) (by simp)
  have k3 : w3.cell? ⟨w2.heap.size, 3, none⟩ = some (.bool o) := keep1 hb3 (by simp) (by simp)
  have z0 : w3.frozen? ⟨w2.heap.size, 0, none⟩ = false := keepF hb3 (by simp) (by simp)
  have sz := (unhide C2).size
  clear hb3 c3
  go_wp2_with (go_at_call 32; refine ((unhide hsg) _).mono ?_; rintro e w4 ⟨rfl, hw⟩; subst hw)
  go_ret2
  exact ⟨rfl, (unhide C3)⟩

set_option maxHeartbeats 2000000 in
theorem mratio3_t (a n d : Int) (q r D : Nat) (o : Bool) (v c : Int) (w : World) (ha : -9223372036854775807 ≤ a) (hn : -9223372036854775807 ≤ n) (ha' : a ≤ 9223372036854775807) (hn' : n ≤ 9223372036854775807) (hd : 1 ≤ d) (hd' : d ≤ 9223372036854775807) (hD : Hid (d = (D : Int))) (hq : q ≤ 9223372036854775807) (hr : r < D) (hD2 : D ≤ 9223372036854775807) (ho : Hid (opp a n = o)) (hst : Hid (stepB 3 o q r D = true))
    (hdv : Hid (∀ W, Calls Tryd.prog 30 #[.int .u64 (a.natAbs : Int), .int .u64 (n.natAbs : Int), .int .u64 d] W fun e w' => e = .returned (.tuple #[.agg #[.int .u64 q, .int .u64 r, .int .u64 D, .bool false], .int .i64 0]) ∧ Below W.heap.size W w'))
    (hsg : Hid (∀ W, Calls Tryd.prog 32 #[.int .u64 ((q + 1 : Nat) : Int), .bool o] W fun e w' => e = .returned (.tuple #[.int .i64 v, .int .i64 c]) ∧ w' = W)) :
    Calls Tryd.prog 13 #[.int .i64 a, .int .i64 n, .int .i64 d, .int .i64 3] w fun e w' => e = .returned (.tuple #[.int .i64 v, .int .i64 c]) ∧ Below w.heap.size w w' := by
  have hqi : (q : Int) ≤ 9223372036854775807 := by omega
  go_enter Tryd.func13, Tryd.ntmps13
  go_wp2_with fail
  refine (rnd3 _).mono ?_
  rintro e w1 ⟨rfl, hb1⟩
  go_wp2_with fail
  refine (both_yes _ _ _ (by omega) (by omega)).mono ?_
  rintro e w' ⟨rfl, hw⟩
  subst hw
  go_wp2_with fail
  refine (size_any _ _ (by omega) (by omega)).mono ?_
  rintro e w' ⟨rfl, hw⟩
  subst hw
  go_wp2_with fail
  refine (size_any _ _ (by omega) (by omega)).mono ?_
  rintro e w' ⟨rfl, hw⟩
  subst hw
  go_wp2_with fail
  refine ((unhide hdv) _).mono ?_
  rintro e w2 ⟨rfl, hb2⟩
  have C2 := hide (hb1.trans (hb2.mono hb1.size))
  clear hb1 hb2
  go_wp2_with fail
  refine (opp_any _ _ _).mono ?_
  rintro e w' ⟨rfl, hw⟩
  subst hw
  rw [unhide ho]
  go_wp2_with fail
  refine (meth3 q r D o _ hq hr hD2).mono ?_
  rintro e w3 ⟨rfl, hb3⟩
  rw [unhide hst]
  have c3 := bal (unhide C2) (.cells #[.int .u64 q, .int .u64 r, .int .u64 D, .bool o] 57)
  have C3 := hide (c3.trans (hb3.mono c3.size))
  have k0 : w3.cell? ⟨w2.heap.size, 0, none⟩ = some (.int .u64 q) := keep1 hb3 (by simp) (by simp)
  have k3 : w3.cell? ⟨w2.heap.size, 3, none⟩ = some (.bool o) := keep1 hb3 (by simp) (by simp)
  have z0 : w3.frozen? ⟨w2.heap.size, 0, none⟩ = false := keepF hb3 (by simp) (by simp)
  have sz := (unhide C2).size
  clear hb3 c3
  go_wp2_with (go_at_call 32; refine ((unhide hsg) _).mono ?_; rintro e w4 ⟨rfl, hw⟩; subst hw)
  go_ret2
  exact ⟨rfl, (unhide C3).setCell sz _⟩

set_option maxHeartbeats 2000000 in
theorem mratio3_f (a n d : Int) (q r D : Nat) (o : Bool) (v c : Int) (w : World) (ha : -9223372036854775807 ≤ a) (hn : -9223372036854775807 ≤ n) (ha' : a ≤ 9223372036854775807) (hn' : n ≤ 9223372036854775807) (hd : 1 ≤ d) (hd' : d ≤ 9223372036854775807) (hD : Hid (d = (D : Int))) (hq : q ≤ 9223372036854775807) (hr : r < D) (hD2 : D ≤ 9223372036854775807) (ho : Hid (opp a n = o)) (hst : Hid (stepB 3 o q r D = false))
    (hdv : Hid (∀ W, Calls Tryd.prog 30 #[.int .u64 (a.natAbs : Int), .int .u64 (n.natAbs : Int), .int .u64 d] W fun e w' => e = .returned (.tuple #[.agg #[.int .u64 q, .int .u64 r, .int .u64 D, .bool false], .int .i64 0]) ∧ Below W.heap.size W w'))
    (hsg : Hid (∀ W, Calls Tryd.prog 32 #[.int .u64 ((q : Nat) : Int), .bool o] W fun e w' => e = .returned (.tuple #[.int .i64 v, .int .i64 c]) ∧ w' = W)) :
    Calls Tryd.prog 13 #[.int .i64 a, .int .i64 n, .int .i64 d, .int .i64 3] w fun e w' => e = .returned (.tuple #[.int .i64 v, .int .i64 c]) ∧ Below w.heap.size w w' := by
  have hqi : (q : Int) ≤ 9223372036854775807 := by omega
  go_enter Tryd.func13, Tryd.ntmps13
  go_wp2_with fail
  refine (rnd3 _).mono ?_
  rintro e w1 ⟨rfl, hb1⟩
  go_wp2_with fail
  refine (both_yes _ _ _ (by omega) (by omega)).mono ?_
  rintro e w' ⟨rfl, hw⟩
  subst hw
  go_wp2_with fail
  refine (size_any _ _ (by omega) (by omega)).mono ?_
  rintro e w' ⟨rfl, hw⟩
  subst hw
  go_wp2_with fail
  refine (size_any _ _ (by omega) (by omega)).mono ?_
  rintro e w' ⟨rfl, hw⟩
  subst hw
  go_wp2_with fail
  refine ((unhide hdv) _).mono ?_
  rintro e w2 ⟨rfl, hb2⟩
  have C2 := hide (hb1.trans (hb2.mono hb1.size))
  clear hb1 hb2
  go_wp2_with fail
  refine (opp_any _ _ _).mono ?_
  rintro e w' ⟨rfl, hw⟩
  subst hw
  rw [unhide ho]
  go_wp2_with fail
  refine (meth3 q r D o _ hq hr hD2).mono ?_
  rintro e w3 ⟨rfl, hb3⟩
  rw [unhide hst]
  have c3 := bal (unhide C2) (.cells #[.int .u64 q, .int .u64 r, .int .u64 D, .bool o] 57)
  have C3 := hide (c3.trans (hb3.mono c3.size))
  have k0 : w3.cell? ⟨w2.heap.size, 0, none⟩ = some (.int .u64 q) := keep1 hb3 (by simp) (by simp)
  have k3 : w3.cell? ⟨w2.heap.size, 3, none⟩ = some (.bool o) := keep1 hb3 (by simp) (by simp)
  have z0 : w3.frozen? ⟨w2.heap.size, 0, none⟩ = false := keepF hb3 (by simp) (by simp)
  have sz := (unhide C2).size
  clear hb3 c3
  go_wp2_with (go_at_call 32; refine ((unhide hsg) _).mono ?_; rintro e w4 ⟨rfl, hw⟩; subst hw)
  go_ret2
  exact ⟨rfl, (unhide C3)⟩

set_option maxHeartbeats 2000000 in
theorem mratio4_t (a n d : Int) (q r D : Nat) (o : Bool) (v c : Int) (w : World) (ha : -9223372036854775807 ≤ a) (hn : -9223372036854775807 ≤ n) (ha' : a ≤ 9223372036854775807) (hn' : n ≤ 9223372036854775807) (hd : 1 ≤ d) (hd' : d ≤ 9223372036854775807) (hD : Hid (d = (D : Int))) (hq : q ≤ 9223372036854775807) (hr : r < D) (hD2 : D ≤ 9223372036854775807) (ho : Hid (opp a n = o)) (hst : Hid (stepB 4 o q r D = true))
    (hdv : Hid (∀ W, Calls Tryd.prog 30 #[.int .u64 (a.natAbs : Int), .int .u64 (n.natAbs : Int), .int .u64 d] W fun e w' => e = .returned (.tuple #[.agg #[.int .u64 q, .int .u64 r, .int .u64 D, .bool false], .int .i64 0]) ∧ Below W.heap.size W w'))
    (hsg : Hid (∀ W, Calls Tryd.prog 32 #[.int .u64 ((q + 1 : Nat) : Int), .bool o] W fun e w' => e = .returned (.tuple #[.int .i64 v, .int .i64 c]) ∧ w' = W)) :
    Calls Tryd.prog 13 #[.int .i64 a, .int .i64 n, .int .i64 d, .int .i64 4] w fun e w' => e = .returned (.tuple #[.int .i64 v, .int .i64 c]) ∧ Below w.heap.size w w' := by
  have hqi : (q : Int) ≤ 9223372036854775807 := by omega
  go_enter Tryd.func13, Tryd.ntmps13
  go_wp2_with fail
  refine (rnd4 _).mono ?_
  rintro e w1 ⟨rfl, hb1⟩
  go_wp2_with fail
  refine (both_yes _ _ _ (by omega) (by omega)).mono ?_
  rintro e w' ⟨rfl, hw⟩
  subst hw
  go_wp2_with fail
  refine (size_any _ _ (by omega) (by omega)).mono ?_
  rintro e w' ⟨rfl, hw⟩
  subst hw
  go_wp2_with fail
  refine (size_any _ _ (by omega) (by omega)).mono ?_
  rintro e w' ⟨rfl, hw⟩
  subst hw
  go_wp2_with fail
  refine ((unhide hdv) _).mono ?_
  rintro e w2 ⟨rfl, hb2⟩
  have C2 := hide (hb1.trans (hb2.mono hb1.size))
  clear hb1 hb2
  go_wp2_with fail
  refine (opp_any _ _ _).mono ?_
  rintro e w' ⟨rfl, hw⟩
  subst hw
  rw [unhide ho]
  go_wp2_with fail
  refine (meth4 q r D o _ hq hr hD2).mono ?_
  rintro e w3 ⟨rfl, hb3⟩
  rw [unhide hst]
  have c3 := bal (unhide C2) (.cells #[.int .u64 q, .int .u64 r, .int .u64 D, .bool o] 57)
  have C3 := hide (c3.trans (hb3.mono c3.size))
  have k0 : w3.cell? ⟨w2.heap.size, 0, none⟩ = some (.int .u64 q) := keep1 hb3 (by simp) (by simp)
  have k3 : w3.cell? ⟨w2.heap.size, 3, none⟩ = some (.bool o) := keep1 hb3 (by simp) (by simp)
  have z0 : w3.frozen? ⟨w2.heap.size, 0, none⟩ = false := keepF hb3 (by simp) (by simp)
  have sz := (unhide C2).size
  clear hb3 c3
  go_wp2_with (go_at_call 32; refine ((unhide hsg) _).mono ?_; rintro e w4 ⟨rfl, hw⟩; subst hw)
  go_ret2
  exact ⟨rfl, (unhide C3).setCell sz _⟩

set_option maxHeartbeats 2000000 in
theorem mratio4_f (a n d : Int) (q r D : Nat) (o : Bool) (v c : Int) (w : World) (ha : -9223372036854775807 ≤ a) (hn : -9223372036854775807 ≤ n) (ha' : a ≤ 9223372036854775807) (hn' : n ≤ 9223372036854775807) (hd : 1 ≤ d) (hd' : d ≤ 9223372036854775807) (hD : Hid (d = (D : Int))) (hq : q ≤ 9223372036854775807) (hr : r < D) (hD2 : D ≤ 9223372036854775807) (ho : Hid (opp a n = o)) (hst : Hid (stepB 4 o q r D = false))
    (hdv : Hid (∀ W, Calls Tryd.prog 30 #[.int .u64 (a.natAbs : Int), .int .u64 (n.natAbs : Int), .int .u64 d] W fun e w' => e = .returned (.tuple #[.agg #[.int .u64 q, .int .u64 r, .int .u64 D, .bool false], .int .i64 0]) ∧ Below W.heap.size W w'))
    (hsg : Hid (∀ W, Calls Tryd.prog 32 #[.int .u64 ((q : Nat) : Int), .bool o] W fun e w' => e = .returned (.tuple #[.int .i64 v, .int .i64 c]) ∧ w' = W)) :
    Calls Tryd.prog 13 #[.int .i64 a, .int .i64 n, .int .i64 d, .int .i64 4] w fun e w' => e = .returned (.tuple #[.int .i64 v, .int .i64 c]) ∧ Below w.heap.size w w' := by
  have hqi : (q : Int) ≤ 9223372036854775807 := by omega
  go_enter Tryd.func13, Tryd.ntmps13
  go_wp2_with fail
  refine (rnd4 _).mono ?_
  rintro e w1 ⟨rfl, hb1⟩
  go_wp2_with fail
  refine (both_yes _ _ _ (by omega) (by omega)).mono ?_
  rintro e w' ⟨rfl, hw⟩
  subst hw
  go_wp2_with fail
  refine (size_any _ _ (by omega) (by omega)).mono ?_
  rintro e w' ⟨rfl, hw⟩
  subst hw
  go_wp2_with fail
  refine (size_any _ _ (by omega) (by omega)).mono ?_
  rintro e w' ⟨rfl, hw⟩
  subst hw
  go_wp2_with fail
  refine ((unhide hdv) _).mono ?_
  rintro e w2 ⟨rfl, hb2⟩
  have C2 := hide (hb1.trans (hb2.mono hb1.size))
  clear hb1 hb2
  go_wp2_with fail
  refine (opp_any _ _ _).mono ?_
  rintro e w' ⟨rfl, hw⟩
  subst hw
  rw [unhide ho]
  go_wp2_with fail
  refine (meth4 q r D o _ hq hr hD2).mono ?_
  rintro e w3 ⟨rfl, hb3⟩
  rw [unhide hst]
  have c3 := bal (unhide C2) (.cells #[.int .u64 q, .int .u64 r, .int .u64 D, .bool o] 57)
  have C3 := hide (c3.trans (hb3.mono c3.size))
  have k0 : w3.cell? ⟨w2.heap.size, 0, none⟩ = some (.int .u64 q) := keep1 hb3 (by simp) (by simp)
  have k3 : w3.cell? ⟨w2.heap.size, 3, none⟩ = some (.bool o) := keep1 hb3 (by simp) (by simp)
  have z0 : w3.frozen? ⟨w2.heap.size, 0, none⟩ = false := keepF hb3 (by simp) (by simp)
  have sz := (unhide C2).size
  clear hb3 c3
  go_wp2_with (go_at_call 32; refine ((unhide hsg) _).mono ?_; rintro e w4 ⟨rfl, hw⟩; subst hw)
  go_ret2
  exact ⟨rfl, (unhide C3)⟩

set_option maxHeartbeats 2000000 in
theorem mratio5_t (a n d : Int) (q r D : Nat) (o : Bool) (v c : Int) (w : World) (ha : -9223372036854775807 ≤ a) (hn : -9223372036854775807 ≤ n) (ha' : a ≤ 9223372036854775807) (hn' : n ≤ 9223372036854775807) (hd : 1 ≤ d) (hd' : d ≤ 9223372036854775807) (hD : Hid (d = (D : Int))) (hq : q ≤ 9223372036854775807) (hr : r < D) (hD2 : D ≤ 9223372036854775807) (ho : Hid (opp a n = o)) (hst : Hid (stepB 5 o q r D = true))
    (hdv : Hid (∀ W, Calls Tryd.prog 30 #[.int .u64 (a.natAbs : Int), .int .u64 (n.natAbs : Int), .int .u64 d] W fun e w' => e = .returned (.tuple #[.agg #[.int .u64 q, .int .u64 r, .int .u64 D, .bool false], .int .i64 0]) ∧ Below W.heap.size W w'))
    (hsg : Hid (∀ W, Calls Tryd.prog 32 #[.int .u64 ((q + 1 : Nat) : Int), .bool o] W fun e w' => e = .returned (.tuple #[.int .i64 v, .int .i64 c]) ∧ w' = W)) :
    Calls Tryd.prog 13 #[.int .i64 a, .int .i64 n, .int .i64 d, .int .i64 5] w fun e w' => e = .returned (.tuple #[.int .i64 v, .int .i64 c]) ∧ Below w.heap.size w w' := by
  have hqi : (q : Int) ≤ 9223372036854775807 := by omega
  go_enter Tryd.func13, Tryd.ntmps13
  go_wp2_with fail
  refine (rnd5 _).mono ?_
  rintro e w1 ⟨rfl, hb1⟩
  go_wp2_with fail
  refine (both_yes _ _ _ (by omega) (by omega)).mono ?_
  rintro e w' ⟨rfl, hw⟩
  subst hw
  go_wp2_with fail
  refine (size_any _ _ (by omega) (by omega)).mono ?_
  rintro e w' ⟨rfl, hw⟩
  subst hw
  go_wp2_with fail
  refine (size_any _ _ (by omega) (by omega)).mono ?_
  rintro e w' ⟨rfl, hw⟩
  subst hw
  go_wp2_with fail
  refine ((unhide hdv) _).mono ?_
  rintro e w2 ⟨rfl, hb2⟩
  have C2 := hide (hb1.trans (hb2.mono hb1.size))
  clear hb1 hb2
  go_wp2_with fail
  refine (opp_any _ _ _).mono ?_
  rintro e w' ⟨rfl, hw⟩
  subst hw
  rw [unhide ho]
  go_wp2_with fail
  refine (meth5 q r D o _ hq hr hD2).mono ?_
  rintro e w3 ⟨rfl, hb3⟩
  rw [unhide hst]
  have c3 := bal (unhide C2) (.cells #[.int .u64 q, .int .u64 r, .int .u64 D, .bool o] 57)
  have C3 := hide (c3.trans (hb3.mono c3.size))
  have k0 : w3.cell? ⟨w2.heap.size, 0, none⟩ = some (.int .u64 q) := keep1 hb3 (by simp) (by simp)
  have k3 : w3.cell? ⟨w2.heap.size, 3, none⟩ = some (.bool o) := keep1 hb3 (by simp) (by simp)
  have z0 : w3.frozen? ⟨w2.heap.size, 0, none⟩ = false := keepF hb3 (by simp) (by simp)
  have sz := (unhide C2).size
  clear hb3 c3
  go_wp2_with (go_at_call 32; refine ((unhide hsg) _).mono ?_; rintro e w4 ⟨rfl, hw⟩; subst hw)
  go_ret2
  exact ⟨rfl, (unhide C3).setCell sz _⟩

set_option maxHeartbeats 2000000 in
theorem mratio5_f (a n d : Int) (q r D : Nat) (o : Bool) (v c : Int) (w : World) (ha : -9223372036854775807 ≤ a) (hn : -9223372036854775807 ≤ n) (ha' : a ≤ 9223372036854775807) (hn' : n ≤ 9223372036854775807) (hd : 1 ≤ d) (hd' : d ≤ 9223372036854775807) (hD : Hid (d = (D : Int))) (hq : q ≤ 9223372036854775807) (hr : r < D) (hD2 : D ≤ 9223372036854775807) (ho : Hid (opp a n = o)) (hst : Hid (stepB 5 o q r D = false))
    (hdv : Hid (∀ W, Calls Tryd.prog 30 #[.int .u64 (a.natAbs : Int), .int .u64 (n.natAbs : Int), .int .u64 d] W fun e w' => e = .returned (.tuple #[.agg #[.int .u64 q, .int .u64 r, .int .u64 D, .bool false], .int .i64 0]) ∧ Below W.heap.size W w'))
    (hsg : Hid (∀ W, Calls Tryd.prog 32 #[.int .u64 ((q : Nat) : Int), .bool o] W fun e w' => e = .returned (.tuple #[.int .i64 v, .int .i64 c]) ∧ w' = W)) :
    Calls Tryd.prog 13 #[.int .i64 a, .int .i64 n, .int .i64 d, .int .i64 5] w fun e w' => e = .returned (.tuple #[.int .i64 v, .int .i64 c]) ∧ Below w.heap.size w w' := by
  have hqi : (q : Int) ≤ 9223372036854775807 := by omega
  go_enter Tryd.func13, Tryd.ntmps13
  go_wp2_with fail
  refine (rnd5 _).mono ?_
  rintro e w1 ⟨rfl, hb1⟩
  go_wp2_with fail
  refine (both_yes _ _ _ (by omega) (by omega)).mono ?_
  rintro e w' ⟨rfl, hw⟩
  subst hw
  go_wp2_with fail
  refine (size_any _ _ (by omega) (by omega)).mono ?_
  rintro e w' ⟨rfl, hw⟩
  subst hw
  go_wp2_with fail
  refine (size_any _ _ (by omega) (by omega)).mono ?_
  rintro e w' ⟨rfl, hw⟩
  subst hw
  go_wp2_with fail
  refine ((unhide hdv) _).mono ?_
  rintro e w2 ⟨rfl, hb2⟩
  have C2 := hide (hb1.trans (hb2.mono hb1.size))
  clear hb1 hb2
  go_wp2_with fail
  refine (opp_any _ _ _).mono ?_
  rintro e w' ⟨rfl, hw⟩
  subst hw
  rw [unhide ho]
  go_wp2_with fail
  refine (meth5 q r D o _ hq hr hD2).mono ?_
  rintro e w3 ⟨rfl, hb3⟩
  rw [unhide hst]
  have c3 := bal (unhide C2) (.cells #[.int .u64 q, .int .u64 r, .int .u64 D, .bool o] 57)
  have C3 := hide (c3.trans (hb3.mono c3.size))
  have k0 : w3.cell? ⟨w2.heap.size, 0, none⟩ = some (.int .u64 q) := keep1 hb3 (by simp) (by simp)
  have k3 : w3.cell? ⟨w2.heap.size, 3, none⟩ = some (.bool o) := keep1 hb3 (by simp) (by simp)
  have z0 : w3.frozen? ⟨w2.heap.size, 0, none⟩ = false := keepF hb3 (by simp) (by simp)
  have sz := (unhide C2).size
  clear hb3 c3
  go_wp2_with (go_at_call 32; refine ((unhide hsg) _).mono ?_; rintro e w4 ⟨rfl, hw⟩; subst hw)
  go_ret2
  exact ⟨rfl, (unhide C3)⟩
end Go.Proofs.YtddpladmkmpoaabDoor
