import Derived.Test.YtjipemnphpnmiaaDoorFiA
namespace Go.Proofs.YtjipemnphpnmiaaDoor
open Go.ChangeShapes Go.WideShapes Go.ChangeAt Go.RowKit
set_option linter.unusedVariables false
/-- three cells of a block -/
def C3 (w : World) (b : Nat) (x y z : Int) : Prop := w.cell? ⟨b, 0, none⟩ = some (.int .i64 x) ∧ w.cell? ⟨b, 1, none⟩ = some (.int .i64 y) ∧ w.cell? ⟨b, 2, none⟩ = some (.int .i64 z)
theorem C3.below {W w1 : World} {b : Nat} {x y z : Int} (h : C3 W b x y z) (hb : Below W.heap.size W w1) : C3 w1 b x y z := keepS hb h
theorem C3.new (w : World) (x y z : Int) (t : TypeId) : C3 (w.alloc (.cells #[.int .i64 x, .int .i64 y, .int .i64 z] t)) w.heap.size x y z := by
  refine ⟨?_, ?_, ?_⟩ <;> simp
theorem C3.alloc {W : World} {b : Nat} {x y z : Int} (h : C3 W b x y z) (o : Obj) : C3 (W.alloc o) b x y z := h.below (bal (Below.refl _ _) o)
theorem bal1 {w W : World} (h : Below w.heap.size w W) (o : Obj) : Below w.heap.size w (W.alloc o) := bal h o
set_option maxHeartbeats 2000000 in
theorem walk_there_ok (y m d n : Nat) (w : World) (hM : Mon w) (hP : Pow w) (h : Dat y m d n) :
    Calls Tryd.prog 7 #[.agg #[.int .i64 y, .int .i64 m, .int .i64 d]] w fun e w' => e = .returned (.bool true) ∧ Below w.heap.size w w' := by
  have h5 := h.d1
  have h6 := h.d2
  have A1 := hide (fun W (hW : Below w.heap.size w W) => first_ok W (hM.below hW) (hP.below pow_no hW))
  have A2 := hide (fun W (hW : Below w.heap.size w W) => dfrom_ok y m d n W (hM.below hW) h)
  have A3 := hide (fun W (hW : Below w.heap.size w W) => ddays_ok y m W (hM.below hW) h.y1 h.y2 h.m1 h.m2)
  have A4 := hide (fun W (hW : Below w.heap.size w W) => dto_ok y m d n W (hM.below hW) h)
  obtain ⟨X, hX⟩ : ∃ X, dm y m = X := ⟨_, rfl⟩
  rw [hX] at A3 h6
  clear hM hP h hX
  go_enter Tryd.func7, Tryd.ntmps7
  go_wp2_with fail
  refine (unhide A1 _ (bal1 (Below.refl _ _) _)).mono ?_
  rintro e w1 ⟨rfl, c1⟩
  obtain ⟨k0, k1, k2⟩ := (C3.new w y m d 29).below c1
  have B1 := hide ((bal1 (Below.refl w.heap.size w) _).trans (c1.mono (bal1 (Below.refl w.heap.size w) _).size))
  clear c1
  go_wp2_with fail
  refine (unhide A2 _ (unhide B1)).mono ?_
  rintro e w2 ⟨rfl, c2⟩
  have B2 := hide ((unhide B1).trans (c2.mono (unhide B1).size))
  have K2 : C3 w2 w.heap.size y m d := C3.below (b := w.heap.size) ⟨k0, k1, k2⟩ c2
  have K5 := hide K2
  obtain ⟨l0, l1, l2⟩ := K2
  clear c2 k0 k1 k2
  go_wp2_with (first | (go_at_call 9; refine (unhide A3 _ (unhide B2)).mono ?_; rintro e w3 ⟨rfl, hw⟩; rw [hw]; clear hw))
  have f0 : ∀ o1 o2 o3 o4, ((((w2.alloc o1).alloc o2).alloc o3).alloc o4).cell? ⟨w.heap.size, 0, none⟩ = some (.int .i64 (y : Int)) := fun o1 o2 o3 o4 => (((((unhide K5).alloc o1).alloc o2).alloc o3).alloc o4).1
  have f1 : ∀ o1 o2 o3 o4, ((((w2.alloc o1).alloc o2).alloc o3).alloc o4).cell? ⟨w.heap.size, 1, none⟩ = some (.int .i64 (m : Int)) := fun o1 o2 o3 o4 => (((((unhide K5).alloc o1).alloc o2).alloc o3).alloc o4).2.1
  have f2 : ∀ o1 o2 o3 o4, ((((w2.alloc o1).alloc o2).alloc o3).alloc o4).cell? ⟨w.heap.size, 2, none⟩ = some (.int .i64 (d : Int)) := fun o1 o2 o3 o4 => (((((unhide K5).alloc o1).alloc o2).alloc o3).alloc o4).2.2
  refine (unhide A4 _ (unhide B2)).mono ?_
  rintro e w3 ⟨rfl, hw⟩
  rw [hw]
  clear hw
  go_wp2
  go_ret
  exact ⟨rfl, bal1 (bal1 (bal1 (bal1 (unhide B2) _) _) _) _⟩
set_option maxHeartbeats 2000000 in
theorem walk_there_no (Y M D X f : Int) (w : World) (hM : Mon w) (hP : Pow w)
    (A2 : Hid (∀ W, Below w.heap.size w W → Calls Tryd.prog 14 #[.agg #[.int .i64 Y, .int .i64 M, .int .i64 D]] W fun e w' => e = .returned (.tuple #[.int .i64 0, .int .i64 20]) ∧ Below W.heap.size W w'))
    (A3 : Hid (∀ W, Below w.heap.size w W → Calls Tryd.prog 9 #[.int .i64 Y, .int .i64 M] W fun e w' => e = .returned (.tuple #[.int .i64 X, .int .i64 f]) ∧ w' = W))
    (hc : f = 20 ∨ f = 0 ∧ D < 1 ∨ f = 0 ∧ 1 ≤ D ∧ X < D) :
    Calls Tryd.prog 7 #[.agg #[.int .i64 Y, .int .i64 M, .int .i64 D]] w fun e w' => e = .returned (.bool true) ∧ Below w.heap.size w w' := by
  have A1 := hide (fun W (hW : Below w.heap.size w W) => first_ok W (hM.below hW) (hP.below pow_no hW))
  clear hM hP
  rcases hc with rfl | ⟨rfl, h1⟩ | ⟨rfl, h1, h2⟩
  all_goals
    go_enter Tryd.func7, Tryd.ntmps7
    go_wp2_with fail
    refine (unhide A1 _ (bal1 (Below.refl _ _) _)).mono ?_
    rintro e w1 ⟨rfl, c1⟩
    obtain ⟨k0, k1, k2⟩ := (C3.new w Y M D 29).below c1
    have B1 := hide ((bal1 (Below.refl w.heap.size w) _).trans (c1.mono (bal1 (Below.refl w.heap.size w) _).size))
    clear c1
    go_wp2_with fail
    refine (unhide A2 _ (unhide B1)).mono ?_
    rintro e w2 ⟨rfl, c2⟩
    have B2 := hide ((unhide B1).trans (c2.mono (unhide B1).size))
    have K2 : C3 w2 w.heap.size Y M D := C3.below (b := w.heap.size) ⟨k0, k1, k2⟩ c2
    obtain ⟨l0, l1, l2⟩ := K2
    clear c2 k0 k1 k2
    go_wp2_with (first | (go_at_call 9; refine (unhide A3 _ (unhide B2)).mono ?_; rintro e w3 ⟨rfl, hw⟩; rw [hw]; clear hw))
    go_ret
    exact ⟨rfl, unhide B2⟩
theorem walk_there (Y M D : Int) (w : World) (hM : Mon w) (hP : Pow w) :
    Calls Tryd.prog 7 #[.agg #[.int .i64 Y, .int .i64 M, .int .i64 D]] w fun r w' => r = .returned (.bool true) ∧ Below w.heap.size w w' := by
  by_cases h : Good Y M D
  · obtain ⟨y, m, d, n, rfl, rfl, rfl, hd⟩ := h.dat
    exact walk_there_ok y m d n w hM hP hd
  · by_cases h1 : 1 ≤ Y ∧ Y ≤ 9999 ∧ 1 ≤ M ∧ M ≤ 12
    · obtain ⟨y, rfl⟩ : ∃ y : Nat, Y = y := ⟨Y.toNat, by omega⟩
      obtain ⟨m, rfl⟩ : ∃ m : Nat, M = m := ⟨M.toNat, by omega⟩
      refine walk_there_no y m D (dm y m) 0 w hM hP (fun W hW => dfrom_bad _ _ _ W (hM.below hW) h) (fun W hW => ddays_ok y m W (hM.below hW) (by omega) (by omega) (by omega) (by omega)) ?_
      have : ¬ (1 ≤ D ∧ D ≤ dm y m) := fun h2 => h ⟨by omega, by omega, by omega, by omega, h2.1, h2.2⟩
      omega
    · exact walk_there_no Y M D 0 20 w hM hP (fun W hW => dfrom_bad _ _ _ W (hM.below hW) h) (fun W hW => ddays_bad Y M W h1) (Or.inl rfl)
end Go.Proofs.YtjipemnphpnmiaaDoor
