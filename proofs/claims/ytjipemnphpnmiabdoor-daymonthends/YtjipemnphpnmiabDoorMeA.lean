import Derived.Test.YtjipemnphpnmiabDoorFiA
import Derived.Test.YtjipemnphpnmiabDoorAdB
namespace Go.Proofs.YtjipemnphpnmiabDoor
open Go.ChangeShapes Go.WideShapes Go.ChangeAt Go.RowKit
set_option linter.unusedVariables false
/-- three cells of a block -/
def C3 (w : World) (b : Nat) (x y z : Int) : Prop := w.cell? ⟨b, 0, none⟩ = some (.int .i64 x) ∧ w.cell? ⟨b, 1, none⟩ = some (.int .i64 y) ∧ w.cell? ⟨b, 2, none⟩ = some (.int .i64 z)
theorem C3.below {W w1 : World} {b : Nat} {x y z : Int} (h : C3 W b x y z) (hb : Below W.heap.size W w1) : C3 w1 b x y z := keepS hb h
theorem C3.new (w : World) (x y z : Int) (t : TypeId) : C3 (w.alloc (.cells #[.int .i64 x, .int .i64 y, .int .i64 z] t)) w.heap.size x y z := by
  refine ⟨?_, ?_, ?_⟩ <;> simp
theorem C3.alloc {W : World} {b : Nat} {x y z : Int} (h : C3 W b x y z) (o : Obj) : C3 (W.alloc o) b x y z := h.below (bal (Below.refl _ _) o)
theorem C3.new3 (w : World) (o1 o2 o3 : Obj) (x y z : Int) (t : TypeId) : C3 ((((w.alloc o1).alloc o2).alloc o3).alloc (.cells #[.int .i64 x, .int .i64 y, .int .i64 z] t)) (w.heap.size + 1 + 1 + 1) x y z := by
  have h := C3.new (((w.alloc o1).alloc o2).alloc o3) x y z t
  rw [World.size_alloc, World.size_alloc, World.size_alloc] at h
  exact h
theorem bal4 {w W : World} (h : Below w.heap.size w W) (o1 o2 o3 o4 : Obj) : Below w.heap.size w ((((W.alloc o1).alloc o2).alloc o3).alloc o4) := bal (bal (bal (bal h o1) o2) o3) o4
set_option maxRecDepth 100000 in
set_option maxHeartbeats 4000000 in
theorem walk_ends_go (n0 b0 : Int) (y m d n : Nat) (w : World) (hM : Mon w) (hP : Pow w) (b1 : -9223372036854775808 ≤ n0) (b2 : n0 ≤ 9223372036854775807) (b3 : -9223372036854775808 ≤ b0) (b4 : b0 ≤ 9223372036854775807) (e1 : wi n0 = n) (h : Dat y m d n) (X : Nat) (hX : dm y m = X)
    (H2 : Hid ((y = 9999 ∧ ∀ W, Below w.heap.size w W → Calls Tryd.prog 16 #[.int .i64 (n : Int), .int .i64 12] W fun e w' => e = .returned (.tuple #[.int .i64 0, .int .i64 20]) ∧ Below W.heap.size W w') ∨
      ∃ N t : Nat, (∀ W, Below w.heap.size w W → Calls Tryd.prog 16 #[.int .i64 (n : Int), .int .i64 12] W fun e w' => e = .returned (.tuple #[.int .i64 (N : Int), .int .i64 0]) ∧ Below W.heap.size W w') ∧
        (∀ W, Below w.heap.size w W → Calls Tryd.prog 10 #[.int .i64 (N : Int)] W fun e w' => e = .returned (.tuple #[.agg #[.int .i64 ((y : Int) + 1), .int .i64 m, .int .i64 t], .int .i64 0]) ∧ w' = ((W.alloc (db 25 ((y : Int) + 1) m t)).alloc (db 25 ((y : Int) + 1) m t)).alloc (db 25 ((y : Int) + 1) m t)) ∧
        (m ≠ 2 ∧ t = d ∨ m = 2 ∧ d ≠ 29 ∧ t = d ∨ m = 2 ∧ d = 29 ∧ lp ((y : Int) + 1) = false ∧ t = 28)))
    (H3 : Hid (b0 = -9223372036854775808 ∨ b0 ≠ -9223372036854775808 ∧ (∀ W, Below w.heap.size w W → Calls Tryd.prog 16 #[.int .i64 (n : Int), .int .i64 b0] W fun e w' => e = .returned (.tuple #[.int .i64 0, .int .i64 20]) ∧ Below W.heap.size W w') ∨
      b0 ≠ -9223372036854775808 ∧ ∃ N Z : Nat, (∀ W, Below w.heap.size w W → Calls Tryd.prog 16 #[.int .i64 (n : Int), .int .i64 b0] W fun e w' => e = .returned (.tuple #[.int .i64 (N : Int), .int .i64 0]) ∧ Below W.heap.size W w') ∧
        (∀ W, Below w.heap.size w W → Calls Tryd.prog 16 #[.int .i64 (N : Int), .int .i64 (-b0)] W fun e w' => e = .returned (.tuple #[.int .i64 (Z : Int), .int .i64 0]) ∧ Below W.heap.size W w') ∧ Z ≤ n ∧ n - d + 1 ≤ Z)) :
    Calls Tryd.prog 6 #[.int .i64 n0, .int .i64 b0] w fun e w' => e = .returned (.bool true) ∧ Below w.heap.size w w' := by
  have h6 := h.lo
  have h7 := h.hi
  have h8 := h.dn
  have h5 := h.d1
  have h9 := h.d2
  have h10 := dm_hi y m
  have A1 := hide (first_ok w hM hP)
  have A2 := hide (fun W => within_any n0 W b1 b2)
  have A3 := hide (fun W (hW : Below w.heap.size w W) => dto_ok y m d n W (hM.below hW) h)
  have A4 := hide (fun W (hW : Below w.heap.size w W) => dfirst_ok y m d n W (hM.below hW) h)
  have A5 := hide (fun W (hW : Below w.heap.size w W) => dlast_ok y m d n W (hM.below hW) h)
  have A6 := hide (fun W (hW : Below w.heap.size w W) => ddays_ok y m W (hM.below hW) h.y1 h.y2 h.m1 h.m2)
  rw [e1] at A2
  rw [hX] at A5 A6 h9 h10
  obtain ⟨a, ha⟩ : ∃ a : Nat, (n : Int) - d + 1 = (a : Int) := ⟨n - d + 1, by omega⟩
  obtain ⟨l, hl⟩ : ∃ l : Nat, (n : Int) - d + X = (l : Int) := ⟨n - d + X, by omega⟩
  rw [ha] at A4
  rw [hl] at A5
  have g1 : a ≤ n := by omega
  have g2 : n ≤ l := by omega
  have g3 : (l : Int) - (a : Int) + 1 = (X : Int) := by omega
  have g4 : (n : Int) - (a : Int) + 1 = (d : Int) := by omega
  have g5 : l ≤ 3652100 := by omega
  have g6 : n - d + 1 = a := by omega
  rw [g6] at H3
  have hy2 := h.y2
  clear hM hP b1 b2 e1 h hX ha hl g6
  go_enter Tryd.func6, Tryd.ntmps6
  go_wp2_with fail
  refine (unhide A1).mono ?_
  rintro e w1 ⟨rfl, c1⟩
  have B1 := hide c1
  clear c1
  go_wp2_with fail
  refine (unhide A2 _).mono ?_
  rintro e w0 ⟨rfl, hw⟩
  rw [hw]
  clear hw w0
  go_wp2_with fail
  refine (unhide A3 _ (unhide B1)).mono ?_
  rintro e w0 ⟨rfl, hw⟩
  rw [hw]
  clear hw w0
  go_wp2_with fail
  refine (unhide A4 _ (bal4 (unhide B1) _ _ _ _)).mono ?_
  rintro e w2 ⟨rfl, c2⟩
  have K2 := hide ((C3.new3 w1 (db 25 y m d) (db 25 y m d) (db 25 y m d) y m d 25).below c2)
  have B2 := hide ((bal4 (unhide B1) (db 25 y m d) (db 25 y m d) (db 25 y m d) (db 25 y m d)).trans (c2.mono (bal4 (unhide B1) _ _ _ _).size))
  clear c2
  generalize w1.heap.size + 1 + 1 + 1 = bD at *
  go_wp2_with fail
  refine (unhide A5 _ (unhide B2)).mono ?_
  rintro e w3 ⟨rfl, c3⟩
  have K3 := (unhide K2).below c3
  have HK := hide K3
  have B3 := hide ((unhide B2).trans (c3.mono (unhide B2).size))
  obtain ⟨k0, k1, k2⟩ := K3
  clear c3
  go_wp2_with fail
  refine (unhide A6 _ (unhide B3)).mono ?_
  rintro e w0 ⟨rfl, hw⟩
  rw [hw]
  clear hw w0
  go_wp2_with fail
  rcases unhide H2 with ⟨rfl, p2⟩ | ⟨N, t, p1, p2, p3⟩
  · have P2 := hide p2
    clear H2 p2
    refine (unhide P2 _ (unhide B3)).mono ?_
    rintro e w4 ⟨rfl, c4⟩
    have K4 := (unhide HK).below c4
    have B4 := hide ((unhide B3).trans (c4.mono (unhide B3).size))
    obtain ⟨l0, l1, l2⟩ := K4
    clear c4 k0 k1 k2
    rcases unhide H3 with rfl | ⟨r1, r2⟩ | ⟨r1, N2, Z, r2, r3, r4, r5⟩
    · clear H3
      go_wp2
      go_ret
      exact ⟨rfl, (unhide B4)⟩
    · have R2 := hide r2
      have rb : (b0 == -9223372036854775808) = false := by rw [beq_eq_false_iff_ne]; exact r1
      clear H3 r2
      go_wp2_with fail
      refine (unhide R2 _ (unhide B4)).mono ?_
      rintro e w8 ⟨rfl, c8⟩
      have B8 := hide ((unhide B4).trans (c8.mono (unhide B4).size))
      clear c8
      go_wp2
      go_ret
      exact ⟨rfl, unhide B8⟩
    · have R2 := hide r2
      have R3 := hide r3
      have rb : (b0 == -9223372036854775808) = false := by rw [beq_eq_false_iff_ne]; exact r1
      have rb2 : -9223372036854775807 ≤ b0 := by omega
      clear H3 r2 r3
      go_wp2_with fail
      refine (unhide R2 _ (unhide B4)).mono ?_
      rintro e w8 ⟨rfl, c8⟩
      have B8 := hide ((unhide B4).trans (c8.mono (unhide B4).size))
      clear c8
      go_wp2_with fail
      refine (unhide R3 _ (unhide B8)).mono ?_
      rintro e w9 ⟨rfl, c9⟩
      have B9 := hide ((unhide B8).trans (c9.mono (unhide B8).size))
      clear c9
      go_wp2
      go_ret
      exact ⟨by simp [*], unhide B9⟩
  · have P1 := hide p1
    have P2 := hide p2
    clear H2 p1 p2
    refine (unhide P1 _ (unhide B3)).mono ?_
    rintro e w4 ⟨rfl, c4⟩
    have HK4 := hide ((unhide HK).below c4)
    have B4 := hide ((unhide B3).trans (c4.mono (unhide B3).size))
    clear c4 k0 k1 k2
    go_wp2_with fail
    refine (unhide P2 _ (unhide B4)).mono ?_
    rintro e w0 ⟨rfl, hw⟩
    rw [hw]
    clear hw w0
    have f0 : ∀ o1 o2 o3 o4, ((((w4.alloc o1).alloc o2).alloc o3).alloc o4).cell? ⟨bD, 0, none⟩ = some (.int .i64 (y : Int)) := fun o1 o2 o3 o4 => (((((unhide HK4).alloc o1).alloc o2).alloc o3).alloc o4).1
    have f1 : ∀ o1 o2 o3 o4, ((((w4.alloc o1).alloc o2).alloc o3).alloc o4).cell? ⟨bD, 1, none⟩ = some (.int .i64 (m : Int)) := fun o1 o2 o3 o4 => (((((unhide HK4).alloc o1).alloc o2).alloc o3).alloc o4).2.1
    have f2 : ∀ o1 o2 o3 o4, ((((w4.alloc o1).alloc o2).alloc o3).alloc o4).cell? ⟨bD, 2, none⟩ = some (.int .i64 (d : Int)) := fun o1 o2 o3 o4 => (((((unhide HK4).alloc o1).alloc o2).alloc o3).alloc o4).2.2
    rcases p3 with ⟨p3, rfl⟩ | ⟨rfl, p3, rfl⟩ | ⟨rfl, rfl, p3, rfl⟩
    · have pm : ((m : Int) == 2) = false := by rw [beq_eq_false_iff_ne]; omega
      rcases unhide H3 with rfl | ⟨r1, r2⟩ | ⟨r1, N2, Z, r2, r3, r4, r5⟩
      · clear H3
        go_wp2
        go_ret
        exact ⟨rfl, (bal4 (unhide B4) _ _ _ _)⟩
      · have R2 := hide r2
        have rb : (b0 == -9223372036854775808) = false := by rw [beq_eq_false_iff_ne]; exact r1
        clear H3 r2
        go_wp2_with fail
        refine (unhide R2 _ (bal4 (unhide B4) _ _ _ _)).mono ?_
        rintro e w8 ⟨rfl, c8⟩
        have B8 := hide ((bal4 (unhide B4) _ _ _ _).trans (c8.mono (bal4 (unhide B4) _ _ _ _).size))
        clear c8
        go_wp2
        go_ret
        exact ⟨rfl, unhide B8⟩
      · have R2 := hide r2
        have R3 := hide r3
        have rb : (b0 == -9223372036854775808) = false := by rw [beq_eq_false_iff_ne]; exact r1
        have rb2 : -9223372036854775807 ≤ b0 := by omega
        clear H3 r2 r3
        go_wp2_with fail
        refine (unhide R2 _ (bal4 (unhide B4) _ _ _ _)).mono ?_
        rintro e w8 ⟨rfl, c8⟩
        have B8 := hide ((bal4 (unhide B4) _ _ _ _).trans (c8.mono (bal4 (unhide B4) _ _ _ _).size))
        clear c8
        go_wp2_with fail
        refine (unhide R3 _ (unhide B8)).mono ?_
        rintro e w9 ⟨rfl, c9⟩
        have B9 := hide ((unhide B8).trans (c9.mono (unhide B8).size))
        clear c9
        go_wp2
        go_ret
        exact ⟨by simp [*], unhide B9⟩
    · have pm : ((t : Int) == 29) = false := by rw [beq_eq_false_iff_ne]; omega
      rcases unhide H3 with rfl | ⟨r1, r2⟩ | ⟨r1, N2, Z, r2, r3, r4, r5⟩
      · clear H3
        go_wp2
        go_ret
        exact ⟨rfl, (bal4 (unhide B4) _ _ _ _)⟩
      · have R2 := hide r2
        have rb : (b0 == -9223372036854775808) = false := by rw [beq_eq_false_iff_ne]; exact r1
        clear H3 r2
        go_wp2_with fail
        refine (unhide R2 _ (bal4 (unhide B4) _ _ _ _)).mono ?_
        rintro e w8 ⟨rfl, c8⟩
        have B8 := hide ((bal4 (unhide B4) _ _ _ _).trans (c8.mono (bal4 (unhide B4) _ _ _ _).size))
        clear c8
        go_wp2
        go_ret
        exact ⟨rfl, unhide B8⟩
      · have R2 := hide r2
        have R3 := hide r3
        have rb : (b0 == -9223372036854775808) = false := by rw [beq_eq_false_iff_ne]; exact r1
        have rb2 : -9223372036854775807 ≤ b0 := by omega
        clear H3 r2 r3
        go_wp2_with fail
        refine (unhide R2 _ (bal4 (unhide B4) _ _ _ _)).mono ?_
        rintro e w8 ⟨rfl, c8⟩
        have B8 := hide ((bal4 (unhide B4) _ _ _ _).trans (c8.mono (bal4 (unhide B4) _ _ _ _).size))
        clear c8
        go_wp2_with fail
        refine (unhide R3 _ (unhide B8)).mono ?_
        rintro e w9 ⟨rfl, c9⟩
        have B9 := hide ((unhide B8).trans (c9.mono (unhide B8).size))
        clear c9
        go_wp2
        go_ret
        exact ⟨by simp [*], unhide B9⟩
    · have LC := hide (fun W => dleap ((y : Int) + 1) W)
      rw [p3] at LC
      clear p3
      go_wp2_with fail
      refine (unhide LC _).mono ?_
      rintro e w0 ⟨rfl, hw⟩
      rw [hw]
      clear hw w0
      rcases unhide H3 with rfl | ⟨r1, r2⟩ | ⟨r1, N2, Z, r2, r3, r4, r5⟩
      · clear H3
        go_wp2
        go_ret
        exact ⟨rfl, (bal4 (unhide B4) _ _ _ _)⟩
      · have R2 := hide r2
        have rb : (b0 == -9223372036854775808) = false := by rw [beq_eq_false_iff_ne]; exact r1
        clear H3 r2
        go_wp2_with fail
        refine (unhide R2 _ (bal4 (unhide B4) _ _ _ _)).mono ?_
        rintro e w8 ⟨rfl, c8⟩
        have B8 := hide ((bal4 (unhide B4) _ _ _ _).trans (c8.mono (bal4 (unhide B4) _ _ _ _).size))
        clear c8
        go_wp2
        go_ret
        exact ⟨rfl, unhide B8⟩
      · have R2 := hide r2
        have R3 := hide r3
        have rb : (b0 == -9223372036854775808) = false := by rw [beq_eq_false_iff_ne]; exact r1
        have rb2 : -9223372036854775807 ≤ b0 := by omega
        clear H3 r2 r3
        go_wp2_with fail
        refine (unhide R2 _ (bal4 (unhide B4) _ _ _ _)).mono ?_
        rintro e w8 ⟨rfl, c8⟩
        have B8 := hide ((bal4 (unhide B4) _ _ _ _).trans (c8.mono (bal4 (unhide B4) _ _ _ _).size))
        clear c8
        go_wp2_with fail
        refine (unhide R3 _ (unhide B8)).mono ?_
        rintro e w9 ⟨rfl, c9⟩
        have B9 := hide ((unhide B8).trans (c9.mono (unhide B8).size))
        clear c9
        go_wp2
        go_ret
        exact ⟨by simp [*], unhide B9⟩
end Go.Proofs.YtjipemnphpnmiabDoor
