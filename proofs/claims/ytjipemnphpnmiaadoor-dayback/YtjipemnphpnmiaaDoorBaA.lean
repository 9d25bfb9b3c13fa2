import Derived.Test.YtjipemnphpnmiaaDoorBaN
import Derived.Test.YtjipemnphpnmiaaDoorThA
namespace Go.Proofs.YtjipemnphpnmiaaDoor
open Go.ChangeShapes Go.WideShapes Go.ChangeAt Go.RowKit
set_option linter.unusedVariables false
theorem C3.new3 (w : World) (o1 o2 o3 : Obj) (x y z : Int) (t : TypeId) : C3 ((((w.alloc o1).alloc o2).alloc o3).alloc (.cells #[.int .i64 x, .int .i64 y, .int .i64 z] t)) (w.heap.size + 1 + 1 + 1) x y z := by
  have h := C3.new (((w.alloc o1).alloc o2).alloc o3) x y z t
  rw [World.size_alloc, World.size_alloc, World.size_alloc] at h
  exact h
theorem bal4 {w W : World} (h : Below w.heap.size w W) (o1 o2 o3 o4 : Obj) : Below w.heap.size w ((((W.alloc o1).alloc o2).alloc o3).alloc o4) := bal (bal (bal (bal h o1) o2) o3) o4
set_option maxHeartbeats 2000000 in
theorem walk_back_go (n0 m0 : Int) (y m d n y' m' d' k : Nat) (w : World) (hM : Mon w) (hP : Pow w) (b1 : -9223372036854775808 ≤ n0) (b2 : n0 ≤ 9223372036854775807) (b3 : -9223372036854775808 ≤ m0) (b4 : m0 ≤ 9223372036854775807) (e1 : wi n0 = n) (e2 : wi m0 = k) (h : Dat y m d n) (h' : Dat y' m' d' k)
    (T1 T2 : ByteArray) (t1 : (⟨(tx y m d).toArray⟩ : ByteArray) = T1) (t2 : (⟨(tx y' m' d').toArray⟩ : ByteArray) = T2)
    (hc : Hid (n < k ∧ Op.bytesLess T1.toList T2.toList = true ∧ (y < y' ∨ y = y' ∧ m < m' ∨ y = y' ∧ m = m' ∧ d < d') ∨ ¬ n < k ∧ Op.bytesLess T1.toList T2.toList = false ∧ (y' < y ∨ y = y' ∧ m' < m ∨ y = y' ∧ m = m' ∧ ¬ d < d'))) :
    Calls Tryd.prog 8 #[.int .i64 n0, .int .i64 m0] w fun e w' => e = .returned (.bool true) ∧ Below w.heap.size w w' := by
  have A1 := hide (fun W (hW : Below w.heap.size w W) => carry hW (first_ok W (hM.below hW) (hP.below pow_no hW)))
  have A2 := hide (fun W => within_any n0 W b1 b2)
  have A3 := hide (fun W => within_any m0 W b3 b4)
  have A4 := hide (fun W (hW : Below w.heap.size w W) => dto_ok y m d n W (hM.below hW) h)
  have A5 := hide (fun W (hW : Below w.heap.size w W) => dfrom_ok y m d n W (hM.below hW) h)
  have A6 := hide (fun W (hW : Below w.heap.size w W) => dprint_ok y m d n W (hM.below hW) (hP.below pow_no hW) h)
  have A7 := hide (fun W (hW : Below w.heap.size w W) => dparse_tx y m d n W (hM.below hW) h)
  have A8 := hide (fun W (hW : Below w.heap.size w W) => dprint_ok y' m' d' k W (hM.below hW) (hP.below pow_no hW) h')
  have A9 := hide (fun W (hW : Below w.heap.size w W) => dto_ok y' m' d' k W (hM.below hW) h')
  rw [e1] at A2
  rw [e2] at A3
  rw [t1] at A6 A7
  rw [t2] at A8
  clear hM hP b1 b2 b3 b4 e1 e2 h h' t1 t2
  go_enter Tryd.func8, Tryd.ntmps8
  go_wp2_with fail
  refine (unhide A1 _ (Below.refl _ _)).mono ?_
  rintro e w1 ⟨rfl, c1⟩
  have B1 := hide c1
  clear c1
  go_wp2_with fail
  refine (unhide A2 _).mono ?_
  rintro e w0 ⟨rfl, hw⟩
  rw [hw]
  clear hw w0
  go_wp2_with fail
  refine (unhide A3 _).mono ?_
  rintro e w0 ⟨rfl, hw⟩
  rw [hw]
  clear hw w0
  go_wp2_with fail
  refine (unhide A4 _ (unhide B1)).mono ?_
  rintro e w2 ⟨rfl, hw⟩
  rw [hw]
  clear hw
  go_wp2_with fail
  refine (unhide A5 _ (bal4 (unhide B1) _ _ _ _)).mono ?_
  rintro e w3 ⟨rfl, c3⟩
  have K3 := hide ((C3.new3 w1 (db 29 y m d) (db 29 y m d) (db 29 y m d) y m d 29).below c3)
  have B3 := hide ((bal4 (unhide B1) (db 29 y m d) (db 29 y m d) (db 29 y m d) (db 29 y m d)).trans (c3.mono (bal4 (unhide B1) _ _ _ _).size))
  clear c3
  generalize w1.heap.size + 1 + 1 + 1 = bD at *
  go_wp2_with fail
  refine (unhide A6 _ (unhide B3)).mono ?_
  rintro e w4 ⟨rfl, c4⟩
  have K4 := hide ((unhide K3).below c4)
  have B4 := hide ((unhide B3).trans (c4.mono (unhide B3).size))
  clear c4
  go_wp2_with fail
  refine (unhide A7 _ (unhide B4)).mono ?_
  rintro e w5 ⟨rfl, c5⟩
  have K5 := hide ((unhide K4).below c5)
  have B5 := hide ((unhide B4).trans (c5.mono (unhide B4).size))
  clear c5
  go_wp2_with fail
  refine (unhide A8 _ (unhide B5)).mono ?_
  rintro e w6 ⟨rfl, c6⟩
  have K6 := hide ((unhide K5).below c6)
  have B6 := hide ((unhide B5).trans (c6.mono (unhide B5).size))
  clear c6
  go_wp2_with fail
  have f0 : ∀ o1 o2 o3 o4, ((((w6.alloc o1).alloc o2).alloc o3).alloc o4).cell? ⟨bD, 0, none⟩ = some (.int .i64 (y : Int)) := fun o1 o2 o3 o4 => (((((unhide K6).alloc o1).alloc o2).alloc o3).alloc o4).1
  have f1 : ∀ o1 o2 o3 o4, ((((w6.alloc o1).alloc o2).alloc o3).alloc o4).cell? ⟨bD, 1, none⟩ = some (.int .i64 (m : Int)) := fun o1 o2 o3 o4 => (((((unhide K6).alloc o1).alloc o2).alloc o3).alloc o4).2.1
  have f2 : ∀ o1 o2 o3 o4, ((((w6.alloc o1).alloc o2).alloc o3).alloc o4).cell? ⟨bD, 2, none⟩ = some (.int .i64 (d : Int)) := fun o1 o2 o3 o4 => (((((unhide K6).alloc o1).alloc o2).alloc o3).alloc o4).2.2
  refine (unhide A9 _ (unhide B6)).mono ?_
  rintro e w7 ⟨rfl, hw⟩
  rw [hw]
  clear hw
  rcases unhide hc with ⟨q1, q2, q3 | ⟨rfl, q3⟩ | ⟨rfl, rfl, q3⟩⟩ | ⟨q1, q2, q3 | ⟨rfl, q3⟩ | ⟨rfl, rfl, q3⟩⟩
  all_goals
    clear hc
    go_wp2
    go_ret
    exact ⟨by simp [*], bal4 (unhide B6) _ _ _ _⟩
theorem walk_back (n0 m0 : Int) (w : World) (hM : Mon w) (hP : Pow w) (b1 : -9223372036854775808 ≤ n0) (b2 : n0 ≤ 9223372036854775807) (b3 : -9223372036854775808 ≤ m0) (b4 : m0 ≤ 9223372036854775807) :
    Calls Tryd.prog 8 #[.int .i64 n0, .int .i64 m0] w fun e w' => e = .returned (.bool true) ∧ Below w.heap.size w w' := by
  obtain ⟨y, m, d, h⟩ := dat_ex (wi n0) (wi_lo _) (wi_hi _)
  obtain ⟨y', m', d', h'⟩ := dat_ex (wi m0) (wi_lo _) (wi_hi _)
  refine walk_back_go n0 m0 y m d _ y' m' d' _ w hM hP b1 b2 b3 b4 rfl rfl h h' _ _ rfl rfl ?_
  have hl := bl_tx (y := y) (m := m) (d := d) (y' := y') (m' := m') (d' := d') (by have := h.y2; omega) (by have := h'.y2; omega) (by have := h.m2; omega) (by have := h'.m2; omega) (by have := h.d2; have := dm_hi y m; omega) (by have := h'.d2; have := dm_hi y' m'; omega)
  rw [hl]
  by_cases hlt : wi n0 < wi m0
  · have hb := h.back h' hlt
    refine Or.inl ⟨hlt, ?_, by omega⟩
    simp
    omega
  · refine Or.inr ⟨hlt, ?_, ?_⟩
    · have hb : ¬ (y < y' ∨ y = y' ∧ (m < m' ∨ m = m' ∧ d < d')) := fun hl => hlt (h.less h' hl)
      rw [← Bool.not_eq_true]
      simp
      omega
    · have hb : ¬ (y < y' ∨ y = y' ∧ (m < m' ∨ m = m' ∧ d < d')) := fun hl => hlt (h.less h' hl)
      omega
end Go.Proofs.YtjipemnphpnmiaaDoor
