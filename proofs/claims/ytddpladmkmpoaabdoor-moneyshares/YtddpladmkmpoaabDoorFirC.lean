import Derived.Test.YtddpladmkmpoaabDoorFirA
import Derived.Test.YtddpladmkmpoaabDoorFirB
namespace Go.Proofs.YtddpladmkmpoaabDoor
open Go.ChangeShapes Go.WideShapes Go.ChangeAt Go.RowKit
set_option linter.unusedVariables false
theorem info2 : (Tryd.prog.info? 2).map (fun i => (i.zero, i.size, i.bytes)) = some (some (.int .i64 0), 1, 8) := by kernel_rfl
theorem mkp (w : World) : (Instr.makeSlice 22 (.int .i64 3) (.int .i64 3)).run Tryd.prog w = .ok (.slice (some ⟨w.heap.size, 0, none⟩) 3 3) (w.alloc (.cells #[.int .i64 0, .int .i64 0, .int .i64 0] 2)) := by
  obtain ⟨i0, hi, hz0, hsz, hz2⟩ := info_parts info2
  have h := run_make (P := Tryd.prog) w 22 2 i0 (.int .i64 0) Tryd.underlying22 hi hz0 .i64 .i64 3 3 (by omega) (by omega) (by rw [hz2]; omega) (by omega)
  rw [hsz] at h
  have e : madeCells (Value.int .i64 0).cells (Int.toNat 3 * 1) = #[.int .i64 0, .int .i64 0, .int .i64 0] := by kernel_rfl
  rw [e] at h
  exact h
theorem fin3_eq (w : World) (n1 n2 n3 : Nat) : fin3 w n1 n2 n3 = (((w.alloc (.cells #[.int .i64 0, .int .i64 33, .int .u64 1, .int .i64 1, .int .i64 33, .int .u64 1, .int .i64 2, .int .i64 33, .int .u64 1] 50)).drewN n1).drewN n2).drewN n3 := by
  unfold fin3
  simp only [setCell_drewN]
  simp [go_sem]
theorem fin3_below (w : World) (n1 n2 n3 : Nat) : Below w.heap.size w (fin3 w n1 n2 n3) := by
  rw [fin3_eq]
  exact below_drewN (below_drewN (below_drewN (bal (Below.refl _ _) _) _) _) _
theorem fin3_sh (w : World) (n1 n2 n3 : Nat) : Sh3 (fin3 w n1 n2 n3) w.heap.size := by
  rw [fin3_eq]
  have h : Sh3 (w.alloc (.cells #[.int .i64 0, .int .i64 33, .int .u64 1, .int .i64 1, .int .i64 33, .int .u64 1, .int .i64 2, .int .i64 33, .int .u64 1] 50)) w.heap.size := by
    refine ⟨?_, ?_, ?_, ?_, ?_, ?_, ?_, ?_, ?_⟩ <;> simp
  exact ⟨h.c0, h.c1, h.c2, h.c3, h.c4, h.c5, h.c6, h.c7, h.c8⟩
theorem Sh3.alloc {w : World} {b : Nat} (h : Sh3 w b) (o : Obj) : Sh3 (w.alloc o) b := h.below (bal (Below.refl _ _) o)
theorem al3 {W : World} {a : Addr} {v : Value} (h : W.cell? a = some v) (o1 o2 o3 : Obj) : (((W.alloc o1).alloc o2).alloc o3).cell? a = some v := ((bal (bal (bal (Below.refl _ _) o1) o2) o3).cell (clt h)).trans h
theorem sum111 : sumSpec (fun _ => 1) 3 = (3, 0) := by decide
set_option maxRecDepth 100000 in
set_option maxHeartbeats 4000000 in
theorem split3 (b : Nat) (w : World) (hb : b < w.heap.size) (h0 : w.cell? ⟨b, 0, none⟩ = some (.int .i64 1)) (h1 : w.cell? ⟨b, 1, none⟩ = some (.int .i64 1)) (h2 : w.cell? ⟨b, 2, none⟩ = some (.int .i64 1)) :
    Calls Tryd.prog 12 #[.int .i64 100, .slice (some ⟨b, 0, none⟩) 3 3] w fun e w' => ∃ pb, e = .returned (.tuple #[.slice (some ⟨pb, 0, none⟩) 3 3, .int .i64 0]) ∧ w'.cell? ⟨pb, 0, none⟩ = some (.int .i64 34) ∧ w'.cell? ⟨pb, 2, none⟩ = some (.int .i64 33) ∧ Below w.heap.size w w' := by
  have A1 := hide (chk_yes 100 w (by decide))
  have A2 := hide (weigh_ok (fun _ => 1) b 0 3 3 (by decide) (by decide) (fun k hk => ⟨by decide, by decide⟩) w (fun k hk => by
    have : k = 0 ∨ k = 1 ∨ k = 2 := by omega
    rcases this with rfl | rfl | rfl
    · exact h0
    · exact h1
    · exact h2) 3 sum111 (by decide))
  have A3 := hide (sizeAny 100 w (by decide) (by decide))
  have F3 := hide (fun R hR => floor3 R b w hb h0 h1 h2 hR)
  have hmk := mkp
  clear hb h0 h1 h2
  go_enter Tryd.func12, Tryd.ntmps12
  go_wp2_with (first | (go_at_call 19; refine (unhide A1).mono ?_; rintro e w0 ⟨rfl, hw⟩; rw [hw]; clear hw) | (go_at_call 23; refine (unhide A2).mono ?_; rintro e w0 ⟨rfl, hw⟩; rw [hw]; clear hw) | (go_at_call 25; refine (unhide A3).mono ?_; rintro e w0 ⟨rfl, hw⟩; rw [hw]; clear hw))
  refine unhide F3 _ (hide ?_)
  intro n1 n2 n3
  have G1 := hide (fin3_sh w n1 n2 n3)
  have B1 := hide (fin3_below w n1 n2 n3)
  generalize fin3 w n1 n2 n3 = w1 at *
  obtain ⟨bs, hbs⟩ : ∃ bs, w.heap.size = bs := ⟨_, rfl⟩
  rw [hbs] at G1
  rw [hbs]
  have S3 := hide (sort3 bs w1 (unhide G1))
  clear F3 A1 A2 A3
  go_wp2_with fail
  refine (unhide S3).mono ?_
  rintro e w2 ⟨rfl, c2⟩
  have G2 := hide ((unhide G1).below c2)
  have B2 := hide ((unhide B1).trans (c2.mono (unhide B1).size))
  clear c2
  have x0 : ∀ o1 : Obj, (w2.alloc o1).cell? ⟨bs, 0, none⟩ = some (.int .i64 0) := fun o1 => ((unhide G2).alloc o1).c0
  have x1 : ∀ o1 : Obj, (w2.alloc o1).cell? ⟨bs, 1, none⟩ = some (.int .i64 33) := fun o1 => ((unhide G2).alloc o1).c1
  have x2 : ∀ o1 : Obj, (w2.alloc o1).cell? ⟨bs, 2, none⟩ = some (.int .u64 1) := fun o1 => ((unhide G2).alloc o1).c2
  have x3 : ∀ o1 o2 : Obj, ((w2.alloc o1).alloc o2).cell? ⟨bs, 3, none⟩ = some (.int .i64 1) := fun o1 o2 => (((unhide G2).alloc o1).alloc o2).c3
  have x4 : ∀ o1 o2 : Obj, ((w2.alloc o1).alloc o2).cell? ⟨bs, 4, none⟩ = some (.int .i64 33) := fun o1 o2 => (((unhide G2).alloc o1).alloc o2).c4
  have x5 : ∀ o1 o2 : Obj, ((w2.alloc o1).alloc o2).cell? ⟨bs, 5, none⟩ = some (.int .u64 1) := fun o1 o2 => (((unhide G2).alloc o1).alloc o2).c5
  have x6 : ∀ o1 o2 o3 : Obj, (((w2.alloc o1).alloc o2).alloc o3).cell? ⟨bs, 6, none⟩ = some (.int .i64 2) := fun o1 o2 o3 => ((((unhide G2).alloc o1).alloc o2).alloc o3).c6
  have x7 : ∀ o1 o2 o3 : Obj, (((w2.alloc o1).alloc o2).alloc o3).cell? ⟨bs, 7, none⟩ = some (.int .i64 33) := fun o1 o2 o3 => ((((unhide G2).alloc o1).alloc o2).alloc o3).c7
  have x8 : ∀ o1 o2 o3 : Obj, (((w2.alloc o1).alloc o2).alloc o3).cell? ⟨bs, 8, none⟩ = some (.int .u64 1) := fun o1 o2 o3 => ((((unhide G2).alloc o1).alloc o2).alloc o3).c8
  go_wp2
  refine wp_loop_rounds 5 ?_
  rw [rounds_succ]
  go_wp2
  rw [rounds_succ]
  go_wp2
  rw [rounds_succ]
  go_wp2
  rw [rounds_succ]
  go_wp2
  go_ret2
  refine ⟨w2.heap.size, rfl, al3 (by simp) _ _ _, al3 (by simp) _ _ _, bal (bal (bal (bal (unhide B2) _) _) _) _⟩
end Go.Proofs.YtddpladmkmpoaabDoor
