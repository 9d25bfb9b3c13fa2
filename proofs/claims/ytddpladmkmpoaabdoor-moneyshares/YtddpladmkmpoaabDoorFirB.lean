import Derived.Test.YtddpladmkmpoaabDoorTxtB
import Derived.Deep.RegionWith
import Derived.Deep.RegionHeld3
namespace Go.Proofs.YtddpladmkmpoaabDoor
open Go.ChangeShapes Go.WideShapes Go.ChangeAt Go.RowKit
set_option linter.unusedVariables false
set_option maxHeartbeats 1000000 in
theorem nan0 (r : Nat) (w : World) : Calls Tryd.prog 47 #[.int .u64 (r : Int)] w fun e w' => e = .returned (.bool false) ∧ w' = w := by
  go_enter Tryd.func47, Tryd.ntmps47
  go_wp2
  go_ret
  exact ⟨by simp, rfl⟩
set_option maxHeartbeats 1000000 in
theorem cmp0 (r : Nat) (w : World) : Calls Tryd.prog 28 #[.int .u64 (r : Int), .int .u64 (r : Int)] w fun e w' => e = .returned (.int .i64 0) ∧ w' = w := by
  go_enter Tryd.func28, Tryd.ntmps28
  go_wp2_with (first | (go_at_call 47; refine (nan0 _ _).mono ?_; rintro e w' ⟨rfl, hw⟩; subst hw))
  go_ret
  exact ⟨by simp, rfl⟩
set_option maxHeartbeats 1000000 in
theorem clo0 (p1 q1 p2 q2 : Int) (r : Nat) (w : World) : Calls Tryd.prog 27 #[.agg #[.int .i64 p1, .int .i64 q1, .int .u64 (r : Int)], .agg #[.int .i64 p2, .int .i64 q2, .int .u64 (r : Int)]] w fun e w' => e = .returned (.int .i64 0) ∧ Below w.heap.size w w' := by
  go_enter Tryd.func27, Tryd.ntmps27
  go_wp2_with (first | (go_at_call 28; refine (cmp0 _ _).mono ?_; rintro e w' ⟨rfl, hw⟩; subst hw))
  go_ret
  exact ⟨rfl, by repeat (first | exact Below.refl _ _ | apply Below.drew | apply below_drewN | apply bal)⟩
/-- three shares of one rest -/
structure Sh3 (w : World) (b : Nat) : Prop where
  c0 : w.cell? ⟨b, 0, none⟩ = some (.int .i64 0)
  c1 : w.cell? ⟨b, 1, none⟩ = some (.int .i64 33)
  c2 : w.cell? ⟨b, 2, none⟩ = some (.int .u64 1)
  c3 : w.cell? ⟨b, 3, none⟩ = some (.int .i64 1)
  c4 : w.cell? ⟨b, 4, none⟩ = some (.int .i64 33)
  c5 : w.cell? ⟨b, 5, none⟩ = some (.int .u64 1)
  c6 : w.cell? ⟨b, 6, none⟩ = some (.int .i64 2)
  c7 : w.cell? ⟨b, 7, none⟩ = some (.int .i64 33)
  c8 : w.cell? ⟨b, 8, none⟩ = some (.int .u64 1)
theorem clt {w : World} {a : Addr} {v : Value} (h : w.cell? a = some v) : a.block < w.heap.size := by
  rcases Nat.lt_or_ge a.block w.heap.size with h' | h'
  · exact h'
  · simp [World.cell?, Array.getElem?_eq_none h'] at h
theorem Sh3.below {w w' : World} {b : Nat} (h : Sh3 w b) (hb : Below w.heap.size w w') : Sh3 w' b :=
  ⟨(hb.cell (clt h.c0)).trans h.c0, (hb.cell (clt h.c1)).trans h.c1, (hb.cell (clt h.c2)).trans h.c2, (hb.cell (clt h.c3)).trans h.c3, (hb.cell (clt h.c4)).trans h.c4, (hb.cell (clt h.c5)).trans h.c5, (hb.cell (clt h.c6)).trans h.c6, (hb.cell (clt h.c7)).trans h.c7, (hb.cell (clt h.c8)).trans h.c8⟩
theorem clo1 (p1 q1 p2 q2 : Int) (w : World) : Calls Tryd.prog 27 #[.agg #[.int .i64 p1, .int .i64 q1, .int .u64 1], .agg #[.int .i64 p2, .int .i64 q2, .int .u64 1]] w fun e w' => e = .returned (.int .i64 0) ∧ Below w.heap.size w w' := clo0 p1 q1 p2 q2 1 w
theorem Sh3.conj {w' : World} {b : Nat} (h : Sh3 w' b) : w'.cell? ⟨b, 0, none⟩ = some (.int .i64 0) ∧ w'.cell? ⟨b, 1, none⟩ = some (.int .i64 33) ∧ w'.cell? ⟨b, 2, none⟩ = some (.int .u64 1) ∧ w'.cell? ⟨b, 3, none⟩ = some (.int .i64 1) ∧ w'.cell? ⟨b, 4, none⟩ = some (.int .i64 33) ∧ w'.cell? ⟨b, 5, none⟩ = some (.int .u64 1) ∧ w'.cell? ⟨b, 6, none⟩ = some (.int .i64 2) ∧ w'.cell? ⟨b, 7, none⟩ = some (.int .i64 33) ∧ w'.cell? ⟨b, 8, none⟩ = some (.int .u64 1) := ⟨h.c0, h.c1, h.c2, h.c3, h.c4, h.c5, h.c6, h.c7, h.c8⟩
theorem Sh3.drew {w : World} {b : Nat} (h : Sh3 w b) : Sh3 w.drew b := ⟨h.c0, h.c1, h.c2, h.c3, h.c4, h.c5, h.c6, h.c7, h.c8⟩
theorem undrew {B : Nat} {W w1 : World} (h : Below B W.drew w1) : Below B W w1 := ⟨h.os, h.tape, h.output, h.size, h.block⟩
theorem ix0 (b : Nat) (W : World) : (Instr.indexAt 45 (.slice (some ⟨b, 0, none⟩) 3 3) (.int .i64 0)).run Tryd.prog W = .ok (.pointer (some ⟨b, 0, none⟩)) W := by
  simp [go_sem]
set_option maxRecDepth 100000 in
set_option maxHeartbeats 4000000 in
theorem ins3 (b : Nat) (w : World) (h : Sh3 w b) : Calls Tryd.prog 66 #[.slice (some ⟨b, 0, none⟩) 3 3, .int .i64 0, .int .i64 3, .func (.func 27) #[] #[]] w fun e w' => e = .returned (.tuple #[]) ∧ Below w.heap.size w w' := by
  have H := hide h
  have hw0 : IntKind.i64.wrap 0 = 0 := by decide
  have hw1 : IntKind.i64.wrap 1 = 1 := by decide
  clear h
  go_enter Tryd.func66, Tryd.ntmps66
  go_wp2
  refine wp_loop_rounds 5 ?_
  rw [rounds_succ]
  go_wp2
  refine wp_loop_rounds 3 ?_
  rw [rounds_succ]
  go_wp2
  go_region_held3 (fun w' => w'.cell? ⟨b, 0, none⟩ = some (.int .i64 0) ∧ w'.cell? ⟨b, 1, none⟩ = some (.int .i64 33) ∧ w'.cell? ⟨b, 2, none⟩ = some (.int .u64 1) ∧ w'.cell? ⟨b, 3, none⟩ = some (.int .i64 1) ∧ w'.cell? ⟨b, 4, none⟩ = some (.int .i64 33) ∧ w'.cell? ⟨b, 5, none⟩ = some (.int .u64 1) ∧ w'.cell? ⟨b, 6, none⟩ = some (.int .i64 2) ∧ w'.cell? ⟨b, 7, none⟩ = some (.int .i64 33) ∧ w'.cell? ⟨b, 8, none⟩ = some (.int .u64 1)) (first | exact K1 | exact (unhide H).drew.conj | go_keep) (first | (go_at_call 27; refine (clo1 _ _ _ _ _).mono ?_; rintro e w1 ⟨rfl, hb1⟩; have H1 := hide ((unhide H).drew.below hb1); have B1 := hide (undrew hb1); have K1 := (unhide H1).conj; clear hb1))
  clear K1
  go_wp2
  rw [rounds_succ]
  go_wp2
  refine wp_loop_rounds 3 ?_
  rw [rounds_succ]
  go_wp2
  go_region_held3 (fun w' => w'.cell? ⟨b, 0, none⟩ = some (.int .i64 0) ∧ w'.cell? ⟨b, 1, none⟩ = some (.int .i64 33) ∧ w'.cell? ⟨b, 2, none⟩ = some (.int .u64 1) ∧ w'.cell? ⟨b, 3, none⟩ = some (.int .i64 1) ∧ w'.cell? ⟨b, 4, none⟩ = some (.int .i64 33) ∧ w'.cell? ⟨b, 5, none⟩ = some (.int .u64 1) ∧ w'.cell? ⟨b, 6, none⟩ = some (.int .i64 2) ∧ w'.cell? ⟨b, 7, none⟩ = some (.int .i64 33) ∧ w'.cell? ⟨b, 8, none⟩ = some (.int .u64 1)) (first | exact K2 | exact (unhide H1).drew.conj | go_keep) (first | (go_at_call 27; refine (clo1 _ _ _ _ _).mono ?_; rintro e w2 ⟨rfl, hb2⟩; have H2 := hide ((unhide H1).drew.below hb2); have B2 := hide (undrew hb2); have K2 := (unhide H2).conj; clear hb2))
  clear K2
  go_wp2
  rw [rounds_succ]
  go_wp2
  exact bodyPost_end (v := .tuple #[]) (by simp [results, Tryd.results66, go_sem]) rfl ⟨rfl, (unhide B1).trans ((unhide B2).mono (unhide B1).size)⟩
set_option maxRecDepth 100000 in
set_option maxHeartbeats 4000000 in
theorem stab3 (b : Nat) (w : World) (h : Sh3 w b) : Calls Tryd.prog 46 #[.slice (some ⟨b, 0, none⟩) 3 3, .int .i64 3, .func (.func 27) #[] #[]] w fun e w' => e = .returned (.tuple #[]) ∧ Below w.heap.size w w' := by
  have A := hide (ins3 b w h)
  clear h
  go_enter Tryd.func46, Tryd.ntmps46
  go_wp2
  refine wp_loop_rounds 3 ?_
  rw [rounds_succ]
  go_wp2_with fail
  refine (unhide A).mono ?_
  rintro e w1 ⟨rfl, hb1⟩
  have B1 := hide hb1
  clear hb1
  go_wp2
  refine wp_loop_rounds 3 ?_
  rw [rounds_succ]
  go_wp2
  exact bodyPost_end (v := .tuple #[]) (by simp [results, Tryd.results46, go_sem]) rfl ⟨rfl, unhide B1⟩
set_option maxHeartbeats 1000000 in
theorem sort3 (b : Nat) (w : World) (h : Sh3 w b) : Calls Tryd.prog 26 #[.slice (some ⟨b, 0, none⟩) 3 3, .func (.func 27) #[] #[]] w fun e w' => e = .returned (.tuple #[]) ∧ Below w.heap.size w w' := by
  have A := hide (stab3 b w h)
  clear h
  go_enter Tryd.func26, Tryd.ntmps26
  go_wp2_with fail
  refine (unhide A).mono ?_
  rintro e w1 ⟨rfl, hb1⟩
  have B1 := hide hb1
  clear hb1
  go_wp2
  exact bodyPost_end (v := .tuple #[]) (by simp [results, Tryd.results26, go_sem]) rfl ⟨rfl, unhide B1⟩
end Go.Proofs.YtddpladmkmpoaabDoor
