import Derived.Test.YtjipemnphpnmiabDoorRdA
namespace Go.Proofs.YtjipemnphpnmiabDoor
open Go.ChangeShapes Go.WideShapes Go.ChangeAt Go.RowKit
set_option linter.unusedVariables false
theorem rdig_all (n : Nat) (k : Int) (hk : k = 4 ∧ n < 10000 ∨ k = 2 ∧ n < 100) (w : World) : Calls Tryd.prog 34 #[.int .i64 (n : Int), .int .i64 k] w fun e w' => e = .returned (.string ⟨(pz n k).toArray⟩) ∧ Below w.heap.size w w' := by
  rcases hk with ⟨rfl, hk⟩ | ⟨rfl, hk⟩
  · have := rdig n 4 w (by omega) (by omega)
    rw [rdg4 n hk] at this
    exact this
  · have := rdig n 2 w (by omega) (by omega)
    rw [rdg2 n hk] at this
    exact this
theorem new2 (w : World) (o1 o2 : Obj) (a b c : Int) : (((w.alloc o1).alloc o2).alloc (.cells #[.int .i64 a, .int .i64 b, .int .i64 c] 48)).drew.cell? ⟨w.heap.size + 1 + 1, 0, none⟩ = some (.int .i64 a) ∧ (((w.alloc o1).alloc o2).alloc (.cells #[.int .i64 a, .int .i64 b, .int .i64 c] 48)).drew.cell? ⟨w.heap.size + 1 + 1, 1, none⟩ = some (.int .i64 b) ∧ (((w.alloc o1).alloc o2).alloc (.cells #[.int .i64 a, .int .i64 b, .int .i64 c] 48)).drew.cell? ⟨w.heap.size + 1 + 1, 2, none⟩ = some (.int .i64 c) := by
  have hs : w.heap.size + 1 + 1 = ((w.alloc o1).alloc o2).heap.size := by rw [World.size_alloc, World.size_alloc]
  rw [hs]
  generalize (w.alloc o1).alloc o2 = W
  refine ⟨?_, ?_, ?_⟩ <;> simp
set_option maxHeartbeats 2000000 in
theorem rprint_ok (y m d n : Nat) (w : World) (h : Dat y m d n) :
    Calls Tryd.prog 22 #[.int .i64 n] w fun e w' => e = .returned (.tuple #[.string ⟨(tx y m d).toArray⟩, .int .i64 0]) ∧ Below w.heap.size w w' := by
  have h6 := h.lo
  have h7 := h.hi
  have h2 := h.y2
  have h4 := h.m2
  have h5 : d ≤ 31 := Nat.le_trans h.d2 (dm_hi _ _)
  have l1 := pz_len y 4
  have l2 := pz_len m 2
  have l3 := pz_len d 2
  have q1 : ¬ 9223372036854775807 < (pz y 4).length + 1 := by omega
  have q2 : ¬ 9223372036854775807 < (pz y 4).length + 1 + (pz m 2).length := by omega
  have q3 : ¬ 9223372036854775807 < (pz y 4).length + 1 + (pz m 2).length + 1 := by omega
  have q4 : ¬ 9223372036854775807 < (pz y 4).length + 1 + (pz m 2).length + 1 + (pz d 2).length := by omega
  have H := hide h
  clear h
  go_enter Tryd.func22, Tryd.ntmps22
  go_wp2_with (first | (go_at_call 33; refine (rto_ok y m d n _ (unhide H)).mono ?_; rintro e w0 ⟨rfl, hw⟩; rw [hw]; clear hw))
  go_region_held3 (fun w' => w'.cell? ⟨w.heap.size + 1 + 1, 0, none⟩ = some (.int .i64 (y : Int)) ∧ w'.cell? ⟨w.heap.size + 1 + 1, 1, none⟩ = some (.int .i64 (m : Int)) ∧ w'.cell? ⟨w.heap.size + 1 + 1, 2, none⟩ = some (.int .i64 (d : Int))) (first | assumption | exact new2 _ _ _ _ _ _ | go_keep)
    (first | (go_at_call 34; have hx2 := unhide C2; refine (rdig_all _ _ (by omega) _).mono ?_; rintro e w3 ⟨rfl, hb3⟩; have C3 := hide ((unhide C2).trans (hb3.mono (unhide C2).size)); have K3 := keepS hb3 (unhide D2); clear hb3 hx2) | (go_at_call 34; have hx1 := unhide C1; refine (rdig_all _ _ (by omega) _).mono ?_; rintro e w2 ⟨rfl, hb2⟩; have C2 := hide ((unhide C1).trans (hb2.mono (unhide C1).size)); have K2 := keepS hb2 (unhide D1); have D2 := hide K2; clear hb2 hx1) | (go_at_call 34; refine (rdig_all _ _ (by omega) _).mono ?_; rintro e w1 ⟨rfl, hb1⟩; have C1 := hide ((bd3 _ _ _ _).trans (hb1.mono (bd3 w _ _ _).size)); have K1 := keepS (b := w.heap.size + 1 + 1) (x := .int .i64 (y : Int)) (y := .int .i64 (m : Int)) (z := .int .i64 (d : Int)) hb1 (new2 _ _ _ _ _ _); have D1 := hide K1; clear hb1))
  all_goals
    go_wp2
    go_ret2
    exact ⟨retSI (tx_glue y m d) rfl, unhide C3⟩
set_option maxHeartbeats 1000000 in
theorem rprint_bad (n : Int) (w : World) (h : n < 1 ∨ 1 ≤ n ∧ 3652059 < n) : Calls Tryd.prog 22 #[.int .i64 n] w fun e w' => e = .returned (.tuple #[.string ⟨#[]⟩, .int .i64 20]) ∧ Below w.heap.size w w' := by
  have H := hide h
  clear h
  go_enter Tryd.func22, Tryd.ntmps22
  go_wp2_with (first | (go_at_call 33; refine (rto_bad _ _ (unhide H)).mono ?_; rintro e w0 ⟨rfl, hw⟩; rw [hw]; clear hw))
  go_ret2
  exact ⟨rfl, by repeat (first | exact Below.refl _ _ | apply Below.drew | apply below_drewN | apply bal)⟩
/-- both Prints, at all numbers -/
theorem prints (n : Int) (w : World) (hM : Mon w) (hP : Pow w) : ∃ (T : ByteArray) (e : Int), (∀ W, Below w.heap.size w W → Calls Tryd.prog 21 #[.int .i64 n] W fun r w' => r = .returned (.tuple #[.string T, .int .i64 e]) ∧ Below W.heap.size W w') ∧ (∀ W, Below w.heap.size w W → Calls Tryd.prog 22 #[.int .i64 n] W fun r w' => r = .returned (.tuple #[.string T, .int .i64 e]) ∧ Below W.heap.size W w') := by
  by_cases h : 1 ≤ n ∧ n ≤ 3652059
  · obtain ⟨k, rfl⟩ : ∃ k : Nat, n = k := ⟨n.toNat, by omega⟩
    obtain ⟨y, m, d, hd⟩ := dat_ex k (by omega) (by omega)
    exact ⟨_, _, fun W hW => dprint_ok y m d k W (hM.below hW) (hP.below pow_no hW) hd, fun W hW => rprint_ok y m d k W hd⟩
  · exact ⟨_, _, fun W hW => dprint_bad n W (by omega), fun W hW => rprint_bad n W (by omega)⟩
end Go.Proofs.YtjipemnphpnmiabDoor
