import Derived.Test.YtjipemnphpnmiaaDoorAdA
import Derived.Test.YtjipemnphpnmiaaDoorAmA
namespace Go.Proofs.YtjipemnphpnmiaaDoor
open Go.ChangeShapes Go.WideShapes Go.ChangeAt Go.RowKit
set_option linter.unusedVariables false
theorem dd_min (X d : Nat) (h1 : 1 ≤ d) (h2 : 1 ≤ X) : dd X d = ((min d X : Nat) : Int) := by
  unfold dd
  rw [if_neg (show ¬ (d : Int) < 1 by omega)]
  by_cases h : X < d
  · rw [if_pos (by omega)]
    omega
  · rw [if_neg (by omega)]
    omega
/-- the day so many months on -/
theorem dam_go (y m d n : Nat) (b : Int) (w : World) (hM : Mon w) (h : Dat y m d n) (t : Nat) (ht : (t : Int) = 12 * y + m - 1 + b) (h1 : 12 ≤ t) (h2 : t < 120000) :
    Calls Tryd.prog 26 #[.int .i64 n, .int .i64 b] w fun r w' => r = .returned (.tuple #[.int .i64 ((ahead (t / 12) + mb (t / 12) (t % 12 + 1) + min d (dm (t / 12) (t % 12 + 1)) : Nat) : Int), .int .i64 0]) ∧ Below w.heap.size w w' := by
  have hk := h.mon t h1 h2
  have hx := dm_lo (t / 12) (t % 12 + 1)
  refine dam_ok y m d n b w hM h (12 * y + m - 1) t (t / 12) (t % 12 + 1) (min d (dm (t / 12) (t % 12 + 1))) _ rfl (by have := h.m1; omega) h1 h2 rfl rfl (fun W hW => carry hW ?_) (fun W hW => carry hW (numb _ _ _ _ W (hM.below hW) hk))
  have := near (t / 12 : Nat) (t % 12 + 1 : Nat) d (t / 12) (t % 12 + 1) _ rfl W (hM.below hW) (Or.inr (Or.inr ⟨rfl, hk.y1, hk.y2⟩)) (Or.inr (Or.inr ⟨rfl, hk.m1, hk.m2⟩))
  rw [dd_min _ _ h.d1 (by omega)] at this
  exact this
theorem ram_go (y m d n : Nat) (b : Int) (w : World) (h : Dat y m d n) (t : Nat) (ht : (t : Int) = 12 * y + m - 1 + b) (h1 : 12 ≤ t) (h2 : t < 120000) :
    Calls Tryd.prog 27 #[.int .i64 n, .int .i64 b] w fun r w' => r = .returned (.tuple #[.int .i64 ((ahead (t / 12) + mb (t / 12) (t % 12 + 1) + min d (dm (t / 12) (t % 12 + 1)) : Nat) : Int), .int .i64 0]) ∧ Below w.heap.size w w' := by
  have hk := h.mon t h1 h2
  have hx := dm_lo (t / 12) (t % 12 + 1)
  exact ram_ok y m d n b w h (12 * y + m - 1) t (t / 12) (t % 12 + 1) (dm (t / 12) (t % 12 + 1)) (min d (dm (t / 12) (t % 12 + 1))) _ rfl (by have := h.m1; omega) h1 h2 rfl rfl (by omega) (fun W => rsize _ _ W hk.m1 hk.m2) (fun W hW => carry hW (rfrom_ok _ _ _ _ W hk))
/-- both AddMonths, at all numbers -/
theorem ams (n b : Int) (w : World) (hM : Mon w) : ∃ a e : Int, (∀ W, Below w.heap.size w W → Calls Tryd.prog 26 #[.int .i64 n, .int .i64 b] W fun r w' => r = .returned (.tuple #[.int .i64 a, .int .i64 e]) ∧ Below w.heap.size w w') ∧ (∀ W, Below w.heap.size w W → Calls Tryd.prog 27 #[.int .i64 n, .int .i64 b] W fun r w' => r = .returned (.tuple #[.int .i64 a, .int .i64 e]) ∧ Below w.heap.size w w') := by
  by_cases h : 1 ≤ n ∧ n ≤ 3652059
  · obtain ⟨k, rfl⟩ : ∃ k : Nat, n = k := ⟨n.toNat, by omega⟩
    obtain ⟨y, m, d, hd⟩ := dat_ex k (by omega) (by omega)
    have h1 := hd.y1
    have h2 := hd.y2
    have h3 := hd.m1
    have h4 := hd.m2
    by_cases h5 : 12 ≤ 12 * (y : Int) + m - 1 + b ∧ 12 * (y : Int) + m - 1 + b < 120000
    · obtain ⟨t, ht⟩ : ∃ t : Nat, (t : Int) = 12 * y + m - 1 + b := ⟨(12 * (y : Int) + m - 1 + b).toNat, by omega⟩
      exact ⟨_, _, fun W hW => carry hW (dam_go y m d k b W (hM.below hW) hd t ht (by omega) (by omega)), fun W hW => carry hW (ram_go y m d k b W hd t ht (by omega) (by omega))⟩
    · exact ⟨_, _, fun W hW => carry hW (dam_out y m d k b W (hM.below hW) hd _ rfl (by omega)), fun W hW => carry hW (ram_out y m d k b W hd _ rfl (by omega))⟩
  · exact ⟨_, _, fun W hW => carry hW (dam_no n b W (by omega)), fun W hW => carry hW (ram_no n b W (by omega))⟩
set_option maxHeartbeats 1000000 in
theorem walk_adds (n b : Int) (w : World) (hM : Mon w) : Calls Tryd.prog 6 #[.int .i64 n, .int .i64 b] w fun r w' => r = .returned (.bool true) ∧ Below w.heap.size w w' := by
  obtain ⟨a, e, hA, hB⟩ := adds n b
  obtain ⟨a2, e2, hC, hD⟩ := ams n b w hM
  have A := hide hA
  have B := hide hB
  have C := hide hC
  have D := hide hD
  clear hA hB hC hD hM
  go_enter Tryd.func6, Tryd.ntmps6
  go_wp2_with (first | (go_at_call 24; refine (unhide A _).mono ?_; rintro e w' ⟨rfl, hw⟩; subst hw) | (go_at_call 25; refine (unhide B _).mono ?_; rintro e w' ⟨rfl, hw⟩; subst hw) | (go_at_call 11; refine (alike_same _ _ _).mono ?_; rintro e w' ⟨rfl, hw⟩; subst hw))
  refine (unhide C _ (Below.refl _ _)).mono ?_
  rintro e1 w1 ⟨rfl, c1⟩
  go_wp2_with fail
  refine (unhide D _ c1).mono ?_
  rintro e3 w3 ⟨rfl, c3⟩
  have C3 := hide c3
  clear c1 c3
  go_wp2_with (first | (go_at_call 11; refine (alike_same _ _ _).mono ?_; rintro e w' ⟨rfl, hw⟩; subst hw))
  go_ret
  exact ⟨rfl, unhide C3⟩
end Go.Proofs.YtjipemnphpnmiaaDoor
