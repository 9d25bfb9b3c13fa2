import Derived.Test.YtddpladmkmpoaabDoorBakA
namespace Go.Proofs.YtddpladmkmpoaabDoor
open Go.ChangeShapes Go.WideShapes Go.ChangeAt Go.RowKit
set_option linter.unusedVariables false
set_option maxRecDepth 100000 in
set_option maxHeartbeats 4000000 in
theorem back_mm  (w : World) (hG : Ground w) :
    Calls Tryd.prog 6 #[.int .i64 (-9223372036854775808), .int .i64 (-9223372036854775808)] w fun e w' => e = .returned (.bool true) ∧ Below w.heap.size w w' := by
  have A0 := hide (first_ok w hG.pow)
  have G := hide hG
  clear hG
  go_enter Tryd.func6, Tryd.ntmps6
  go_wp2_with fail
  refine (unhide A0).mono ?_
  rintro e w1 ⟨rfl, hb1⟩
  have B1 := hide hb1
  clear hb1
  go_wp2
  go_loopw [6] (fun vd wr => ∃ D : Nat, D ≤ 7 ∧ vd = .int .i64 D ∧ Below w.heap.size w wr) (fun i _ => 7 - (RowKit.intOf i).toNat)
  case atStart => exact ⟨0, by omega, rfl, unhide B1⟩
  case round =>
    rename_i wr
    obtain ⟨D, hD, rfl, hb⟩ := hrel
    have BR := hide hb
    clear hb
    by_cases hlt : D ≤ 6
    · have hI : (D : Int) ≤ 6 := by omega
      have P1 := hide (fun W (hW : Below w.heap.size w W) => (mprint_min D W (by omega) hI).mono (fun e w' h => (⟨h.1, h.2 ▸ Below.refl _ _⟩ : e = .returned (.tuple #[.string ⟨#[]⟩, .int .i64 10]) ∧ Below W.heap.size W w')))
      have P2 := hide (fun W (hW : Below w.heap.size w W) => (mprint_min D W (by omega) hI).mono (fun e w' h => (⟨h.1, h.2 ▸ Below.refl _ _⟩ : e = .returned (.tuple #[.string ⟨#[]⟩, .int .i64 10]) ∧ Below W.heap.size W w')))
      go_wp2_with fail
      refine (unhide P1 _ (unhide BR)).mono ?_
      rintro e w2 ⟨rfl, c2⟩
      have B2 := hide ((unhide BR).trans (c2.mono (unhide BR).size))
      clear c2
      go_wp2_with fail
      refine (unhide P2 _ (unhide B2)).mono ?_
      rintro e w3 ⟨rfl, c3⟩
      have B3 := hide ((unhide B2).trans (c3.mono (unhide B2).size))
      clear c3
      go_wp2
      exact ⟨⟨D + 1, by omega, by go_num, unhide B3⟩, by simp [RowKit.intOf]; omega⟩
    · have hI : ¬ (D : Int) ≤ 6 := by omega
      go_wp2
      go_ret
      exact ⟨rfl, unhide BR⟩
set_option maxRecDepth 100000 in
set_option maxHeartbeats 4000000 in
theorem back_mg (b : Int) (k1 : -9223372036854775807 ≤ b) (k2 : b ≤ 9223372036854775807) (w : World) (hG : Ground w) :
    Calls Tryd.prog 6 #[.int .i64 (-9223372036854775808), .int .i64 b] w fun e w' => e = .returned (.bool true) ∧ Below w.heap.size w w' := by
  have A0 := hide (first_ok w hG.pow)
  have G := hide hG
  have mb : (b == -9223372036854775808) = false := by rw [beq_eq_false_iff_ne]; omega
  have HB := hide (And.intro k1 k2)
  clear k1 k2
  clear hG
  go_enter Tryd.func6, Tryd.ntmps6
  go_wp2_with fail
  refine (unhide A0).mono ?_
  rintro e w1 ⟨rfl, hb1⟩
  have B1 := hide hb1
  clear hb1
  go_wp2
  go_loopw [6] (fun vd wr => ∃ D : Nat, D ≤ 7 ∧ vd = .int .i64 D ∧ Below w.heap.size w wr) (fun i _ => 7 - (RowKit.intOf i).toNat)
  case atStart => exact ⟨0, by omega, rfl, unhide B1⟩
  case round =>
    rename_i wr
    obtain ⟨D, hD, rfl, hb⟩ := hrel
    have BR := hide hb
    clear hb
    by_cases hlt : D ≤ 6
    · have hI : (D : Int) ≤ 6 := by omega
      have P1 := hide (fun W (hW : Below w.heap.size w W) => (mprint_min D W (by omega) hI).mono (fun e w' h => (⟨h.1, h.2 ▸ Below.refl _ _⟩ : e = .returned (.tuple #[.string ⟨#[]⟩, .int .i64 10]) ∧ Below W.heap.size W w')))
      have P2 := hide (fun W (hW : Below w.heap.size w W) => mprint_any b D W (unhide HB).1 (unhide HB).2 hlt ((unhide G).below hW).pow)
      go_wp2_with fail
      refine (unhide P1 _ (unhide BR)).mono ?_
      rintro e w2 ⟨rfl, c2⟩
      have B2 := hide ((unhide BR).trans (c2.mono (unhide BR).size))
      clear c2
      go_wp2_with fail
      refine (unhide P2 _ (unhide B2)).mono ?_
      rintro e w3 ⟨rfl, c3⟩
      have B3 := hide ((unhide B2).trans (c3.mono (unhide B2).size))
      clear c3
      go_wp2
      exact ⟨⟨D + 1, by omega, by go_num, unhide B3⟩, by simp [RowKit.intOf]; omega⟩
    · have hI : ¬ (D : Int) ≤ 6 := by omega
      go_wp2
      go_ret
      exact ⟨rfl, unhide BR⟩
set_option maxRecDepth 100000 in
set_option maxHeartbeats 4000000 in
theorem back_gm (a : Int) (h1 : -9223372036854775807 ≤ a) (h2 : a ≤ 9223372036854775807) (w : World) (hG : Ground w) :
    Calls Tryd.prog 6 #[.int .i64 a, .int .i64 (-9223372036854775808)] w fun e w' => e = .returned (.bool true) ∧ Below w.heap.size w w' := by
  have A0 := hide (first_ok w hG.pow)
  have G := hide hG
  have ma : (a == -9223372036854775808) = false := by rw [beq_eq_false_iff_ne]; omega
  have HA := hide (And.intro h1 h2)
  clear h1 h2
  clear hG
  go_enter Tryd.func6, Tryd.ntmps6
  go_wp2_with fail
  refine (unhide A0).mono ?_
  rintro e w1 ⟨rfl, hb1⟩
  have B1 := hide hb1
  clear hb1
  go_wp2
  go_loopw [6] (fun vd wr => ∃ D : Nat, D ≤ 7 ∧ vd = .int .i64 D ∧ Below w.heap.size w wr) (fun i _ => 7 - (RowKit.intOf i).toNat)
  case atStart => exact ⟨0, by omega, rfl, unhide B1⟩
  case round =>
    rename_i wr
    obtain ⟨D, hD, rfl, hb⟩ := hrel
    have BR := hide hb
    clear hb
    by_cases hlt : D ≤ 6
    · have hI : (D : Int) ≤ 6 := by omega
      have P1 := hide (fun W (hW : Below w.heap.size w W) => mprint_any a D W (unhide HA).1 (unhide HA).2 hlt ((unhide G).below hW).pow)
      have P2 := hide (fun W (hW : Below w.heap.size w W) => (mprint_min D W (by omega) hI).mono (fun e w' h => (⟨h.1, h.2 ▸ Below.refl _ _⟩ : e = .returned (.tuple #[.string ⟨#[]⟩, .int .i64 10]) ∧ Below W.heap.size W w')))
      go_wp2_with fail
      refine (unhide P1 _ (unhide BR)).mono ?_
      rintro e w2 ⟨rfl, c2⟩
      have B2 := hide ((unhide BR).trans (c2.mono (unhide BR).size))
      clear c2
      go_wp2_with fail
      refine (unhide P2 _ (unhide B2)).mono ?_
      rintro e w3 ⟨rfl, c3⟩
      have B3 := hide ((unhide B2).trans (c3.mono (unhide B2).size))
      clear c3
      go_wp2
      exact ⟨⟨D + 1, by omega, by go_num, unhide B3⟩, by simp [RowKit.intOf]; omega⟩
    · have hI : ¬ (D : Int) ≤ 6 := by omega
      go_wp2
      go_ret
      exact ⟨rfl, unhide BR⟩
/-- the law -/
theorem back_walk (a b : Int) (w : World) (hG : Ground w) (h1 : -9223372036854775808 ≤ a) (h2 : a ≤ 9223372036854775807) (k1 : -9223372036854775808 ≤ b) (k2 : b ≤ 9223372036854775807) :
    Calls Tryd.prog 6 #[.int .i64 a, .int .i64 b] w fun e w' => e = .returned (.bool true) ∧ Below w.heap.size w w' := by
  by_cases ha : a = -9223372036854775808
  · by_cases hb : b = -9223372036854775808
    · subst ha
      subst hb
      exact back_mm w hG
    · subst ha
      exact back_mg b (by omega) k2 w hG
  · by_cases hb : b = -9223372036854775808
    · subst hb
      exact back_gm a (by omega) h2 w hG
    · exact back_good a b w hG (by omega) h2 (by omega) k2
end Go.Proofs.YtddpladmkmpoaabDoor
