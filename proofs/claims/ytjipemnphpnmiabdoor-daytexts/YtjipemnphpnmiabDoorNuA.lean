import Derived.Test.YtjipemnphpnmiabDoorDaA
namespace Go.Proofs.YtjipemnphpnmiabDoor
open Go.ChangeShapes Go.WideShapes Go.ChangeAt Go.RowKit
set_option linter.unusedVariables false
theorem ahead_int (y : Nat) (h : 1 ≤ y) : ((y : Int) - 1) * 365 + ((y : Int) - 1) / 4 - ((y : Int) - 1) / 100 + ((y : Int) - 1) / 400 = (ahead y : Int) := by
  obtain ⟨k, rfl⟩ : ∃ k, y = k + 1 := ⟨y - 1, by omega⟩
  unfold ahead
  have : k / 100 ≤ k / 4 := Nat.div_le_div_left (by decide) (by decide)
  have e : ((k + 1 : Nat) : Int) - 1 = (k : Int) := by omega
  rw [e, Nat.add_sub_cancel]
  omega
theorem ahead_hi (y : Nat) (h1 : 1 ≤ y) (h : y ≤ 9999) : ahead y ≤ 3652059 := by
  have h3 := ahead_le (y := y) (z := 10000) h1 (by omega)
  rw [ahead_end] at h3
  exact h3
theorem mb_hi (y m : Nat) (h1 : 1 ≤ m) (h : m ≤ 12) : mb y m ≤ 366 := by
  have h3 := mb_le y (m := m) (k := 13) h1 (by omega)
  rw [mb_end] at h3
  have := yl_cases y
  omega
set_option maxHeartbeats 2000000 in
theorem numb (y m d n : Nat) (w : World) (hM : Mon w) (h : Dat y m d n) :
    Calls Tryd.prog 27 #[.agg #[.int .i64 y, .int .i64 m, .int .i64 d]] w fun e w' => e = .returned (.int .i64 n) ∧ Below w.heap.size w w' := by
  have h1 := h.y1
  have h2 := h.y2
  have h3 := h.m1
  have h4 := h.m2
  have h5 := h.d1
  have h6 : d ≤ 31 := Nat.le_trans h.d2 (dm_hi _ _)
  have hn := hide h.num
  have hA := hide (ahead_int y h1)
  have hA2 := hide (ahead_hi y h1 h2)
  have HM := hide hM
  have HI := hide (fun k (h1 : 1 ≤ k) (h2 : k ≤ 12) => mb_hi y k h1 h2)
  clear h hM
  go_enter Tryd.func27, Tryd.ntmps27
  go_wp2
  go_loop [4, 5] (fun vn vm => ∃ k : Nat, 1 ≤ k ∧ k ≤ m ∧ vm = .int .i64 k ∧ vn = .int .i64 ((ahead y + d + mb y k : Nat) : Int)) (fun _ i => m - (RowKit.intOf i).toNat)
  case atStart =>
    refine ⟨1, by omega, by omega, rfl, ?_⟩
    rw [mb_one, unhide hA]
    go_num
  case round =>
    obtain ⟨k, hk1, hk2, rfl, rfl⟩ := hrel
    by_cases hlt : k < m
    · have DC := hide (dof y k _ (mon1 (unhide HM) (.cells #[.int .i64 y, .int .i64 m, .int .i64 d] 25)) hk1 (by omega))
      have hs := hide (mb_succ y k hk1)
      have hx1 := dm_lo y k
      have hx2 := dm_hi y k
      have hb := unhide HI k hk1 (by omega)
      have ha := unhide hA2
      obtain ⟨T, hT⟩ : ∃ T, ahead y + d + mb y k = T := ⟨_, rfl⟩
      obtain ⟨X, hX⟩ : ∃ X, dm y k = X := ⟨_, rfl⟩
      have hT2 : T ≤ 3700000 := by omega
      rw [hT]
      rw [hX] at DC hx1 hx2
      have HT := hide hT
      have HX := hide hX
      clear hT hX hb ha
      go_wp2_with (go_at_call 26; refine (unhide DC).mono ?_; rintro e w' ⟨rfl, hw⟩; subst hw)
      go_round
      case rel =>
        refine ⟨k + 1, by omega, by omega, by go_num, ?_⟩
        rw [unhide hs, unhide HX, ← Nat.add_assoc, unhide HT]
        go_num
      case measure => simp [RowKit.intOf]; omega
    · have : k = m := by omega
      subst this
      go_wp2
      go_ret
      exact ⟨retI (by rw [unhide hn]; congr 1; omega), by repeat (first | exact Below.refl _ _ | apply Below.drew | apply bal)⟩
/-- what the divisions of a day's number come to -/
theorem parts_int (y m d n : Nat) (h : Dat y m d n) : ∃ a b c e r : Nat, Cyc y a b c e ∧ r + 1 = mb y m + d ∧ r < yl y ∧
    ((n : Int) - 1) / 146097 = a ∧ ((n : Int) - 1) % 146097 = ((36524 * b + 1461 * c + 365 * e + r : Nat) : Int) ∧ b ≤ 3 ∧ c ≤ 24 ∧ e ≤ 3 ∧ a ≤ 24 := by
  obtain ⟨a, b, c, e, k⟩ := cyc_ex y h.y1
  have h1 := h.inYear
  have h2 := h.d1
  have hr : mb y m + d - 1 < yl y := by omega
  have h3 := k.parts hr
  have h4 := h.num
  have h5 := k.eq
  have h6 := h.y2
  refine ⟨a, b, c, e, mb y m + d - 1, k, by omega, hr, ?_, ?_, k.b3, k.c24, k.e3, by omega⟩
  · have := h3.1
    omega
  · have := h3.2.1
    omega
end Go.Proofs.YtjipemnphpnmiabDoor
