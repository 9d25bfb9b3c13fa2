import Derived.Test.YtcafhmlpmbkhkaaGreatDoorWideA
namespace Go.Proofs.YtcafhmlpmbkhkaaGreatDoor.Mw
open Go.ChangeShapes Go.WideShapes Go.ChangeAt Go.RowKit
set_option linter.unusedVariables false
attribute [local go_sem] setCell_drewN alloc_drewN

theorem ret_bool {a b : Bool} (h : a = b) : Ending.returned (.bool a) = .returned (.bool b) := by rw [h]
theorem ret_ib {a b : Int} {c d : Bool} (h : a = b) (k : c = d) : Ending.returned (.tuple #[.int .i64 a, .bool c]) = .returned (.tuple #[.int .i64 b, .bool d]) := by rw [h, k]
theorem p6 : (4294967296 : Int) ^ 6 = 6277101735386680763835789423207666416102355444464034512896 := by decide
theorem p6n : 4294967296 ^ 6 = 6277101735386680763835789423207666416102355444464034512896 := by decide

set_option maxHeartbeats 2000000 in
theorem minus_raw (x y : Nat → Int) (hx : digs x) (hy : digs y) (w : World) :
    Calls Tryz.prog 147 #[.agg #[.int .u64 (x 0), .int .u64 (x 1), .int .u64 (x 2), .int .u64 (x 3), .int .u64 (x 4), .int .u64 (x 5)], .agg #[.int .u64 (y 0), .int .u64 (y 1), .int .u64 (y 2), .int .u64 (y 3), .int .u64 (y 4), .int .u64 (y 5)]] w fun e w' => ∃ (z : Nat → Int) (b : Int), e = .returned (.agg #[.int .u64 (z 0), .int .u64 (z 1), .int .u64 (z 2), .int .u64 (z 3), .int .u64 (z 4), .int .u64 (z 5)]) ∧ 0 ≤ b ∧ b ≤ 1 ∧ digs z ∧ minusRel x y z 6 b ∧ Below w.heap.size w w' := by
  go_enter Tryz.func147, Tryz.ntmps147
  go_wp2
  go_loopw [6, 7] (fun c i wr => ∃ (k : Nat) (c' : Int) (n : Nat) (z : Nat → Int), k ≤ 6 ∧ i = .int .i64 k ∧ c = .int .u64 c' ∧ 0 ≤ c' ∧ c' ≤ 1 ∧ digs z ∧ minusRel x y z k c' ∧ wr = ((((w.alloc (.cells #[.int .u64 (x 0), .int .u64 (x 1), .int .u64 (x 2), .int .u64 (x 3), .int .u64 (x 4), .int .u64 (x 5)] 202)).alloc (.cells #[.int .u64 (y 0), .int .u64 (y 1), .int .u64 (y 2), .int .u64 (y 3), .int .u64 (y 4), .int .u64 (y 5)] 202)).alloc (.cells #[.int .u64 0, .int .u64 0, .int .u64 0, .int .u64 0, .int .u64 0, .int .u64 0] 202)).alloc (.cells #[.int .u64 (z 0), .int .u64 (z 1), .int .u64 (z 2), .int .u64 (z 3), .int .u64 (z 4), .int .u64 (z 5)] 202)).drewN n) (fun _ i _ => 6 - (intOf i).toNat)
  case atStart => exact ⟨0, 0, 0, fun _ => 0, by omega, rfl, rfl, by omega, by omega, fun _ => by simp, minusRel_zero x y, rfl⟩
  case round =>
    obtain ⟨k, c', n, z, hk, rfl, rfl, hc0, hc1, hz, hr, rfl⟩ := hrel
    have hk' : k = 6 ∨ k = 0 ∨ k = 1 ∨ k = 2 ∨ k = 3 ∨ k = 4 ∨ k = 5 := by omega
    rcases hk' with rfl | hk'
    · go_wp2
      exact bodyPost_ret (v := .agg #[.int .u64 (z 0), .int .u64 (z 1), .int .u64 (z 2), .int .u64 (z 3), .int .u64 (z 4), .int .u64 (z 5)]) (by simp [results, Tryz.results147, go_sem]) rfl ⟨z, c', rfl, hc0, hc1, hz, hr, by repeat (first | exact Below.refl _ _ | apply below_drewN | apply bal)⟩
    rcases hk' with rfl | rfl | rfl | rfl | rfl | rfl
    · obtain ⟨hx0, hx1⟩ := hx 0
      obtain ⟨hy0, hy1⟩ := hy 0
      go_wp2
      go_quiet (fail)
      go_wp2
      exact ⟨⟨1, 1 - (x 0 + 4294967296 - y 0 - c') / 4294967296, n + nq, upd z 0 ((x 0 + 4294967296 - y 0 - c') % 4294967296), by omega, rfl, rfl, by omega, by omega, digs_upd hz _ _ (by omega) (by omega), minusRel_step hr _ _ _ (by omega) rfl, by simp [upd]⟩, by simp [intOf]⟩
    · obtain ⟨hx0, hx1⟩ := hx 1
      obtain ⟨hy0, hy1⟩ := hy 1
      go_wp2
      go_quiet (fail)
      go_wp2
      exact ⟨⟨2, 1 - (x 1 + 4294967296 - y 1 - c') / 4294967296, n + nq, upd z 1 ((x 1 + 4294967296 - y 1 - c') % 4294967296), by omega, rfl, rfl, by omega, by omega, digs_upd hz _ _ (by omega) (by omega), minusRel_step hr _ _ _ (by omega) rfl, by simp [upd]⟩, by simp [intOf]⟩
    · obtain ⟨hx0, hx1⟩ := hx 2
      obtain ⟨hy0, hy1⟩ := hy 2
      go_wp2
      go_quiet (fail)
      go_wp2
      exact ⟨⟨3, 1 - (x 2 + 4294967296 - y 2 - c') / 4294967296, n + nq, upd z 2 ((x 2 + 4294967296 - y 2 - c') % 4294967296), by omega, rfl, rfl, by omega, by omega, digs_upd hz _ _ (by omega) (by omega), minusRel_step hr _ _ _ (by omega) rfl, by simp [upd]⟩, by simp [intOf]⟩
    · obtain ⟨hx0, hx1⟩ := hx 3
      obtain ⟨hy0, hy1⟩ := hy 3
      go_wp2
      go_quiet (fail)
      go_wp2
      exact ⟨⟨4, 1 - (x 3 + 4294967296 - y 3 - c') / 4294967296, n + nq, upd z 3 ((x 3 + 4294967296 - y 3 - c') % 4294967296), by omega, rfl, rfl, by omega, by omega, digs_upd hz _ _ (by omega) (by omega), minusRel_step hr _ _ _ (by omega) rfl, by simp [upd]⟩, by simp [intOf]⟩
    · obtain ⟨hx0, hx1⟩ := hx 4
      obtain ⟨hy0, hy1⟩ := hy 4
      go_wp2
      go_quiet (fail)
      go_wp2
      exact ⟨⟨5, 1 - (x 4 + 4294967296 - y 4 - c') / 4294967296, n + nq, upd z 4 ((x 4 + 4294967296 - y 4 - c') % 4294967296), by omega, rfl, rfl, by omega, by omega, digs_upd hz _ _ (by omega) (by omega), minusRel_step hr _ _ _ (by omega) rfl, by simp [upd]⟩, by simp [intOf]⟩
    · obtain ⟨hx0, hx1⟩ := hx 5
      obtain ⟨hy0, hy1⟩ := hy 5
      go_wp2
      go_quiet (fail)
      go_wp2
      exact ⟨⟨6, 1 - (x 5 + 4294967296 - y 5 - c') / 4294967296, n + nq, upd z 5 ((x 5 + 4294967296 - y 5 - c') % 4294967296), by omega, rfl, rfl, by omega, by omega, digs_upd hz _ _ (by omega) (by omega), minusRel_step hr _ _ _ (by omega) rfl, by simp [upd]⟩, by simp [intOf]⟩

theorem minus_any (m n : Nat) (hm : m < 4294967296 ^ 6) (h : n ≤ m) (w : World) :
    Calls Tryz.prog 147 #[wv m, wv n] w fun e w' => e = .returned (wv (m - n)) ∧ Below w.heap.size w w' := by
  unfold wv
  refine (minus_raw (dg m) (dg n) (digs_dg m) (digs_dg n) w).mono fun e w' hh => ?_
  obtain ⟨z, c, rfl, hc0, hc1, hz, hr, hb⟩ := hh
  refine ⟨?_, hb⟩
  have hn : n < 4294967296 ^ 6 := by omega
  unfold minusRel at hr
  rw [sm_dg6 m hm, sm_dg6 n hn] at hr
  have hs := sm_nonneg hz 6
  exact ret_wv hz _ (by
    rw [p6] at hr hs
    rw [p6n] at hm
    omega)

theorem below_dec {x y : Nat → Int} (hx : digs x) (hy : digs y) (k : Nat) (hk : k < 6) (he : ∀ i, k < i → i < 6 → x i = y i) (hne : x k ≠ y k) : decide (x k < y k) = decide (sm x 6 < sm y 6) := by
  by_cases h : x k < y k
  · have := below_high hx hy k hk he h
    simp [h, this]
  · have := below_high hy hx k hk (fun i a b => (he i a b).symm) (by omega)
    have h2 : ¬ sm x 6 < sm y 6 := by omega
    simp [h, h2]

/-- is m below n? (a name that the walk does not open) -/
def ltB (m n : Nat) : Bool := decide (m < n)
def eqFrom (x y : Nat → Int) (k : Nat) : Prop := ∀ i, k ≤ i → i < 6 → x i = y i

set_option maxHeartbeats 2000000 in
theorem below_raw (x y : Nat → Int) (hx : digs x) (hy : digs y) (w : World) :
    Calls Tryz.prog 146 #[.agg #[.int .u64 (x 0), .int .u64 (x 1), .int .u64 (x 2), .int .u64 (x 3), .int .u64 (x 4), .int .u64 (x 5)], .agg #[.int .u64 (y 0), .int .u64 (y 1), .int .u64 (y 2), .int .u64 (y 3), .int .u64 (y 4), .int .u64 (y 5)]] w fun e w' => e = .returned (.bool (decide (sm x 6 < sm y 6))) ∧ Below w.heap.size w w' := by
  go_enter Tryz.func146, Tryz.ntmps146
  go_wp2
  go_loopw [5] (fun i wr => ∃ (k : Nat) (n : Nat), k ≤ 6 ∧ i = .int .i64 ((k : Int) - 1) ∧ eqFrom x y k ∧ wr = ((w.alloc (.cells #[.int .u64 (x 0), .int .u64 (x 1), .int .u64 (x 2), .int .u64 (x 3), .int .u64 (x 4), .int .u64 (x 5)] 202)).alloc (.cells #[.int .u64 (y 0), .int .u64 (y 1), .int .u64 (y 2), .int .u64 (y 3), .int .u64 (y 4), .int .u64 (y 5)] 202)).drewN n) (fun i _ => (intOf i + 1).toNat)
  case atStart => exact ⟨6, 0, by omega, rfl, fun i _ _ => by omega, rfl⟩
  case round =>
    obtain ⟨k, n, hk, rfl, hr, rfl⟩ := hrel
    have hk' : k = 0 ∨ k = 1 ∨ k = 2 ∨ k = 3 ∨ k = 4 ∨ k = 5 ∨ k = 6 := by omega
    rcases hk' with rfl | hk'
    · have he := below_same (fun i hi => hr i (by omega) hi)
      go_wp2
      go_ret
      refine ⟨ret_bool (by rw [he]; simp), by repeat (first | exact Below.refl _ _ | apply below_drewN | apply bal)⟩
    rcases hk' with rfl | rfl | rfl | rfl | rfl | rfl
    · by_cases hq : x 0 = y 0
      · have H : Hid (x 0 = y 0) := hq
        have hb : (x 0 != y 0) = false := by rw [bne_eq_false_iff_eq]; exact hq
        clear hq
        go_wp2
        go_quiet (fail)
        go_wp2
        exact ⟨⟨0, n + nq, by omega, rfl, fun j h1 h2 => by
          by_cases ej : j = 0
          · subst ej; exact H.out
          · exact hr j (by omega) h2, rfl⟩, by simp [intOf]⟩
      · have H : Hid (x 0 ≠ y 0) := hq
        have hb : (x 0 != y 0) = true := by rw [bne_iff_ne]; exact hq
        clear hq
        go_wp2
        go_quiet (fail)
        go_wp2
        go_quiet (fail)
        go_wp2
        go_ret
        refine ⟨ret_bool ?_, by repeat (first | exact Below.refl _ _ | apply below_drewN | apply bal)⟩
        exact below_dec hx hy 0 (by omega) (fun j h1 h2 => hr j (by omega) h2) H.out
    · by_cases hq : x 1 = y 1
      · have H : Hid (x 1 = y 1) := hq
        have hb : (x 1 != y 1) = false := by rw [bne_eq_false_iff_eq]; exact hq
        clear hq
        go_wp2
        go_quiet (fail)
        go_wp2
        exact ⟨⟨1, n + nq, by omega, rfl, fun j h1 h2 => by
          by_cases ej : j = 1
          · subst ej; exact H.out
          · exact hr j (by omega) h2, rfl⟩, by simp [intOf]⟩
      · have H : Hid (x 1 ≠ y 1) := hq
        have hb : (x 1 != y 1) = true := by rw [bne_iff_ne]; exact hq
        clear hq
        go_wp2
        go_quiet (fail)
        go_wp2
        go_quiet (fail)
        go_wp2
        go_ret
        refine ⟨ret_bool ?_, by repeat (first | exact Below.refl _ _ | apply below_drewN | apply bal)⟩
        exact below_dec hx hy 1 (by omega) (fun j h1 h2 => hr j (by omega) h2) H.out
    · by_cases hq : x 2 = y 2
      · have H : Hid (x 2 = y 2) := hq
        have hb : (x 2 != y 2) = false := by rw [bne_eq_false_iff_eq]; exact hq
        clear hq
        go_wp2
        go_quiet (fail)
        go_wp2
        exact ⟨⟨2, n + nq, by omega, rfl, fun j h1 h2 => by
          by_cases ej : j = 2
          · subst ej; exact H.out
          · exact hr j (by omega) h2, rfl⟩, by simp [intOf]⟩
      · have H : Hid (x 2 ≠ y 2) := hq
        have hb : (x 2 != y 2) = true := by rw [bne_iff_ne]; exact hq
        clear hq
        go_wp2
        go_quiet (fail)
        go_wp2
        go_quiet (fail)
        go_wp2
        go_ret
        refine ⟨ret_bool ?_, by repeat (first | exact Below.refl _ _ | apply below_drewN | apply bal)⟩
        exact below_dec hx hy 2 (by omega) (fun j h1 h2 => hr j (by omega) h2) H.out
    · by_cases hq : x 3 = y 3
      · have H : Hid (x 3 = y 3) := hq
        have hb : (x 3 != y 3) = false := by rw [bne_eq_false_iff_eq]; exact hq
        clear hq
        go_wp2
        go_quiet (fail)
        go_wp2
        exact ⟨⟨3, n + nq, by omega, rfl, fun j h1 h2 => by
          by_cases ej : j = 3
          · subst ej; exact H.out
          · exact hr j (by omega) h2, rfl⟩, by simp [intOf]⟩
      · have H : Hid (x 3 ≠ y 3) := hq
        have hb : (x 3 != y 3) = true := by rw [bne_iff_ne]; exact hq
        clear hq
        go_wp2
        go_quiet (fail)
        go_wp2
        go_quiet (fail)
        go_wp2
        go_ret
        refine ⟨ret_bool ?_, by repeat (first | exact Below.refl _ _ | apply below_drewN | apply bal)⟩
        exact below_dec hx hy 3 (by omega) (fun j h1 h2 => hr j (by omega) h2) H.out
    · by_cases hq : x 4 = y 4
      · have H : Hid (x 4 = y 4) := hq
        have hb : (x 4 != y 4) = false := by rw [bne_eq_false_iff_eq]; exact hq
        clear hq
        go_wp2
        go_quiet (fail)
        go_wp2
        exact ⟨⟨4, n + nq, by omega, rfl, fun j h1 h2 => by
          by_cases ej : j = 4
          · subst ej; exact H.out
          · exact hr j (by omega) h2, rfl⟩, by simp [intOf]⟩
      · have H : Hid (x 4 ≠ y 4) := hq
        have hb : (x 4 != y 4) = true := by rw [bne_iff_ne]; exact hq
        clear hq
        go_wp2
        go_quiet (fail)
        go_wp2
        go_quiet (fail)
        go_wp2
        go_ret
        refine ⟨ret_bool ?_, by repeat (first | exact Below.refl _ _ | apply below_drewN | apply bal)⟩
        exact below_dec hx hy 4 (by omega) (fun j h1 h2 => hr j (by omega) h2) H.out
    · by_cases hq : x 5 = y 5
      · have H : Hid (x 5 = y 5) := hq
        have hb : (x 5 != y 5) = false := by rw [bne_eq_false_iff_eq]; exact hq
        clear hq
        go_wp2
        go_quiet (fail)
        go_wp2
        exact ⟨⟨5, n + nq, by omega, rfl, fun j h1 h2 => by
          by_cases ej : j = 5
          · subst ej; exact H.out
          · exact hr j (by omega) h2, rfl⟩, by simp [intOf]⟩
      · have H : Hid (x 5 ≠ y 5) := hq
        have hb : (x 5 != y 5) = true := by rw [bne_iff_ne]; exact hq
        clear hq
        go_wp2
        go_quiet (fail)
        go_wp2
        go_quiet (fail)
        go_wp2
        go_ret
        refine ⟨ret_bool ?_, by repeat (first | exact Below.refl _ _ | apply below_drewN | apply bal)⟩
        exact below_dec hx hy 5 (by omega) (fun j h1 h2 => hr j (by omega) h2) H.out

theorem below_any (m n : Nat) (hm : m < 4294967296 ^ 6) (hn : n < 4294967296 ^ 6) (w : World) :
    Calls Tryz.prog 146 #[wv m, wv n] w fun e w' => e = .returned (.bool (ltB m n)) ∧ Below w.heap.size w w' := by
  unfold wv
  refine (below_raw (dg m) (dg n) (digs_dg m) (digs_dg n) w).mono fun e w' hh => ?_
  obtain ⟨rfl, hb⟩ := hh
  refine ⟨ret_bool ?_, hb⟩
  rw [sm_dg6 m hm, sm_dg6 n hn]
  unfold ltB
  by_cases h : m < n
  · simp [h]
  · simp [h]
end Go.Proofs.YtcafhmlpmbkhkaaGreatDoor.Mw
