import Derived.Test.YtcafhmlpmbkhkaaGreatDoorW21
namespace Go.Proofs.YtcafhmlpmbkhkaaGreatDoor.Mw
open Go.ChangeShapes Go.WideShapes Go.ChangeAt Go.RowKit
set_option linter.unusedVariables false
attribute [local go_sem] setCell_drewN alloc_drewN
theorem prod_bd (a b : Int) (h : 0 ≤ a ∧ a < 4294967296) (k : 0 ≤ b ∧ b < 4294967296) : 0 ≤ a * b ∧ a * b ≤ 18446744065119617025 := by
  have h1 : 0 ≤ a * b := Int.mul_nonneg h.1 k.1
  have h2 : a * b ≤ 4294967295 * b := Int.mul_le_mul_of_nonneg_right (by omega) k.1
  omega
set_option maxHeartbeats 8000000 in
theorem times_raw (x y : Nat → Int) (hx : digs x) (hy : digs y) (w : World) :
    Calls Tryz.prog 240 #[.agg #[.int .u64 (x 0), .int .u64 (x 1), .int .u64 (x 2), .int .u64 (x 3), .int .u64 (x 4), .int .u64 (x 5)], .agg #[.int .u64 (y 0), .int .u64 (y 1), .int .u64 (y 2), .int .u64 (y 3), .int .u64 (y 4), .int .u64 (y 5)]] w fun e w' => ∃ (z : Nat → Int), e = .returned (.agg #[.int .u64 (z 0), .int .u64 (z 1), .int .u64 (z 2), .int .u64 (z 3), .int .u64 (z 4), .int .u64 (z 5)]) ∧ digs z ∧ outRel x y z 6 ∧ Below w.heap.size w w' := by
  go_enter Tryz.func240, Tryz.ntmps240
  go_wp2
  go_loopw [6] (fun i wr => ∃ (k : Nat) (n : Nat) (z : Nat → Int), k ≤ 6 ∧ i = .int .i64 k ∧ digs z ∧ outRel x y z k ∧ wr = ((((w.alloc (.cells #[.int .u64 (x 0), .int .u64 (x 1), .int .u64 (x 2), .int .u64 (x 3), .int .u64 (x 4), .int .u64 (x 5)] 202)).alloc (.cells #[.int .u64 (y 0), .int .u64 (y 1), .int .u64 (y 2), .int .u64 (y 3), .int .u64 (y 4), .int .u64 (y 5)] 202)).alloc (.cells #[.int .u64 0, .int .u64 0, .int .u64 0, .int .u64 0, .int .u64 0, .int .u64 0] 202)).alloc (.cells #[.int .u64 (z 0), .int .u64 (z 1), .int .u64 (z 2), .int .u64 (z 3), .int .u64 (z 4), .int .u64 (z 5)] 202)).drewN n) (fun i _ => 6 - (intOf i).toNat)
  case atStart => exact ⟨0, 0, fun _ => 0, by omega, rfl, fun _ => by simp, outRel_zero x y, rfl⟩
  case round =>
    obtain ⟨k, n, z, hk, rfl, hz, hr, rfl⟩ := hrel
    have hk' : k = 6 ∨ k = 0 ∨ k = 1 ∨ k = 2 ∨ k = 3 ∨ k = 4 ∨ k = 5 := by omega
    rcases hk' with rfl | hk'
    · go_wp2
      exact bodyPost_ret (v := .agg #[.int .u64 (z 0), .int .u64 (z 1), .int .u64 (z 2), .int .u64 (z 3), .int .u64 (z 4), .int .u64 (z 5)]) (by simp [results, Tryz.results240, go_sem]) rfl ⟨z, rfl, hz, hr, by repeat (first | exact Below.refl _ _ | apply below_drewN | apply bal)⟩
    rcases hk' with rfl | rfl | rfl | rfl | rfl | rfl
    · have hr0 := inRel_of_out hr
      clear hr
      go_wp2
      go_loopw [7, 8] (fun c jj wr => ∃ (j : Nat) (c' : Int) (n : Nat) (z : Nat → Int), j ≤ 6 ∧ jj = .int .i64 j ∧ c = .int .u64 c' ∧ 0 ≤ c' ∧ c' < 4294967296 ∧ digs z ∧ inRel x y z 0 j c' ∧ wr = ((((w.alloc (.cells #[.int .u64 (x 0), .int .u64 (x 1), .int .u64 (x 2), .int .u64 (x 3), .int .u64 (x 4), .int .u64 (x 5)] 202)).alloc (.cells #[.int .u64 (y 0), .int .u64 (y 1), .int .u64 (y 2), .int .u64 (y 3), .int .u64 (y 4), .int .u64 (y 5)] 202)).alloc (.cells #[.int .u64 0, .int .u64 0, .int .u64 0, .int .u64 0, .int .u64 0, .int .u64 0] 202)).alloc (.cells #[.int .u64 (z 0), .int .u64 (z 1), .int .u64 (z 2), .int .u64 (z 3), .int .u64 (z 4), .int .u64 (z 5)] 202)).drewN n) (fun _ jj _ => 6 - (intOf jj).toNat)
      case atStart => exact ⟨0, 0, n, z, by omega, rfl, rfl, by omega, by omega, hz, hr0, rfl⟩
      case round =>
        clear hr0 hz z n
        obtain ⟨j, c', n, z, hj, rfl, rfl, hc0, hc1, hz, hr, rfl⟩ := hrel
        have hj' : j = 6 ∨ j = 0 ∨ j = 1 ∨ j = 2 ∨ j = 3 ∨ j = 4 ∨ j = 5 := by omega
        rcases hj' with rfl | hj'
        · have ho := outRel_of_in hr rfl
          go_wp2
          exact ⟨⟨1, n, z, by omega, rfl, hz, ho, rfl⟩, by simp [intOf]⟩
        rcases hj' with rfl | rfl | rfl | rfl | rfl | rfl
        · obtain ⟨z0, z1⟩ := hz 0
          have pb := prod_bd (x 0) (y 0) (hx 0) (hy 0)
          obtain ⟨x0, x1⟩ := hx 0
          obtain ⟨y0, y1⟩ := hy 0
          go_wp2
          go_quiet (fail)
          go_wp2
          exact ⟨⟨1, (c' + z 0 + x 0 * y 0) / 4294967296, n + nq, upd z 0 ((c' + z 0 + x 0 * y 0) % 4294967296), by omega, rfl, rfl, by omega, by omega, digs_upd hz _ _ (by omega) (by omega), inRel_step hr (by omega) _ _ (by simp only [Nat.reduceAdd]; omega), by simp [upd]⟩, by simp [intOf]⟩
        · obtain ⟨z0, z1⟩ := hz 1
          have pb := prod_bd (x 0) (y 1) (hx 0) (hy 1)
          obtain ⟨x0, x1⟩ := hx 0
          obtain ⟨y0, y1⟩ := hy 1
          go_wp2
          go_quiet (fail)
          go_wp2
          exact ⟨⟨2, (c' + z 1 + x 0 * y 1) / 4294967296, n + nq, upd z 1 ((c' + z 1 + x 0 * y 1) % 4294967296), by omega, rfl, rfl, by omega, by omega, digs_upd hz _ _ (by omega) (by omega), inRel_step hr (by omega) _ _ (by simp only [Nat.reduceAdd]; omega), by simp [upd]⟩, by simp [intOf]⟩
        · obtain ⟨z0, z1⟩ := hz 2
          have pb := prod_bd (x 0) (y 2) (hx 0) (hy 2)
          obtain ⟨x0, x1⟩ := hx 0
          obtain ⟨y0, y1⟩ := hy 2
          go_wp2
          go_quiet (fail)
          go_wp2
          exact ⟨⟨3, (c' + z 2 + x 0 * y 2) / 4294967296, n + nq, upd z 2 ((c' + z 2 + x 0 * y 2) % 4294967296), by omega, rfl, rfl, by omega, by omega, digs_upd hz _ _ (by omega) (by omega), inRel_step hr (by omega) _ _ (by simp only [Nat.reduceAdd]; omega), by simp [upd]⟩, by simp [intOf]⟩
        · obtain ⟨z0, z1⟩ := hz 3
          have pb := prod_bd (x 0) (y 3) (hx 0) (hy 3)
          obtain ⟨x0, x1⟩ := hx 0
          obtain ⟨y0, y1⟩ := hy 3
          go_wp2
          go_quiet (fail)
          go_wp2
          exact ⟨⟨4, (c' + z 3 + x 0 * y 3) / 4294967296, n + nq, upd z 3 ((c' + z 3 + x 0 * y 3) % 4294967296), by omega, rfl, rfl, by omega, by omega, digs_upd hz _ _ (by omega) (by omega), inRel_step hr (by omega) _ _ (by simp only [Nat.reduceAdd]; omega), by simp [upd]⟩, by simp [intOf]⟩
        · obtain ⟨z0, z1⟩ := hz 4
          have pb := prod_bd (x 0) (y 4) (hx 0) (hy 4)
          obtain ⟨x0, x1⟩ := hx 0
          obtain ⟨y0, y1⟩ := hy 4
          go_wp2
          go_quiet (fail)
          go_wp2
          exact ⟨⟨5, (c' + z 4 + x 0 * y 4) / 4294967296, n + nq, upd z 4 ((c' + z 4 + x 0 * y 4) % 4294967296), by omega, rfl, rfl, by omega, by omega, digs_upd hz _ _ (by omega) (by omega), inRel_step hr (by omega) _ _ (by simp only [Nat.reduceAdd]; omega), by simp [upd]⟩, by simp [intOf]⟩
        · obtain ⟨z0, z1⟩ := hz 5
          have pb := prod_bd (x 0) (y 5) (hx 0) (hy 5)
          obtain ⟨x0, x1⟩ := hx 0
          obtain ⟨y0, y1⟩ := hy 5
          go_wp2
          go_quiet (fail)
          go_wp2
          exact ⟨⟨6, (c' + z 5 + x 0 * y 5) / 4294967296, n + nq, upd z 5 ((c' + z 5 + x 0 * y 5) % 4294967296), by omega, rfl, rfl, by omega, by omega, digs_upd hz _ _ (by omega) (by omega), inRel_step hr (by omega) _ _ (by simp only [Nat.reduceAdd]; omega), by simp [upd]⟩, by simp [intOf]⟩
    · have hr0 := inRel_of_out hr
      clear hr
      go_wp2
      go_loopw [7, 8] (fun c jj wr => ∃ (j : Nat) (c' : Int) (n : Nat) (z : Nat → Int), j ≤ 5 ∧ jj = .int .i64 j ∧ c = .int .u64 c' ∧ 0 ≤ c' ∧ c' < 4294967296 ∧ digs z ∧ inRel x y z 1 j c' ∧ wr = ((((w.alloc (.cells #[.int .u64 (x 0), .int .u64 (x 1), .int .u64 (x 2), .int .u64 (x 3), .int .u64 (x 4), .int .u64 (x 5)] 202)).alloc (.cells #[.int .u64 (y 0), .int .u64 (y 1), .int .u64 (y 2), .int .u64 (y 3), .int .u64 (y 4), .int .u64 (y 5)] 202)).alloc (.cells #[.int .u64 0, .int .u64 0, .int .u64 0, .int .u64 0, .int .u64 0, .int .u64 0] 202)).alloc (.cells #[.int .u64 (z 0), .int .u64 (z 1), .int .u64 (z 2), .int .u64 (z 3), .int .u64 (z 4), .int .u64 (z 5)] 202)).drewN n) (fun _ jj _ => 5 - (intOf jj).toNat)
      case atStart => exact ⟨0, 0, n, z, by omega, rfl, rfl, by omega, by omega, hz, hr0, rfl⟩
      case round =>
        clear hr0 hz z n
        obtain ⟨j, c', n, z, hj, rfl, rfl, hc0, hc1, hz, hr, rfl⟩ := hrel
        have hj' : j = 5 ∨ j = 0 ∨ j = 1 ∨ j = 2 ∨ j = 3 ∨ j = 4 := by omega
        rcases hj' with rfl | hj'
        · have ho := outRel_of_in hr rfl
          go_wp2
          exact ⟨⟨2, n, z, by omega, rfl, hz, ho, rfl⟩, by simp [intOf]⟩
        rcases hj' with rfl | rfl | rfl | rfl | rfl
        · obtain ⟨z0, z1⟩ := hz 1
          have pb := prod_bd (x 1) (y 0) (hx 1) (hy 0)
          obtain ⟨x0, x1⟩ := hx 1
          obtain ⟨y0, y1⟩ := hy 0
          go_wp2
          go_quiet (fail)
          go_wp2
          exact ⟨⟨1, (c' + z 1 + x 1 * y 0) / 4294967296, n + nq, upd z 1 ((c' + z 1 + x 1 * y 0) % 4294967296), by omega, rfl, rfl, by omega, by omega, digs_upd hz _ _ (by omega) (by omega), inRel_step hr (by omega) _ _ (by simp only [Nat.reduceAdd]; omega), by simp [upd]⟩, by simp [intOf]⟩
        · obtain ⟨z0, z1⟩ := hz 2
          have pb := prod_bd (x 1) (y 1) (hx 1) (hy 1)
          obtain ⟨x0, x1⟩ := hx 1
          obtain ⟨y0, y1⟩ := hy 1
          go_wp2
          go_quiet (fail)
          go_wp2
          exact ⟨⟨2, (c' + z 2 + x 1 * y 1) / 4294967296, n + nq, upd z 2 ((c' + z 2 + x 1 * y 1) % 4294967296), by omega, rfl, rfl, by omega, by omega, digs_upd hz _ _ (by omega) (by omega), inRel_step hr (by omega) _ _ (by simp only [Nat.reduceAdd]; omega), by simp [upd]⟩, by simp [intOf]⟩
        · obtain ⟨z0, z1⟩ := hz 3
          have pb := prod_bd (x 1) (y 2) (hx 1) (hy 2)
          obtain ⟨x0, x1⟩ := hx 1
          obtain ⟨y0, y1⟩ := hy 2
          go_wp2
          go_quiet (fail)
          go_wp2
          exact ⟨⟨3, (c' + z 3 + x 1 * y 2) / 4294967296, n + nq, upd z 3 ((c' + z 3 + x 1 * y 2) % 4294967296), by omega, rfl, rfl, by omega, by omega, digs_upd hz _ _ (by omega) (by omega), inRel_step hr (by omega) _ _ (by simp only [Nat.reduceAdd]; omega), by simp [upd]⟩, by simp [intOf]⟩
        · obtain ⟨z0, z1⟩ := hz 4
          have pb := prod_bd (x 1) (y 3) (hx 1) (hy 3)
          obtain ⟨x0, x1⟩ := hx 1
          obtain ⟨y0, y1⟩ := hy 3
          go_wp2
          go_quiet (fail)
          go_wp2
          exact ⟨⟨4, (c' + z 4 + x 1 * y 3) / 4294967296, n + nq, upd z 4 ((c' + z 4 + x 1 * y 3) % 4294967296), by omega, rfl, rfl, by omega, by omega, digs_upd hz _ _ (by omega) (by omega), inRel_step hr (by omega) _ _ (by simp only [Nat.reduceAdd]; omega), by simp [upd]⟩, by simp [intOf]⟩
        · obtain ⟨z0, z1⟩ := hz 5
          have pb := prod_bd (x 1) (y 4) (hx 1) (hy 4)
          obtain ⟨x0, x1⟩ := hx 1
          obtain ⟨y0, y1⟩ := hy 4
          go_wp2
          go_quiet (fail)
          go_wp2
          exact ⟨⟨5, (c' + z 5 + x 1 * y 4) / 4294967296, n + nq, upd z 5 ((c' + z 5 + x 1 * y 4) % 4294967296), by omega, rfl, rfl, by omega, by omega, digs_upd hz _ _ (by omega) (by omega), inRel_step hr (by omega) _ _ (by simp only [Nat.reduceAdd]; omega), by simp [upd]⟩, by simp [intOf]⟩
    · have hr0 := inRel_of_out hr
      clear hr
      go_wp2
      go_loopw [7, 8] (fun c jj wr => ∃ (j : Nat) (c' : Int) (n : Nat) (z : Nat → Int), j ≤ 4 ∧ jj = .int .i64 j ∧ c = .int .u64 c' ∧ 0 ≤ c' ∧ c' < 4294967296 ∧ digs z ∧ inRel x y z 2 j c' ∧ wr = ((((w.alloc (.cells #[.int .u64 (x 0), .int .u64 (x 1), .int .u64 (x 2), .int .u64 (x 3), .int .u64 (x 4), .int .u64 (x 5)] 202)).alloc (.cells #[.int .u64 (y 0), .int .u64 (y 1), .int .u64 (y 2), .int .u64 (y 3), .int .u64 (y 4), .int .u64 (y 5)] 202)).alloc (.cells #[.int .u64 0, .int .u64 0, .int .u64 0, .int .u64 0, .int .u64 0, .int .u64 0] 202)).alloc (.cells #[.int .u64 (z 0), .int .u64 (z 1), .int .u64 (z 2), .int .u64 (z 3), .int .u64 (z 4), .int .u64 (z 5)] 202)).drewN n) (fun _ jj _ => 4 - (intOf jj).toNat)
      case atStart => exact ⟨0, 0, n, z, by omega, rfl, rfl, by omega, by omega, hz, hr0, rfl⟩
      case round =>
        clear hr0 hz z n
        obtain ⟨j, c', n, z, hj, rfl, rfl, hc0, hc1, hz, hr, rfl⟩ := hrel
        have hj' : j = 4 ∨ j = 0 ∨ j = 1 ∨ j = 2 ∨ j = 3 := by omega
        rcases hj' with rfl | hj'
        · have ho := outRel_of_in hr rfl
          go_wp2
          exact ⟨⟨3, n, z, by omega, rfl, hz, ho, rfl⟩, by simp [intOf]⟩
        rcases hj' with rfl | rfl | rfl | rfl
        · obtain ⟨z0, z1⟩ := hz 2
          have pb := prod_bd (x 2) (y 0) (hx 2) (hy 0)
          obtain ⟨x0, x1⟩ := hx 2
          obtain ⟨y0, y1⟩ := hy 0
          go_wp2
          go_quiet (fail)
          go_wp2
          exact ⟨⟨1, (c' + z 2 + x 2 * y 0) / 4294967296, n + nq, upd z 2 ((c' + z 2 + x 2 * y 0) % 4294967296), by omega, rfl, rfl, by omega, by omega, digs_upd hz _ _ (by omega) (by omega), inRel_step hr (by omega) _ _ (by simp only [Nat.reduceAdd]; omega), by simp [upd]⟩, by simp [intOf]⟩
        · obtain ⟨z0, z1⟩ := hz 3
          have pb := prod_bd (x 2) (y 1) (hx 2) (hy 1)
          obtain ⟨x0, x1⟩ := hx 2
          obtain ⟨y0, y1⟩ := hy 1
          go_wp2
          go_quiet (fail)
          go_wp2
          exact ⟨⟨2, (c' + z 3 + x 2 * y 1) / 4294967296, n + nq, upd z 3 ((c' + z 3 + x 2 * y 1) % 4294967296), by omega, rfl, rfl, by omega, by omega, digs_upd hz _ _ (by omega) (by omega), inRel_step hr (by omega) _ _ (by simp only [Nat.reduceAdd]; omega), by simp [upd]⟩, by simp [intOf]⟩
        · obtain ⟨z0, z1⟩ := hz 4
          have pb := prod_bd (x 2) (y 2) (hx 2) (hy 2)
          obtain ⟨x0, x1⟩ := hx 2
          obtain ⟨y0, y1⟩ := hy 2
          go_wp2
          go_quiet (fail)
          go_wp2
          exact ⟨⟨3, (c' + z 4 + x 2 * y 2) / 4294967296, n + nq, upd z 4 ((c' + z 4 + x 2 * y 2) % 4294967296), by omega, rfl, rfl, by omega, by omega, digs_upd hz _ _ (by omega) (by omega), inRel_step hr (by omega) _ _ (by simp only [Nat.reduceAdd]; omega), by simp [upd]⟩, by simp [intOf]⟩
        · obtain ⟨z0, z1⟩ := hz 5
          have pb := prod_bd (x 2) (y 3) (hx 2) (hy 3)
          obtain ⟨x0, x1⟩ := hx 2
          obtain ⟨y0, y1⟩ := hy 3
          go_wp2
          go_quiet (fail)
          go_wp2
          exact ⟨⟨4, (c' + z 5 + x 2 * y 3) / 4294967296, n + nq, upd z 5 ((c' + z 5 + x 2 * y 3) % 4294967296), by omega, rfl, rfl, by omega, by omega, digs_upd hz _ _ (by omega) (by omega), inRel_step hr (by omega) _ _ (by simp only [Nat.reduceAdd]; omega), by simp [upd]⟩, by simp [intOf]⟩
    · have hr0 := inRel_of_out hr
      clear hr
      go_wp2
      go_loopw [7, 8] (fun c jj wr => ∃ (j : Nat) (c' : Int) (n : Nat) (z : Nat → Int), j ≤ 3 ∧ jj = .int .i64 j ∧ c = .int .u64 c' ∧ 0 ≤ c' ∧ c' < 4294967296 ∧ digs z ∧ inRel x y z 3 j c' ∧ wr = ((((w.alloc (.cells #[.int .u64 (x 0), .int .u64 (x 1), .int .u64 (x 2), .int .u64 (x 3), .int .u64 (x 4), .int .u64 (x 5)] 202)).alloc (.cells #[.int .u64 (y 0), .int .u64 (y 1), .int .u64 (y 2), .int .u64 (y 3), .int .u64 (y 4), .int .u64 (y 5)] 202)).alloc (.cells #[.int .u64 0, .int .u64 0, .int .u64 0, .int .u64 0, .int .u64 0, .int .u64 0] 202)).alloc (.cells #[.int .u64 (z 0), .int .u64 (z 1), .int .u64 (z 2), .int .u64 (z 3), .int .u64 (z 4), .int .u64 (z 5)] 202)).drewN n) (fun _ jj _ => 3 - (intOf jj).toNat)
      case atStart => exact ⟨0, 0, n, z, by omega, rfl, rfl, by omega, by omega, hz, hr0, rfl⟩
      case round =>
        clear hr0 hz z n
        obtain ⟨j, c', n, z, hj, rfl, rfl, hc0, hc1, hz, hr, rfl⟩ := hrel
        have hj' : j = 3 ∨ j = 0 ∨ j = 1 ∨ j = 2 := by omega
        rcases hj' with rfl | hj'
        · have ho := outRel_of_in hr rfl
          go_wp2
          exact ⟨⟨4, n, z, by omega, rfl, hz, ho, rfl⟩, by simp [intOf]⟩
        rcases hj' with rfl | rfl | rfl
        · obtain ⟨z0, z1⟩ := hz 3
          have pb := prod_bd (x 3) (y 0) (hx 3) (hy 0)
          obtain ⟨x0, x1⟩ := hx 3
          obtain ⟨y0, y1⟩ := hy 0
          go_wp2
          go_quiet (fail)
          go_wp2
          exact ⟨⟨1, (c' + z 3 + x 3 * y 0) / 4294967296, n + nq, upd z 3 ((c' + z 3 + x 3 * y 0) % 4294967296), by omega, rfl, rfl, by omega, by omega, digs_upd hz _ _ (by omega) (by omega), inRel_step hr (by omega) _ _ (by simp only [Nat.reduceAdd]; omega), by simp [upd]⟩, by simp [intOf]⟩
        · obtain ⟨z0, z1⟩ := hz 4
          have pb := prod_bd (x 3) (y 1) (hx 3) (hy 1)
          obtain ⟨x0, x1⟩ := hx 3
          obtain ⟨y0, y1⟩ := hy 1
          go_wp2
          go_quiet (fail)
          go_wp2
          exact ⟨⟨2, (c' + z 4 + x 3 * y 1) / 4294967296, n + nq, upd z 4 ((c' + z 4 + x 3 * y 1) % 4294967296), by omega, rfl, rfl, by omega, by omega, digs_upd hz _ _ (by omega) (by omega), inRel_step hr (by omega) _ _ (by simp only [Nat.reduceAdd]; omega), by simp [upd]⟩, by simp [intOf]⟩
        · obtain ⟨z0, z1⟩ := hz 5
          have pb := prod_bd (x 3) (y 2) (hx 3) (hy 2)
          obtain ⟨x0, x1⟩ := hx 3
          obtain ⟨y0, y1⟩ := hy 2
          go_wp2
          go_quiet (fail)
          go_wp2
          exact ⟨⟨3, (c' + z 5 + x 3 * y 2) / 4294967296, n + nq, upd z 5 ((c' + z 5 + x 3 * y 2) % 4294967296), by omega, rfl, rfl, by omega, by omega, digs_upd hz _ _ (by omega) (by omega), inRel_step hr (by omega) _ _ (by simp only [Nat.reduceAdd]; omega), by simp [upd]⟩, by simp [intOf]⟩
    · have hr0 := inRel_of_out hr
      clear hr
      go_wp2
      go_loopw [7, 8] (fun c jj wr => ∃ (j : Nat) (c' : Int) (n : Nat) (z : Nat → Int), j ≤ 2 ∧ jj = .int .i64 j ∧ c = .int .u64 c' ∧ 0 ≤ c' ∧ c' < 4294967296 ∧ digs z ∧ inRel x y z 4 j c' ∧ wr = ((((w.alloc (.cells #[.int .u64 (x 0), .int .u64 (x 1), .int .u64 (x 2), .int .u64 (x 3), .int .u64 (x 4), .int .u64 (x 5)] 202)).alloc (.cells #[.int .u64 (y 0), .int .u64 (y 1), .int .u64 (y 2), .int .u64 (y 3), .int .u64 (y 4), .int .u64 (y 5)] 202)).alloc (.cells #[.int .u64 0, .int .u64 0, .int .u64 0, .int .u64 0, .int .u64 0, .int .u64 0] 202)).alloc (.cells #[.int .u64 (z 0), .int .u64 (z 1), .int .u64 (z 2), .int .u64 (z 3), .int .u64 (z 4), .int .u64 (z 5)] 202)).drewN n) (fun _ jj _ => 2 - (intOf jj).toNat)
      case atStart => exact ⟨0, 0, n, z, by omega, rfl, rfl, by omega, by omega, hz, hr0, rfl⟩
      case round =>
        clear hr0 hz z n
        obtain ⟨j, c', n, z, hj, rfl, rfl, hc0, hc1, hz, hr, rfl⟩ := hrel
        have hj' : j = 2 ∨ j = 0 ∨ j = 1 := by omega
        rcases hj' with rfl | hj'
        · have ho := outRel_of_in hr rfl
          go_wp2
          exact ⟨⟨5, n, z, by omega, rfl, hz, ho, rfl⟩, by simp [intOf]⟩
        rcases hj' with rfl | rfl
        · obtain ⟨z0, z1⟩ := hz 4
          have pb := prod_bd (x 4) (y 0) (hx 4) (hy 0)
          obtain ⟨x0, x1⟩ := hx 4
          obtain ⟨y0, y1⟩ := hy 0
          go_wp2
          go_quiet (fail)
          go_wp2
          exact ⟨⟨1, (c' + z 4 + x 4 * y 0) / 4294967296, n + nq, upd z 4 ((c' + z 4 + x 4 * y 0) % 4294967296), by omega, rfl, rfl, by omega, by omega, digs_upd hz _ _ (by omega) (by omega), inRel_step hr (by omega) _ _ (by simp only [Nat.reduceAdd]; omega), by simp [upd]⟩, by simp [intOf]⟩
        · obtain ⟨z0, z1⟩ := hz 5
          have pb := prod_bd (x 4) (y 1) (hx 4) (hy 1)
          obtain ⟨x0, x1⟩ := hx 4
          obtain ⟨y0, y1⟩ := hy 1
          go_wp2
          go_quiet (fail)
          go_wp2
          exact ⟨⟨2, (c' + z 5 + x 4 * y 1) / 4294967296, n + nq, upd z 5 ((c' + z 5 + x 4 * y 1) % 4294967296), by omega, rfl, rfl, by omega, by omega, digs_upd hz _ _ (by omega) (by omega), inRel_step hr (by omega) _ _ (by simp only [Nat.reduceAdd]; omega), by simp [upd]⟩, by simp [intOf]⟩
    · have hr0 := inRel_of_out hr
      clear hr
      go_wp2
      go_loopw [7, 8] (fun c jj wr => ∃ (j : Nat) (c' : Int) (n : Nat) (z : Nat → Int), j ≤ 1 ∧ jj = .int .i64 j ∧ c = .int .u64 c' ∧ 0 ≤ c' ∧ c' < 4294967296 ∧ digs z ∧ inRel x y z 5 j c' ∧ wr = ((((w.alloc (.cells #[.int .u64 (x 0), .int .u64 (x 1), .int .u64 (x 2), .int .u64 (x 3), .int .u64 (x 4), .int .u64 (x 5)] 202)).alloc (.cells #[.int .u64 (y 0), .int .u64 (y 1), .int .u64 (y 2), .int .u64 (y 3), .int .u64 (y 4), .int .u64 (y 5)] 202)).alloc (.cells #[.int .u64 0, .int .u64 0, .int .u64 0, .int .u64 0, .int .u64 0, .int .u64 0] 202)).alloc (.cells #[.int .u64 (z 0), .int .u64 (z 1), .int .u64 (z 2), .int .u64 (z 3), .int .u64 (z 4), .int .u64 (z 5)] 202)).drewN n) (fun _ jj _ => 1 - (intOf jj).toNat)
      case atStart => exact ⟨0, 0, n, z, by omega, rfl, rfl, by omega, by omega, hz, hr0, rfl⟩
      case round =>
        clear hr0 hz z n
        obtain ⟨j, c', n, z, hj, rfl, rfl, hc0, hc1, hz, hr, rfl⟩ := hrel
        have hj' : j = 1 ∨ j = 0 := by omega
        rcases hj' with rfl | hj'
        · have ho := outRel_of_in hr rfl
          go_wp2
          exact ⟨⟨6, n, z, by omega, rfl, hz, ho, rfl⟩, by simp [intOf]⟩
        rcases hj' with rfl
        · obtain ⟨z0, z1⟩ := hz 5
          have pb := prod_bd (x 5) (y 0) (hx 5) (hy 0)
          obtain ⟨x0, x1⟩ := hx 5
          obtain ⟨y0, y1⟩ := hy 0
          go_wp2
          go_quiet (fail)
          go_wp2
          exact ⟨⟨1, (c' + z 5 + x 5 * y 0) / 4294967296, n + nq, upd z 5 ((c' + z 5 + x 5 * y 0) % 4294967296), by omega, rfl, rfl, by omega, by omega, digs_upd hz _ _ (by omega) (by omega), inRel_step hr (by omega) _ _ (by simp only [Nat.reduceAdd]; omega), by simp [upd]⟩, by simp [intOf]⟩
theorem times_any (m n : Nat) (hm : m < 4294967296 ^ 6) (hn : n < 4294967296 ^ 6) (h : m * n < 4294967296 ^ 6) (w : World) :
    Calls Tryz.prog 240 #[wv m, wv n] w fun e w' => e = .returned (wv (m * n)) ∧ Below w.heap.size w w' := by
  unfold wv
  refine (times_raw (dg m) (dg n) (digs_dg m) (digs_dg n) w).mono fun e w' hh => ?_
  obtain ⟨z, rfl, hz, hr, hb⟩ := hh
  exact ⟨ret_wv hz _ (times_of_out hz hr m n (sm_dg6 m hm) (sm_dg6 n hn) h), hb⟩
end Go.Proofs.YtcafhmlpmbkhkaaGreatDoor.Mw
