import Derived.Test.YtddpladmkmpoaaaSprC
import Derived.Deep.DeepCutAuto
namespace Go.Proofs.Ytddpladmkmpoaaa
open Go.ChangeShapes Go.WideShapes Go.ChangeAt Go.RowKit
set_option linter.unusedVariables false
attribute [local go_sem] setCell_drewN alloc_drewN
attribute [local go_sem ↓] st46_is
attribute [local go_sem] run_st46m run_st46_new may6_new may6_alloc may6_put6 may6_drew
/-- what weights hands back where all is well -/
def WtsO (s : Nat) (w : World) (e : Ending) (w' : World) : Prop := e = .returned (.tuple #[.agg #[.int .u64 (dg s 0), .int .u64 (dg s 1), .int .u64 (dg s 2), .int .u64 (dg s 3), .int .u64 (dg s 4), .int .u64 (dg s 5)], .bool true]) ∧ Below w.heap.size w w'
theorem belo' {B : Nat} {a W w1 : World} (h : Below B a W) (hB : B ≤ a.heap.size) (hb : Below W.heap.size W w1) : Below B a w1 := h.trans (hb.mono (Nat.le_trans hB h.size))
set_option maxRecDepth 100000 in
set_option maxHeartbeats 4000000 in
theorem rsplit_walk (T S : Nat) (total : Int) (hT : Hid (total.natAbs = T)) (zs : Nat → Int) (b off n cap : Nat) (ht : -9223372036854775807 ≤ total) (ht' : total ≤ 9223372036854775807) (w : World) (W0 : Hid (Wts S zs b off n w)) (hn : n ≤ 1000) (hn0 : 0 < n) (hb : b < w.heap.size)
    (hq : Hid (∀ k, k < n → T * (zs k).natAbs / S = qf T S zs k)) (hr : Hid (∀ k, k < n → T * (zs k).natAbs % S = rf T S zs k)) (hcum : Hid (cumQ T S zs 0 = 0 ∧ (∀ k, cumQ T S zs (k + 1) = cumQ T S zs k + qf T S zs k) ∧ ∀ k, k ≤ n → cumQ T S zs k ≤ T)) (hL : Hid (left T S zs n ≤ n)) (hqT : Hid (∀ i, i < n → 0 < left T S zs n → qf T S zs i < T)) (hpT : Hid (∀ i, i < n → part T S zs n i ≤ T))
    (hw : Calls Try.prog 49 #[.slice (some ⟨b, off, none⟩) n cap] w fun e w' => WtsO S w e w') :
    Calls Try.prog 24 #[.int .i64 total, .slice (some ⟨b, off, none⟩) n cap] w fun e w' => RefOut T S zs n (decide (total < 0)) w e w' := by
  have HW := hide hw
  clear hw
  have hz : Hid (∀ k, k < n → 0 ≤ zs k ∧ zs k ≤ 9223372036854775807) := (unhide W0).pos
  have hc : Hid (∀ k, k < n → w.cell? ⟨b, off + k, none⟩ = some (.int .i64 (zs k))) := (unhide W0).cells
  have hS0 : Hid (0 < S) := (unhide W0).S0
  have hS1 : Hid (S < 9223372036854775808) := by have := (unhide W0).S63; exact Nat.lt_succ_of_le this
  go_enter Try.func24, Try.ntmps24
  go_wp2_with (go_at_call 28; refine (is_yes _ _ (by omega)).mono ?_; rintro e w0 ⟨rfl, hw⟩; rw [hw]; clear hw w0)
  refine (unhide HW).mono ?_
  rintro e w1 ⟨rfl, hb1⟩
  have HB1 := hide hb1
  clear hb1
  go_wp2_with fail
  refine (of_open _ T (unhide hT) _ (by omega) (by omega)).mono ?_
  rintro e w2 ⟨rfl, hb2⟩
  have HB2 := hide hb2
  clear hb2
  go_wp2_with fail
  go_loopw [9, 10, 12] (fun v7 v8 i wr => ∃ (k : Nat), k ≤ n ∧ i = .int .i64 k ∧ At1 T S (qf T S zs) (rf T S zs) (cumQ T S zs) w1.heap.size w2.heap.size w k v7 v8 wr) (fun _ _ i _ => n - (intOf i).toNat)
  case atStart =>
    have c1 : Below w.heap.size w (w1.alloc (.cells #[.int .u64 (dg S 0), .int .u64 (dg S 1), .int .u64 (dg S 2), .int .u64 (dg S 3), .int .u64 (dg S 4), .int .u64 (dg S 5)] 46)) := bal (unhide HB1) _
    have c2 := c1.trans ((unhide HB2).mono c1.size)
    refine ⟨0, by omega, rfl, ((Box.new w1 S).below (unhide HB2)).alloc _, ?_, World.ownsRow_nil _ _ _ _, World.ownsRow_nil _ _ _ _, bal c2 _⟩
    rw [(unhide hcum).1, Nat.sub_zero]
    exact Box.new w2 T
  case round =>
    obtain ⟨k, hk, rfl, hs⟩ := hrel
    by_cases hlt : k < n
    · have HS := hide hs
      have hck : wr.cell? ⟨b, off + k, none⟩ = some (.int .i64 (zs k)) := by rw [hs.bel.cell hb]; exact (unhide hc) k hlt
      have hzk := (unhide hz) k hlt
      have hI : (k : Int) < (n : Int) := by omega
      have hI0 : 0 ≤ (k : Int) := by omega
      have s0 := hs.sum.at' 0 (by omega)
      have s1 := hs.sum.at' 1 (by omega)
      have s2 := hs.sum.at' 2 (by omega)
      have s3 := hs.sum.at' 3 (by omega)
      have s4 := hs.sum.at' 4 (by omega)
      have s5 := hs.sum.at' 5 (by omega)
      have bbr : b < wr.heap.size := Nat.lt_of_lt_of_le hb hs.bel.size
      have sbr := hs.sum.lt
      clear hs
      have HMT := hide (times_fit T (zs k) (unhide hT) ht ht' hzk.1 hzk.2)
      have HOV := hide (fun W => over_two (total.natAbs * (zs k).natAbs) S (qf T S zs k) (rf T S zs k) (unhide HMT).2.2 (unhide hS0) (by have := unhide hS1; omega) (by rw [unhide hT]; exact unhide hq k hlt) (by rw [unhide hT]; exact unhide hr k hlt) W)
      go_wp2_with fail
      go_cut [13, 14] (fun a13 a14 wx => Cut1 (qf T S zs k) (rf T S zs k) wr a13 a14 wx)
      case first =>
        clear HW hz hc hT hq hr hcum HB1 HB2 hS0 hS1
        refine wp_region_held_drew (S := fun W => Below wr.heap.size wr W) (by kernel_rfl) ((Below.refl _ _).drew) (fun hHeld => ?_)
        refine wpAnyH_take (i := 0) (oi := { dst := some 42, op := Op.move (Operand.tmp 0), type := 2, pos := "ref.go:263", after := #[], guard := none }) (v := ?v0) rfl (by kernel_rfl) (by kernel_rfl) (by kernel_rfl) (fun _ _ _ h => h) (Or.inl ⟨by rfl, ?hy0⟩) (by assumption) ?rest0
        case hy0 =>
          intro W hSW
          go_simp
          try (with_reducible rfl)
        dsimp only [Act.put]
        simp only [List.setIfInBounds_toArray, List.set_cons_succ, List.set_cons_zero]
        refine wpAnyH_take (i := 2) (oi := { dst := some 44, op := Op.move (Operand.tmp 1), type := 22, pos := "ref.go:263", after := #[], guard := none }) (v := ?v2) rfl (by kernel_rfl) (by kernel_rfl) (by kernel_rfl) (fun _ _ _ h => h) (Or.inl ⟨by rfl, ?hy2⟩) (by assumption) ?rest2
        case hy2 =>
          intro W hSW
          go_simp
          try (with_reducible rfl)
        dsimp only [Act.put]
        simp only [List.setIfInBounds_toArray, List.set_cons_succ, List.set_cons_zero]
        refine wpAnyH_take (i := 3) (oi := { dst := some 45, op := Op.move (Operand.tmp 12), type := 3, pos := "ref.go:263", after := #[], guard := none }) (v := ?v3) rfl (by kernel_rfl) (by kernel_rfl) (by kernel_rfl) (fun _ _ _ h => h) (Or.inl ⟨by rfl, ?hy3⟩) (by assumption) ?rest3
        case hy3 =>
          intro W hSW
          go_simp
          try (with_reducible rfl)
        dsimp only [Act.put]
        simp only [List.setIfInBounds_toArray, List.set_cons_succ, List.set_cons_zero]
        refine wpAnyH_take (i := 4) (oi := { dst := some 46, op := Op.indexAddr 22 (Operand.tmp 44) (Operand.tmp 45), type := 0, pos := "ref.go:263", after := #[{ on := 2, ground := Ground.data }, { on := 3, ground := Ground.data }], guard := none }) (v := ?v4) rfl (by kernel_rfl) (by kernel_rfl) (by kernel_rfl) (fun _ _ _ h => h) (Or.inl ⟨by rfl, ?hy4⟩) (by assumption) ?rest4
        case hy4 =>
          intro W hSW
          go_simp
          try (with_reducible rfl)
        dsimp only [Act.put]
        simp only [List.setIfInBounds_toArray, List.set_cons_succ, List.set_cons_zero]
        refine wpAnyH_take (i := 5) (oi := { dst := some 47, op := Op.load 2 (Operand.tmp 46), type := 2, pos := "ref.go:263", after := #[{ on := 4, ground := Ground.data }], guard := none }) (v := ?v5) rfl (by kernel_rfl) (by kernel_rfl) (by kernel_rfl) (fun _ _ _ h => h) (Or.inl ⟨by rfl, ?hy5⟩) (by assumption) ?rest5
        case hy5 =>
          intro W hSW
          have g0 := (hSW.cell (p := ⟨b, off + k, none⟩) bbr).trans hck; go_simp
          try (with_reducible rfl)
        dsimp only [Act.put]
        simp only [List.setIfInBounds_toArray, List.set_cons_succ, List.set_cons_zero]
        refine wpAnyH_take (i := 8) (oi := { dst := some 50, op := Op.load 46 (Operand.tmp 7), type := 46, pos := "ref.go:263", after := #[], guard := none }) (v := ?v8) rfl (by kernel_rfl) (by kernel_rfl) (by kernel_rfl) (fun _ _ _ h => h) (Or.inl ⟨by rfl, ?hy8⟩) (by assumption) ?rest8
        case hy8 =>
          intro W hSW
          have g0 := (hSW.cell (p := ⟨w1.heap.size, 0, none⟩) sbr).trans s0; have g1 := (hSW.cell (p := ⟨w1.heap.size, 1, none⟩) sbr).trans s1; have g2 := (hSW.cell (p := ⟨w1.heap.size, 2, none⟩) sbr).trans s2; have g3 := (hSW.cell (p := ⟨w1.heap.size, 3, none⟩) sbr).trans s3; have g4 := (hSW.cell (p := ⟨w1.heap.size, 4, none⟩) sbr).trans s4; have g5 := (hSW.cell (p := ⟨w1.heap.size, 5, none⟩) sbr).trans s5; go_simp
          try (with_reducible rfl)
        dsimp only [Act.put]
        simp only [List.setIfInBounds_toArray, List.set_cons_succ, List.set_cons_zero]
        refine inv13at (fun A0 => J13 A0 wr (qf T S zs k) (rf T S zs k) total.natAbs (zs k).natAbs) _ (by kernel_rfl) (by kernel_rfl) ?h1 ?h6 ?h7 ?h9 ?h10 ?h11 ?h12 ?h13 ?h14 ?h15 ?h16 ?hdone _ ?h0
        case h1 =>
          rintro A B a w ⟨x13, x14, x41, x43, x48, x49, x51, x52, x53, bA, bB, rfl, hF⟩
          have HF := hide hF
          clear hF
          refine wpOp_step rfl (fun K' hK0 => ?_)
          have hK : Shut _ := hK0
          clear hK0
          simp only [fr13, Act.put, List.setIfInBounds_toArray, List.set_cons_succ, List.set_cons_zero]
          go_simp
          refine (of_any _ _ (by omega) (by omega)).mono ?_
          rintro e w3 ⟨rfl, hb3⟩
          have HF3 := (unhide HF).call hb3
          refine hK.out _ _ ⟨HF3.bel, x13, x14, x41, wv total.natAbs, x48, x49, x51, x52, x53, bA, bB, ?_, ⟨fun _ => rfl, HF3.e48, HF3.e49, HF3.e51, HF3.e41, HF3.e52, HF3.e53, HF3.pA, HF3.pB, HF3.ne, HF3.bel⟩⟩
          simp only [fr13, Act.put, List.setIfInBounds_toArray, List.set_cons_succ, List.set_cons_zero]
        case h6 =>
          rintro A B a w ⟨x13, x14, x41, x43, x48, x49, x51, x52, x53, bA, bB, rfl, hF⟩
          have HF := hide hF
          clear hF
          refine wpOp_step rfl (fun K' hK0 => ?_)
          have hK : Shut _ := hK0
          clear hK0
          simp only [fr13, Act.put, List.setIfInBounds_toArray, List.set_cons_succ, List.set_cons_zero]
          go_simp
          refine (of_any _ _ (by omega) (by omega)).mono ?_
          rintro e w3 ⟨rfl, hb3⟩
          have HF3 := (unhide HF).call hb3
          refine hK.out _ _ ⟨HF3.bel, x13, x14, x41, x43, wv (zs k).natAbs, x49, x51, x52, x53, bA, bB, ?_, ⟨HF3.e43, fun _ => rfl, HF3.e49, HF3.e51, HF3.e41, HF3.e52, HF3.e53, HF3.pA, HF3.pB, HF3.ne, HF3.bel⟩⟩
          simp only [fr13, Act.put, List.setIfInBounds_toArray, List.set_cons_succ, List.set_cons_zero]
        case h7 =>
          rintro A B a w ⟨x13, x14, x41, x43, x48, x49, x51, x52, x53, bA, bB, rfl, hF⟩
          have HF := hide hF
          obtain rfl := hF.e43 rfl
          obtain rfl := hF.e48 rfl
          clear hF
          refine wpOp_step rfl (fun K' hK0 => ?_)
          have hK : Shut _ := hK0
          clear hK0
          simp only [fr13, Act.put, List.setIfInBounds_toArray, List.set_cons_succ, List.set_cons_zero]
          go_simp
          refine (times_any total.natAbs (zs k).natAbs (unhide HMT).1 (unhide HMT).2.1 (unhide HMT).2.2 _).mono ?_
          rintro e w3 ⟨rfl, hb3⟩
          have HF3 := (unhide HF).call hb3
          refine hK.out _ _ ⟨HF3.bel, x13, x14, x41, wv total.natAbs, wv (zs k).natAbs, wv (total.natAbs * (zs k).natAbs), x51, x52, x53, bA, bB, ?_, ⟨HF3.e43, HF3.e48, fun _ => rfl, HF3.e51, HF3.e41, HF3.e52, HF3.e53, HF3.pA, HF3.pB, HF3.ne, HF3.bel⟩⟩
          simp only [fr13, Act.put, List.setIfInBounds_toArray, List.set_cons_succ, List.set_cons_zero]
        case h9 =>
          rintro A B a w ⟨x13, x14, x41, x43, x48, x49, x51, x52, x53, bA, bB, rfl, hF⟩
          have HF := hide hF
          obtain rfl := hF.e49 rfl
          clear hF
          refine wpOp_step rfl (fun K' hK0 => ?_)
          have hK : Shut _ := hK0
          clear hK0
          simp only [fr13, Act.put, List.setIfInBounds_toArray, List.set_cons_succ, List.set_cons_zero]
          go_simp
          refine (unhide HOV _).mono ?_
          rintro e w3 ⟨rfl, hb3⟩
          have HF3 := (unhide HF).call hb3
          refine hK.out _ _ ⟨HF3.bel, x13, x14, x41, x43, x48, wv (total.natAbs * (zs k).natAbs), (.tuple #[agv (qf T S zs k), agv (rf T S zs k)]), x52, x53, bA, bB, ?_, ⟨HF3.e43, HF3.e48, HF3.e49, fun _ => rfl, HF3.e41, HF3.e52, HF3.e53, HF3.pA, HF3.pB, HF3.ne, HF3.bel⟩⟩
          simp only [fr13, agv, Act.put, List.setIfInBounds_toArray, List.set_cons_succ, List.set_cons_zero]
        case h10 =>
          rintro A B a w ⟨x13, x14, x41, x43, x48, x49, x51, x52, x53, bA, bB, rfl, hF⟩
          have HF := hide hF
          obtain rfl := hF.e51 rfl
          clear hF
          refine wpOp_step rfl (fun K' hK0 => ?_)
          have hK : Shut _ := hK0
          clear hK0
          simp only [fr13, agv, Act.put, List.setIfInBounds_toArray, List.set_cons_succ, List.set_cons_zero]
          go_simp
          refine hK.out _ _ ⟨(unhide HF).bel, x13, x14, (.tuple #[agv (qf T S zs k), agv (rf T S zs k)]), x43, x48, x49, (.tuple #[agv (qf T S zs k), agv (rf T S zs k)]), x52, x53, bA, bB, ?_, ⟨(unhide HF).e43, (unhide HF).e48, (unhide HF).e49, (unhide HF).e51, fun _ => rfl, (unhide HF).e52, (unhide HF).e53, (unhide HF).pA, (unhide HF).pB, (unhide HF).ne, (unhide HF).bel⟩⟩
          simp only [fr13, agv, Act.put, List.setIfInBounds_toArray, List.set_cons_succ, List.set_cons_zero]
        case h11 =>
          rintro c12 A B a w ⟨x13, x14, x41, x43, x48, x49, x51, x52, x53, bA, bB, rfl, hF⟩
          have HF := hide hF
          obtain rfl := hF.e41 rfl
          clear hF
          refine wpOp_step rfl (fun K' hK0 => ?_)
          have hK : Shut _ := hK0
          clear hK0
          simp only [fr13, agv, Act.put, List.setIfInBounds_toArray, List.set_cons_succ, List.set_cons_zero]
          go_simp
          refine hK.out _ _ ⟨(unhide HF).bel, x13, x14, (.tuple #[agv (qf T S zs k), agv (rf T S zs k)]), x43, x48, x49, x51, agv (qf T S zs k), x53, bA, bB, ?_, ⟨(unhide HF).e43, (unhide HF).e48, (unhide HF).e49, (unhide HF).e51, (unhide HF).e41, fun _ => rfl, (unhide HF).e53, (unhide HF).pA, (unhide HF).pB, (unhide HF).ne, (unhide HF).bel⟩⟩
          simp only [fr13, agv, Act.put, List.setIfInBounds_toArray, List.set_cons_succ, List.set_cons_zero]
        case h12 =>
          rintro c11 A B s a w ⟨x13, x14, x41, x43, x48, x49, x51, x52, x53, bA, bB, rfl, hF⟩
          have HF := hide hF
          obtain rfl := hF.e41 rfl
          clear hF
          refine wpOp_step rfl (fun K' hK0 => ?_)
          have hK : Shut _ := hK0
          clear hK0
          simp only [fr13, agv, Act.put, List.setIfInBounds_toArray, List.set_cons_succ, List.set_cons_zero]
          go_simp
          refine hK.out _ _ ⟨(unhide HF).bel, x13, x14, (.tuple #[agv (qf T S zs k), agv (rf T S zs k)]), x43, x48, x49, x51, x52, agv (rf T S zs k), bA, bB, ?_, ⟨(unhide HF).e43, (unhide HF).e48, (unhide HF).e49, (unhide HF).e51, (unhide HF).e41, (unhide HF).e52, fun _ => rfl, (unhide HF).pA, (unhide HF).pB, (unhide HF).ne, (unhide HF).bel⟩⟩
          simp only [fr13, agv, Act.put, List.setIfInBounds_toArray, List.set_cons_succ, List.set_cons_zero]
        case h13 =>
          rintro c1 c6 c7 c9 c10 c11 c12 B a w ⟨x13, x14, x41, x43, x48, x49, x51, x52, x53, bA, bB, rfl, hF⟩
          have HF := hide hF
          clear hF
          refine wpOp_step rfl (fun K' hK0 => ?_)
          have hK : Shut _ := hK0
          clear hK0
          simp only [fr13, Act.put, List.setIfInBounds_toArray, List.set_cons_succ, List.set_cons_zero]
          go_simp
          refine hK.out _ _ ⟨(unhide HF).allocA.bel, ptr w.heap.size, x14, x41, x43, x48, x49, x51, x52, x53, w.heap.size, bB, ?_, (unhide HF).allocA⟩
          simp only [fr13, ptr, Act.put, List.setIfInBounds_toArray, List.set_cons_succ, List.set_cons_zero]
        case h14 =>
          rintro c1 c6 c7 c9 c10 c11 c12 A a w ⟨x13, x14, x41, x43, x48, x49, x51, x52, x53, bA, bB, rfl, hF⟩
          have HF := hide hF
          clear hF
          refine wpOp_step rfl (fun K' hK0 => ?_)
          have hK : Shut _ := hK0
          clear hK0
          simp only [fr13, Act.put, List.setIfInBounds_toArray, List.set_cons_succ, List.set_cons_zero]
          go_simp
          refine hK.out _ _ ⟨(unhide HF).allocB.bel, x13, ptr w.heap.size, x41, x43, x48, x49, x51, x52, x53, bA, w.heap.size, ?_, (unhide HF).allocB⟩
          simp only [fr13, ptr, Act.put, List.setIfInBounds_toArray, List.set_cons_succ, List.set_cons_zero]
        case h15 =>
          rintro c12 a w ⟨x13, x14, x41, x43, x48, x49, x51, x52, x53, bA, bB, rfl, hF⟩
          have HF := hide hF
          obtain rfl := (hF.pA rfl).1
          obtain rfl := hF.e52 rfl
          have hmay := (hF.pA rfl).2.2.1
          clear hF
          refine wpOp_step rfl (fun K' hK0 => ?_)
          have hK : Shut _ := hK0
          clear hK0
          simp only [fr13, ptr, agv, Act.put, List.setIfInBounds_toArray, List.set_cons_succ, List.set_cons_zero]
          go_simp
          refine hK.out _ _ ⟨(unhide HF).putA.bel, ptr bA, x14, x41, x43, x48, x49, x51, agv (qf T S zs k), x53, bA, bB, ?_, (unhide HF).putA⟩
          simp only [fr13, ptr, agv, Act.put, List.setIfInBounds_toArray, List.set_cons_succ, List.set_cons_zero]
        case h16 =>
          rintro a w ⟨x13, x14, x41, x43, x48, x49, x51, x52, x53, bA, bB, rfl, hF⟩
          have HF := hide hF
          obtain rfl := (hF.pB rfl).1
          obtain rfl := hF.e53 rfl
          have hmay := (hF.pB rfl).2.2.1
          clear hF
          refine wpOp_step rfl (fun K' hK0 => ?_)
          have hK : Shut _ := hK0
          clear hK0
          simp only [fr13, ptr, agv, Act.put, List.setIfInBounds_toArray, List.set_cons_succ, List.set_cons_zero]
          go_simp
          refine hK.out _ _ ⟨(unhide HF).putB.bel, x13, ptr bB, x41, x43, x48, x49, x51, x52, agv (rf T S zs k), bA, bB, ?_, (unhide HF).putB⟩
          simp only [fr13, ptr, agv, Act.put, List.setIfInBounds_toArray, List.set_cons_succ, List.set_cons_zero]
        case hdone =>
          rintro a w ⟨x13, x14, x41, x43, x48, x49, x51, x52, x53, bA, bB, rfl, hF⟩
          have HF := hide hF
          obtain rfl := (hF.pA rfl).1
          obtain rfl := (hF.pB rfl).1
          clear hF
          simp only [fr13, ptr, Act.put, List.setIfInBounds_toArray, List.set_cons_succ, List.set_cons_zero]
          go_wp2_with fail
          go_meet
          exact ⟨bA, bB, rfl, rfl, ((unhide HF).pA rfl).2.2.2 rfl, ((unhide HF).pB rfl).2.2.2 rfl, ((unhide HF).pA rfl).2.1, ((unhide HF).pB rfl).2.1, (unhide HF).bel⟩
        case h0 =>
          refine ⟨u13, u14, u41, u43, u48, u49, u51, u52, u53, 0, 0, ?_, F13.start hHeld⟩
          simp only [fr13, Act.put, List.setIfInBounds_toArray, List.set_cons_succ, List.set_cons_zero]
      case rest =>
        obtain ⟨bq, br, rfl, rfl, hBQ, hBR, hbq, hbr, hBel⟩ := hcut
        have BQ := hide hBQ
        have BR := hide hBR
        have C3 := hide hBel
        have q0 := hBQ.at' 0 (by omega)
        have q1 := hBQ.at' 1 (by omega)
        have q2 := hBQ.at' 2 (by omega)
        have q3 := hBQ.at' 3 (by omega)
        have q4 := hBQ.at' 4 (by omega)
        have q5 := hBQ.at' 5 (by omega)
        have HQ63 := hide (show qf T S zs k < 9223372036854775808 from by have h1 := (unhide hcum).2.2 (k + 1) hlt; have h2 := (unhide hcum).2.1 k; have := unhide hT; omega)
        clear hBQ hBR hBel s0 s1 s2 s3 s4 s5 HOV HMT hck
        obtain ⟨i0, hi, hz0, hz1, hz2⟩ := info_parts info2q
        have HI := hide hi; have HZ0 := hide hz0; have HZ1 := hide hz1; have HZ2 := hide hz2
        clear hi hz0 hz1 hz2
        obtain ⟨j0, hi, hz0, hz1, hz2⟩ := info_parts info46
        have JI := hide hi; have JZ0 := hide hz0; have JZ1 := hide hz1; have JZ2 := hide hz2
        clear hi hz0 hz1 hz2
        have kn : k + 1 ≤ 1000 := by omega
        have lsz := (unhide HS).left.lt
        have hsl : w1.heap.size < w2.heap.size + 1 := by have := (unhide HB2).size; simp at this; omega
        have hsn : w1.heap.size ≠ w2.heap.size := by have := (unhide HB2).size; simp at this; omega
        have hlw : w.heap.size ≤ w2.heap.size := by have := (unhide HB1).size; omega
        go_wp2_with fail
        refine (amount_pos (qf T S zs k) (unhide HQ63) _).mono ?_
        rintro e w3 ⟨rfl, hb3⟩
        have C4 := hide (show Below wr.heap.size wr w3 from (unhide C3).trans (hb3.mono (unhide C3).size))
        have BQ3 := hide ((unhide BQ).below hb3)
        have BR3 := hide ((unhide BR).below hb3)
        have P3 := hide (own_below (unhide HS).parts (unhide C4))
        have R3 := hide (own_below (unhide HS).rests (unhide C4))
        have L3 := hide ((unhide HS).left.below (unhide C4))
        have S3 := hide ((unhide HS).sum.below (unhide C4))
        have z3 := (unhide C4).size
        clear hb3 C3 BQ BR q0 q1 q2 q3 q4 q5
        have hQf := hide (show qf T S zs k ≤ T - cumQ T S zs k from by have h1 := (unhide hcum).2.2 (k + 1) hlt; have h2 := (unhide hcum).2.1 k; omega)
        have hTf := hide (show T - cumQ T S zs k < 4294967296 ^ 6 from by rw [p6n]; have := unhide hT; omega)
        go_wp2_with (first
          | (at_builtin; refine wpList_append_own _ rfl _ _ 22 rfl (w2.heap.size + 1) 2 i0 (.int .i64 0) 1 8 Try.underlying22 (unhide HI) (unhide HZ0) (unhide HZ1) (unhide HZ2) rfl (by decide) _ _ _ rfl ((unhide P3).alloc _) ⟨w3.heap.size, 0, none⟩ 1 1 [.int .i64 (qf T S zs k : Int)] rfl rfl (cell_one_new _ _ _) (by intro u hu; simp at hu; subst hu; rfl) (by unfold maxLen; omega) (by omega) (by simp; omega) ?_; intro v4 w4 hown4 hgrow4 _; have G4 := hide ((World.grownBy_alloc w3 (.cells #[.int .i64 (qf T S zs k : Int)] 2) u9.ownBlock).trans hgrow4); have P4 := hide hown4; have BQ4 := hide ((unhide BQ3).grown (unhide G4) (own_row (unhide HS).parts (.inl hbq))); have BR4 := hide ((unhide BR3).grown (unhide G4) (own_row (unhide HS).parts (.inl hbr))); have R4 := hide ((unhide R3).kept (unhide G4) (own_ne (unhide P3) (unhide R3) (by decide))); have L4 := hide ((unhide L3).grown (unhide G4) (own_row (unhide P3) (.inr (by omega)))); have S4 := hide ((unhide S3).grown (unhide G4) (own_row (unhide P3) (.inr hsl))); have z4 := (unhide G4).size; clear hown4 hgrow4; have c0 := (unhide BR4).at' 0 (by omega); have c1 := (unhide BR4).at' 1 (by omega); have c2 := (unhide BR4).at' 2 (by omega); have c3 := (unhide BR4).at' 3 (by omega); have c4 := (unhide BR4).at' 4 (by omega); have c5 := (unhide BR4).at' 5 (by omega))
          | (at_builtin; refine wpList_append_own _ rfl _ _ 76 rfl (w2.heap.size + 1) 46 j0 _ 6 48 Try.underlying76 (unhide JI) (unhide JZ0) (unhide JZ1) (unhide JZ2) rfl (by decide) _ _ _ rfl ((unhide R4).alloc _) ⟨w4.heap.size, 0, none⟩ 1 1 (six6 (rf T S zs k)) rfl rfl (cell_six_new _ _) (six6_one _) (by unfold maxLen; omega) (by omega) (by simp; omega) ?_; intro v5 w5 hown5 hgrow5 _; have G5 := hide ((World.grownBy_alloc w4 (.cells #[.int .u64 (dg (rf T S zs k) 0), .int .u64 (dg (rf T S zs k) 1), .int .u64 (dg (rf T S zs k) 2), .int .u64 (dg (rf T S zs k) 3), .int .u64 (dg (rf T S zs k) 4), .int .u64 (dg (rf T S zs k) 5)] 46) u10.ownBlock).trans hgrow5); have R5 := hide hown5; have BQ5 := hide ((unhide BQ4).grown (unhide G5) (own_row (unhide HS).rests (.inl hbq))); have P5 := hide ((unhide P4).kept (unhide G5) (own_ne (unhide R4) (unhide P4) (by decide))); have L5 := hide ((unhide L4).grown (unhide G5) (own_row (unhide R4) (.inr (by omega)))); have S5 := hide ((unhide S4).grown (unhide G5) (own_row (unhide R4) (.inr hsl))); have z5 := (unhide G5).size; clear hown5 hgrow5; have d0 := (unhide BQ5).at' 0 (by omega); have d1 := (unhide BQ5).at' 1 (by omega); have d2 := (unhide BQ5).at' 2 (by omega); have d3 := (unhide BQ5).at' 3 (by omega); have d4 := (unhide BQ5).at' 4 (by omega); have d5 := (unhide BQ5).at' 5 (by omega); have f0 := (unhide L5).at' 0 (by omega); have f1 := (unhide L5).at' 1 (by omega); have f2 := (unhide L5).at' 2 (by omega); have f3 := (unhide L5).at' 3 (by omega); have f4 := (unhide L5).at' 4 (by omega); have f5 := (unhide L5).at' 5 (by omega))
          | (go_at_call 32; refine (minus_open (T - cumQ T S zs k) (qf T S zs k) (unhide hTf) (unhide hQf) _).mono ?_; rintro e w6 ⟨rfl, hb6⟩; have L6 := hide ((unhide L5).below hb6); have hst : May6 w6 w2.heap.size := ⟨(unhide L6).there⟩; have S6 := hide ((unhide S5).below hb6); have P6 := hide (own_below (unhide P5) hb6); have R6 := hide (own_below (unhide R5) hb6); have HB6 := hide hb6; clear hb6))
        have eT : T - cumQ T S zs k - qf T S zs k = T - cumQ T S zs (k + 1) := by rw [(unhide hcum).2.1 k]; omega
        go_roundw
        case rel =>
          refine ⟨k + 1, by omega, by go_num, ?_, ?_, ?_, ?_, ?_⟩
          · exact (unhide S6).other (by omega) _
          · rw [← eT]; exact (unhide L6).put _
          · rw [qCells_succ]; exact own_put6 (unhide P6) _
          · exact own_put6 (unhide R6) _
          · have d4 := Below.grown ((unhide HS).bel.trans ((unhide C4).mono (unhide HS).bel.size)) (unhide G4) (by have := (unhide HS).bel.size; omega) (fun j hj => by have := ((unhide HS).parts.lt j hj).1; omega)
            have d5 := Below.grown d4 (unhide G5) (by have := (unhide HS).bel.size; omega) (fun j hj => by have := ((unhide HS).rests.lt j hj).1; omega)
            exact below_put6 (d5.trans ((unhide HB6).mono d5.size)) hlw _
        case measure => simp [intOf]; omega
    · have hkn : k = n := by omega
      subst hkn
      have HS := hide hs
      have l0 := hs.left.at' 0 (by omega)
      have eL : dg (T - cumQ T S zs k) 0 = ((left T S zs k : Nat) : Int) := by have h1 := unhide hL; have h2 : T - cumQ T S zs k = left T S zs k := rfl; rw [h2]; unfold dg; rw [Nat.pow_zero, Nat.div_one, Nat.mod_eq_of_lt (by omega)]
      rw [eL] at l0
      obtain ⟨g7, c7, h7v⟩ : ∃ g c, u9 = .slice (some ⟨g, 0, none⟩) k c := by
        rcases hs.parts.2 with ⟨_, h0⟩ | ⟨g, c, cur, hv, _⟩
        · omega
        · exact ⟨g, c, hv⟩
      obtain ⟨g8, c8, h8v⟩ : ∃ g c, u10 = .slice (some ⟨g, 0, none⟩) k c := by
        rcases hs.rests.2 with ⟨_, h0⟩ | ⟨g, c, cur, hv, _⟩
        · omega
        · exact ⟨g, c, hv⟩
      subst h7v h8v
      have h78 : g8 ≠ g7 := by
        rcases own_ne hs.parts hs.rests (by decide) with h | h
        · simp [Value.ownBlock] at h
        · simpa [Value.ownBlock] using h
      have l7 := hs.parts.lt g7 rfl
      have l8 := hs.rests.lt g8 rfl
      have hsz := hs.bel.size
      have hw7 : w.heap.size ≤ g7 := by have := (unhide HB1).size; have := (unhide HB2).size; simp at this; omega
      have hA : At2 T S zs k g7 g8 wr.heap.size (fun _ => false) w (wr.alloc (.cells (madeCells #[.int .i64 0] k) 3)) := by
        have hb3 : Below wr.heap.size wr (wr.alloc (.cells (madeCells #[.int .i64 0] k) 3)) := bal (Below.refl _ _) _
        refine ⟨by simp; omega, by simp; omega, by simp, fun i hi => keep1 hb3 l7.2 ?_, fun i => keepF hb3 l7.2 (hs.parts.frozenAt i), fun i hi => made_cell3 wr k i hi, fun i => by simp, fun i hi j hj => keep1 hb3 l8.2 ?_, hs.bel.alloc hsz _⟩
        · rw [hs.parts.cellAt i (by omega), qCells_get _ _ _ hi]
          simp [b2]
        · rw [hs.rests.cellAt (i * 6 + j) (by omega)]
          exact rCells_get _ _ _ _ hi hj
      have HA := hide hA
      have hmk := fun W => run_mk77 k hn W
      have l0' := fun o => (World.cell?_alloc_lt wr o ⟨w2.heap.size, 0, none⟩ hs.left.lt).trans l0
      clear hs hA HS
      go_wp2_with fail
      have hwg : w.heap.size ≤ wr.heap.size := hsz
      have n7 : g7 ≠ wr.heap.size := by omega
      have n8 : g8 ≠ wr.heap.size := by omega
      generalize wr.heap.size = gb at *
      have hLk := unhide hL
      generalize hLn : left T S zs k = L at *
      have HLn := hide hLn
      have HA0 : Hid (∃ (m : Nat) (gv : Nat → Bool), L = L - m ∧ m ≤ L ∧ Giv T S zs k m gv ∧ At2 T S zs k g7 g8 gb gv w (wr.alloc (.cells (madeCells #[.int .i64 0] k) 3))) := ⟨0, _, by omega, by omega, Giv.zero _ _ _ _, unhide HA⟩
      clear HA hLn l0 l0' eL hmk
      go_loopw [18] (fun v wr => ∃ (m : Nat) (gv : Nat → Bool) (z : Nat), v = .int .u64 (z : Int) ∧ z = L - m ∧ m ≤ L ∧ Giv T S zs k m gv ∧ At2 T S zs k g7 g8 gb gv w wr) (fun v _ => (intOf v).toNat)
      case atStart => obtain ⟨m, gv, h1, h2, h3, h4⟩ := unhide HA0; exact ⟨m, gv, L, rfl, h1, h2, h3, h4⟩
      case round =>
        obtain ⟨m, gv, z, rfl, hz, hm, hG, hA⟩ := hrel
        have HG := hide hG
        have HA := hide hA
        have Hz := hide hz
        clear hG hA HA0 hz
        by_cases hz0 : z = 0
        · subst hz0
          have hmL : m = L := by have := unhide Hz; omega
          have hA3 : At3 k g7 (fun x => (part T S zs k x : Int)) w wr := by
            have hA := unhide HA
            refine ⟨hA.l7, fun x hx => ?_, hA.fz7, hA.bel⟩
            rw [hA.parts x hx]
            have hg := (unhide HG).is x hx
            have e : ((qf T S zs x : Int) + b2 (gv x)) = (part T S zs k x : Int) := by
              unfold part
              rw [unhide HLn, ← hmL]
              cases hgx : gv x with
              | true => rw [if_pos (hg.1 hgx)]; simp [b2]
              | false => rw [if_neg (fun h => by have := hg.2 h; rw [hgx] at this; cases this)]; simp [b2]
            rw [e]
          have HA3 := hide hA3
          clear hA3 HG HA
          have hz0' : ¬ (0 : Int) < 0 := by omega
          by_cases hneg : total < 0
          · have hd : decide (total < 0) = true := decide_eq_true hneg
            go_wp2_with fail
            go_loopw [21] (fun v wr => ∃ i : Nat, i ≤ k ∧ v = .int .i64 (i : Int) ∧ At3 k g7 (fun x => if x < i then -(part T S zs k x : Int) else (part T S zs k x : Int)) w wr) (fun v _ => k - (intOf v).toNat)
            case atStart => exact ⟨0, by omega, rfl, (unhide HA3).ext (fun x _ => by simp)⟩
            case round =>
              obtain ⟨i, hi, rfl, hA⟩ := hrel
              have HA4 := hide hA
              clear HA3
              by_cases hlt : i < k
              · have hI : (i : Int) < (k : Int) := by omega
                have hI0 : (0 : Int) ≤ (i : Int) := by omega
                have p1 := hA.cells i hlt
                have p2 := hA.fz i
                simp only [Nat.lt_irrefl, if_false] at p1
                have hpT := unhide hpT i hlt
                have hp1 : (part T S zs k i : Int) ≤ 9223372036854775807 := by have h1 := unhide hT; omega
                have hp0 : (0 : Int) ≤ (part T S zs k i : Int) := by omega
                have HN := hide (hA.set hw7 hlt (-(part T S zs k i : Int)))
                clear hA
                go_wp2_with fail
                refine ⟨⟨i + 1, by omega, by go_num, (unhide HN).ext (fun x hx => ?_)⟩, by simp [intOf]; omega⟩
                by_cases e : x = i
                · subst e; rw [if_pos rfl, if_pos (by omega)]
                · rw [if_neg e]
                  by_cases h' : x < i
                  · rw [if_pos h', if_pos (by omega)]
                  · rw [if_neg h', if_neg (by omega)]
              · have hik : i = k := by omega
                subst hik
                have hI : ¬ (i : Int) < (i : Int) := by omega
                clear hA
                go_wp2_with fail
                go_ret2
                exact ⟨g7, c7, rfl, hw7, (unhide HA4).l7, fun x hx => by rw [(unhide HA4).cells x hx, if_pos hx]; rfl, (unhide HA4).bel⟩
          · have hd : decide (total < 0) = false := decide_eq_false hneg
            have hk1 : (0 : Int) < (k : Int) := by omega
            go_wp2_with fail
            go_loopw [21] (fun v wr => v = .int .i64 0 ∧ At3 k g7 (fun x => (part T S zs k x : Int)) w wr) (fun v _ => 0)
            case atStart => exact ⟨rfl, unhide HA3⟩
            case round =>
              obtain ⟨rfl, hA⟩ := hrel
              have HA4 := hide hA
              clear HA3 hA
              go_wp2_with fail
              go_ret2
              exact ⟨g7, c7, rfl, hw7, (unhide HA4).l7, fun x hx => by rw [(unhide HA4).cells x hx, hd]; rfl, (unhide HA4).bel⟩
        · have hzp : (0 : Int) < (z : Int) := by omega
          have hzd : decide (0 < z) = true := decide_eq_true (by omega)
          have hzn : 0 < z := by omega
          go_wp2_with fail
          go_loopw [19, 20] (fun v19 v20 wr => ∃ (i : Nat) (o : Option Nat) (zb : Int), v19 = .int .i64 zb ∧ v20 = .int .i64 (i : Int) ∧ i ≤ k ∧ Best T S zs gv i o ∧ (o = none ∧ zb = -1 ∨ ∃ bb : Nat, o = some bb ∧ zb = (bb : Int)) ∧ At2 T S zs k g7 g8 gb gv w wr) (fun _ v20 _ => k - (intOf v20).toNat)
          case atStart => exact ⟨0, none, -1, rfl, rfl, by omega, Best.zero _ _ _ _, .inl ⟨rfl, rfl⟩, unhide HA⟩
          case round =>
            obtain ⟨i, o, zb, rfl, rfl, hi, hB, hzb, hA⟩ := hrel
            have HB := hide hB
            have HA3 := hide hA
            clear hB HA
            by_cases hlt : i < k
            · have hI : (i : Int) < (k : Int) := by omega
              have hI0 : (0 : Int) ≤ (i : Int) := by omega
              have gi := hA.giv i hlt
              cases hgi : gv i with
              | true =>
                rw [hgi] at gi
                simp only [b2, if_true] at gi
                have HZB := hide hzb
                clear hA hzb
                go_wp2_with fail
                go_quiet (fail)
                go_wp2_with fail
                go_roundw
                case rel => exact ⟨i + 1, o, zb, rfl, by go_num, by omega, (unhide HB).given hgi, unhide HZB, (unhide HA3).drewN _⟩
                case measure => simp [intOf]; omega
              | false =>
                rw [hgi] at gi
                simp only [b2] at gi
                rcases hzb with ⟨ho, hzb⟩ | ⟨bb, ho, hzb⟩
                · subst ho hzb
                  clear hA
                  go_wp2_with fail
                  go_quiet (fail)
                  go_wp2_with fail
                  go_roundw
                  case rel => exact ⟨i + 1, some i, (i : Int), rfl, by go_num, by omega, (unhide HB).first hgi, .inr ⟨i, rfl, rfl⟩, (unhide HA3).drewN _⟩
                  case measure => simp [intOf]; omega
                · subst ho hzb
                  have hbi := (unhide HB).1
                  have hbk : (bb : Int) < (k : Int) := by omega
                  have hb0 : (0 : Int) ≤ (bb : Int) := by omega
                  have hb1 : ¬ (bb : Int) < 0 := by omega
                  have f1 := hide (show rf T S zs bb < 4294967296 ^ 6 from by have := Nat.mod_lt (T * (zs bb).toNat) (unhide W0).S0; have := (unhide W0).S63; rw [p6n]; unfold rf; omega)
                  have f2 := hide (show rf T S zs i < 4294967296 ^ 6 from by have := Nat.mod_lt (T * (zs i).toNat) (unhide W0).S0; have := (unhide W0).S63; rw [p6n]; unfold rf; omega)
                  have p0 := hA.rests bb (by omega) 0 (by omega)
                  rw [Nat.add_zero] at p0
                  have p1 := hA.rests bb (by omega) 1 (by omega)
                  have p2 := hA.rests bb (by omega) 2 (by omega)
                  have p3 := hA.rests bb (by omega) 3 (by omega)
                  have p4 := hA.rests bb (by omega) 4 (by omega)
                  have p5 := hA.rests bb (by omega) 5 (by omega)
                  have r0 := hA.rests i (by omega) 0 (by omega)
                  rw [Nat.add_zero] at r0
                  have r1 := hA.rests i (by omega) 1 (by omega)
                  have r2 := hA.rests i (by omega) 2 (by omega)
                  have r3 := hA.rests i (by omega) 3 (by omega)
                  have r4 := hA.rests i (by omega) 4 (by omega)
                  have r5 := hA.rests i (by omega) 5 (by omega)
                  by_cases hrr : rf T S zs bb < rf T S zs i
                  · have hrr := hide hrr
                    clear hA
                    go_wp2_with fail
                    go_region_held3 (fun W => W.cell? ⟨gb, i, none⟩ = some (.int .i64 0) ∧ W.cell? ⟨g8, bb * 6, none⟩ = some (.int .u64 (dg (rf T S zs bb) 0)) ∧ W.cell? ⟨g8, bb * 6 + 1, none⟩ = some (.int .u64 (dg (rf T S zs bb) 1)) ∧ W.cell? ⟨g8, bb * 6 + 2, none⟩ = some (.int .u64 (dg (rf T S zs bb) 2)) ∧ W.cell? ⟨g8, bb * 6 + 3, none⟩ = some (.int .u64 (dg (rf T S zs bb) 3)) ∧ W.cell? ⟨g8, bb * 6 + 4, none⟩ = some (.int .u64 (dg (rf T S zs bb) 4)) ∧ W.cell? ⟨g8, bb * 6 + 5, none⟩ = some (.int .u64 (dg (rf T S zs bb) 5)) ∧ W.cell? ⟨g8, i * 6, none⟩ = some (.int .u64 (dg (rf T S zs i) 0)) ∧ W.cell? ⟨g8, i * 6 + 1, none⟩ = some (.int .u64 (dg (rf T S zs i) 1)) ∧ W.cell? ⟨g8, i * 6 + 2, none⟩ = some (.int .u64 (dg (rf T S zs i) 2)) ∧ W.cell? ⟨g8, i * 6 + 3, none⟩ = some (.int .u64 (dg (rf T S zs i) 3)) ∧ W.cell? ⟨g8, i * 6 + 4, none⟩ = some (.int .u64 (dg (rf T S zs i) 4)) ∧ W.cell? ⟨g8, i * 6 + 5, none⟩ = some (.int .u64 (dg (rf T S zs i) 5))) (first | (refine ⟨?_, ?_, ?_, ?_, ?_, ?_, ?_, ?_, ?_, ?_, ?_, ?_, ?_⟩ <;> with_reducible assumption) | go_keep) ((go_at_call 31; refine (below_yes (rf T S zs bb) (rf T S zs i) (unhide f1) (unhide f2) (unhide hrr) _).mono ?_; rintro e w5 ⟨rfl, hb5⟩; have HA5 := hide (((unhide HA3).drewN 1).below hb5); have y := (unhide HA5).giv i hlt; rw [hgi] at y; simp only [b2] at y; have p0 := (unhide HA5).rests bb (by omega) 0 (by omega); rw [Nat.add_zero] at p0; have p1 := (unhide HA5).rests bb (by omega) 1 (by omega); have p2 := (unhide HA5).rests bb (by omega) 2 (by omega); have p3 := (unhide HA5).rests bb (by omega) 3 (by omega); have p4 := (unhide HA5).rests bb (by omega) 4 (by omega); have p5 := (unhide HA5).rests bb (by omega) 5 (by omega); have r0 := (unhide HA5).rests i hlt 0 (by omega); rw [Nat.add_zero] at r0; have r1 := (unhide HA5).rests i hlt 1 (by omega); have r2 := (unhide HA5).rests i hlt 2 (by omega); have r3 := (unhide HA5).rests i hlt 3 (by omega); have r4 := (unhide HA5).rests i hlt 4 (by omega); have r5 := (unhide HA5).rests i hlt 5 (by omega); clear hb5))
                    all_goals
                      go_wp2_with fail
                      go_roundw
                      case rel => exact ⟨i + 1, some i, (i : Int), rfl, by go_num, by omega, (unhide HB).take hgi (unhide hrr), .inr ⟨i, rfl, rfl⟩, unhide HA5⟩
                      case measure => simp [intOf]; omega
                  · have hrr := hide hrr
                    clear hA
                    go_wp2_with fail
                    go_region_held3 (fun W => W.cell? ⟨gb, i, none⟩ = some (.int .i64 0) ∧ W.cell? ⟨g8, bb * 6, none⟩ = some (.int .u64 (dg (rf T S zs bb) 0)) ∧ W.cell? ⟨g8, bb * 6 + 1, none⟩ = some (.int .u64 (dg (rf T S zs bb) 1)) ∧ W.cell? ⟨g8, bb * 6 + 2, none⟩ = some (.int .u64 (dg (rf T S zs bb) 2)) ∧ W.cell? ⟨g8, bb * 6 + 3, none⟩ = some (.int .u64 (dg (rf T S zs bb) 3)) ∧ W.cell? ⟨g8, bb * 6 + 4, none⟩ = some (.int .u64 (dg (rf T S zs bb) 4)) ∧ W.cell? ⟨g8, bb * 6 + 5, none⟩ = some (.int .u64 (dg (rf T S zs bb) 5)) ∧ W.cell? ⟨g8, i * 6, none⟩ = some (.int .u64 (dg (rf T S zs i) 0)) ∧ W.cell? ⟨g8, i * 6 + 1, none⟩ = some (.int .u64 (dg (rf T S zs i) 1)) ∧ W.cell? ⟨g8, i * 6 + 2, none⟩ = some (.int .u64 (dg (rf T S zs i) 2)) ∧ W.cell? ⟨g8, i * 6 + 3, none⟩ = some (.int .u64 (dg (rf T S zs i) 3)) ∧ W.cell? ⟨g8, i * 6 + 4, none⟩ = some (.int .u64 (dg (rf T S zs i) 4)) ∧ W.cell? ⟨g8, i * 6 + 5, none⟩ = some (.int .u64 (dg (rf T S zs i) 5))) (first | (refine ⟨?_, ?_, ?_, ?_, ?_, ?_, ?_, ?_, ?_, ?_, ?_, ?_, ?_⟩ <;> with_reducible assumption) | go_keep) ((go_at_call 31; refine (below_no (rf T S zs bb) (rf T S zs i) (unhide f1) (unhide f2) (unhide hrr) _).mono ?_; rintro e w5 ⟨rfl, hb5⟩; have HA5 := hide (((unhide HA3).drewN 1).below hb5); have y := (unhide HA5).giv i hlt; rw [hgi] at y; simp only [b2] at y; have p0 := (unhide HA5).rests bb (by omega) 0 (by omega); rw [Nat.add_zero] at p0; have p1 := (unhide HA5).rests bb (by omega) 1 (by omega); have p2 := (unhide HA5).rests bb (by omega) 2 (by omega); have p3 := (unhide HA5).rests bb (by omega) 3 (by omega); have p4 := (unhide HA5).rests bb (by omega) 4 (by omega); have p5 := (unhide HA5).rests bb (by omega) 5 (by omega); have r0 := (unhide HA5).rests i hlt 0 (by omega); rw [Nat.add_zero] at r0; have r1 := (unhide HA5).rests i hlt 1 (by omega); have r2 := (unhide HA5).rests i hlt 2 (by omega); have r3 := (unhide HA5).rests i hlt 3 (by omega); have r4 := (unhide HA5).rests i hlt 4 (by omega); have r5 := (unhide HA5).rests i hlt 5 (by omega); clear hb5))
                    all_goals
                      go_wp2_with fail
                      go_roundw
                      case rel => exact ⟨i + 1, some bb, (bb : Int), rfl, by go_num, by omega, (unhide HB).keep (unhide hrr), .inr ⟨bb, rfl, rfl⟩, unhide HA5⟩
                      case measure => simp [intOf]; omega
            · have hik : i = k := by omega
              subst hik
              have hI : ¬ (i : Int) < (i : Int) := by omega
              have hmk : m < i := by have := unhide Hz; omega
              rcases hzb with ⟨ho, _⟩ | ⟨bb, ho, hzb⟩
              · exact absurd (by rw [← ho]; exact unhide HB) (Best.there (unhide HG) hmk)
              · subst ho hzb
                have hbi : bb < i := (unhide HB).1
                have hgb := (unhide HB).2.1
                have hbI : (bb : Int) < (i : Int) := by omega
                have hb0 : (0 : Int) ≤ (bb : Int) := by omega
                have c1 := hA.giv bb hbi
                have c2 := hA.fzg bb
                have c3 := hA.parts bb hbi
                have c4 := hA.fz7 bb
                rw [hgb] at c1 c3
                simp only [b2] at c1 c3
                have c5 : (wr.setCell ⟨gb, bb, none⟩ (.int .i64 1)).cell? ⟨g7, bb, none⟩ = some (.int .i64 ((qf T S zs bb : Int) + 0)) := by rw [World.cell?_setCell_other _ _ _ _ (by intro h'; injection h' with h' _ _; exact n7 h'.symm)]; exact c3
                rw [Int.add_zero] at c5
                have hqb := unhide hqT bb hbi (by (first | rw [unhide HLn] | skip); have := unhide Hz; omega)
                have hq1 : (qf T S zs bb : Int) + 1 ≤ 9223372036854775807 := by have h1 := unhide hT; have h2 : qf T S zs bb < T := hqb; omega
                have hq0 : (0 : Int) ≤ (qf T S zs bb : Int) := by omega
                have hzw : IntKind.u64.wrap ((z : Int) - 1) = (z : Int) - 1 := uw_id _ (by omega) (by have := unhide Hz; omega)
                have HN := hide (hA.give n7 n8 h78 hw7 hwg hbi hgb)
                have HGN := hide ((unhide HG).step hbi hgb (unhide HB).2.2)
                clear hA
                go_wp2_with fail
                go_roundw
                case rel => exact ⟨m + 1, _, z - 1, by rw [show ((z - 1 : Nat) : Int) = (z : Int) - 1 by omega], by have := unhide Hz; omega, by have := unhide Hz; omega, unhide HGN, unhide HN⟩
                case measure => simp [intOf]; omega
end Go.Proofs.Ytddpladmkmpoaaa
