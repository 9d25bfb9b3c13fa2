/- typing: the law's stays 22. -/
import Derived.Test.YtfpbljfebjochaaGreatDoorRmB
namespace Go.Proofs.YtfpbljfebjochaaGreatDoor
open Go Go.Shelf Go.ChangeShapes Go.WideShapes Go.ChangeAt Go.RowKit Go.Maps
set_option linter.unusedVariables false
set_option linter.unusedSimpArgs false
set_option maxRecDepth 100000
set_option maxHeartbeats 8000000
theorem eq45 (x : Int × Int) (w : World) : (Op.equalIn 10000 75 (.agg #[.int .i64 x.1, .int .i64 x.2]) (.agg #[.int .i64 x.1, .int .i64 x.2])).run Tryz.prog w = .ok true w := by
  have sd : Tryz.prog.underlying 75 = some (.struct (Tryz.prog.fieldsOf 75)) := by kernel_rfl
  have sh : Tryz.prog.stoodInHeld 75 = false := by kernel_rfl
  rw [run_equalIn_agg w 9999 75 _ _ sd sh]
  have fl : (Tryz.prog.fieldsOf 75).toList.map (fun f => (f.type, f.offset, f.name == "_")) = [(3, 0, false), (3, 1, false)] := by kernel_rfl
  obtain ⟨f0, f1, hf⟩ : ∃ f0 f1, (Tryz.prog.fieldsOf 75).toList = [f0, f1] := by
    have h := congrArg List.length fl
    rw [List.length_map] at h
    match hq : (Tryz.prog.fieldsOf 75).toList, h with
    | [f0, f1], _ => exact ⟨f0, f1, rfl⟩
  have h := fl
  rw [hf] at h ⊢
  simp at h
  simp [Op.eqFields, go_sem, h, Tryz.underlying3]

theorem eq74 (x : Int × Bool) (w : World) : (Op.equalIn 10000 77 (.agg #[.int .i64 x.1, .bool x.2]) (.agg #[.int .i64 x.1, .bool x.2])).run Tryz.prog w = .ok true w := by
  have sd : Tryz.prog.underlying 77 = some (.struct (Tryz.prog.fieldsOf 77)) := by kernel_rfl
  have sh : Tryz.prog.stoodInHeld 77 = false := by kernel_rfl
  rw [run_equalIn_agg w 9999 77 _ _ sd sh]
  have fl : (Tryz.prog.fieldsOf 77).toList.map (fun f => (f.type, f.offset, f.name == "_")) = [(3, 0, false), (4, 1, false)] := by kernel_rfl
  obtain ⟨f0, f1, hf⟩ : ∃ f0 f1, (Tryz.prog.fieldsOf 77).toList = [f0, f1] := by
    have h := congrArg List.length fl
    rw [List.length_map] at h
    match hq : (Tryz.prog.fieldsOf 77).toList, h with
    | [f0, f1], _ => exact ⟨f0, f1, rfl⟩
  have h := fl
  rw [hf] at h ⊢
  simp at h
  simp [Op.eqFields, go_sem, h, Tryz.underlying3, Tryz.underlying4]

attribute [local go_sem ↓] ld32_is ld45_is ld74_is
theorem stays_any {W X : World} {q : Qy} {a c : Qa} (hR : Rmy W X q c) (hq : QIn X q a) : Calls Tryz.prog 13 #[qV q c, qV q a, .slice c.pN (q.nodes.length + 64) c.cN, .slice c.pB (q.by'.length + 64) c.cB] X fun e w' => e = .returned (.bool true) ∧ Below X.heap.size X w' := by
  obtain ⟨nN, hnN⟩ : ∃ n, n = q.nodes.length := ⟨_, rfl⟩
  obtain ⟨nB, hnB⟩ : ∃ n, n = q.by'.length := ⟨_, rfl⟩
  obtain ⟨nS, hnS⟩ : ∃ n, n = q.sh.length := ⟨_, rfl⟩
  obtain ⟨nO, hnO⟩ : ∃ n, n = q.ords.length := ⟨_, rfl⟩
  have hnn := hq.nn; have hnb := hq.nb; have hns := hq.ns; have hno := hq.no
  rw [← hnN] at hnn
  rw [← hnB] at hnb
  rw [← hnS] at hns
  rw [← hnO] at hno
  obtain ⟨g3, hg3, _, _, _⟩ := hR.s.start (by omega)
  obtain ⟨g4, hg4, _, _, _⟩ := hR.o.start (by omega)
  have hcS := hR.s.cap
  have hcO := hR.o.cap
  rw [← hnS] at hcS
  rw [← hnO] at hcO
  obtain ⟨X2, hX2⟩ : ∃ Y, Y = (X.alloc (.cells #[.slice c.pN nN c.cN, .int .i64 q.wh, .slice c.pB nB c.cB, .slice c.pS nS c.cS, .slice c.pO nO c.cO, .int .i64 q.lim] 27)).alloc (.cells #[.slice a.pN nN a.cN, .int .i64 q.wh, .slice a.pB nB a.cB, .slice a.pS nS a.cS, .slice a.pO nO a.cO, .int .i64 q.lim] 27) := ⟨_, rfl⟩
  have hB2 : Below X.heap.size X X2 := by rw [hX2]; exact Below.a2 X _ _
  have hs2 : X2.heap.size = X.heap.size + 2 := by rw [hX2]; simp
  have b4 : X2.heap[X.heap.size]? = some (.cells #[.slice c.pN nN c.cN, .int .i64 q.wh, .slice c.pB nB c.cB, .slice c.pS nS c.cS, .slice c.pO nO c.cO, .int .i64 q.lim] 27 (0, 0)) := by rw [hX2, Below.heap_alloc _ _ _ (by simp)]; exact heap_new _ _
  have b5 : X2.heap[X.heap.size + 1]? = some (.cells #[.slice a.pN nN a.cN, .int .i64 q.wh, .slice a.pB nB a.cB, .slice a.pS nS a.cS, .slice a.pO nO a.cO, .int .i64 q.lim] 27 (0, 0)) := by
    rw [hX2]
    have := heap_new (X.alloc (.cells #[.slice c.pN nN c.cN, .int .i64 q.wh, .slice c.pB nB c.cB, .slice c.pS nS c.cS, .slice c.pO nO c.cO, .int .i64 q.lim] 27)) (.cells #[.slice a.pN nN a.cN, .int .i64 q.wh, .slice a.pB nB a.cB, .slice a.pS nS a.cS, .slice a.pO nO a.cO, .int .i64 q.lim] 27)
    rw [World.size_alloc] at this
    exact this
  have HC4 : Hid (∀ Y, Below X2.heap.size X2 Y → Y.cell? ⟨X.heap.size, 1, none⟩ = some (.int .i64 q.wh) ∧ Y.cell? ⟨X.heap.size, 5, none⟩ = some (.int .i64 q.lim) ∧ Y.cell? ⟨X.heap.size, 3, none⟩ = some (.slice c.pS nS c.cS) ∧ Y.cell? ⟨X.heap.size, 4, none⟩ = some (.slice c.pO nO c.cO)) := fun Y h => by
    refine ⟨?_, ?_, ?_, ?_⟩ <;> rw [cell_at ((h.block _ (by omega)).trans b4)] <;> rfl
  have HC5 : Hid (∀ Y, Below X2.heap.size X2 Y → Y.cell? ⟨X.heap.size + 1, 1, none⟩ = some (.int .i64 q.wh) ∧ Y.cell? ⟨X.heap.size + 1, 5, none⟩ = some (.int .i64 q.lim) ∧ Y.cell? ⟨X.heap.size + 1, 3, none⟩ = some (.slice a.pS nS a.cS) ∧ Y.cell? ⟨X.heap.size + 1, 4, none⟩ = some (.slice a.pO nO a.cO) ∧ Y.cell? ⟨X.heap.size + 1, 0, none⟩ = some (.slice a.pN nN a.cN) ∧ Y.cell? ⟨X.heap.size + 1, 2, none⟩ = some (.slice a.pB nB a.cB)) := fun Y h => by
    refine ⟨?_, ?_, ?_, ?_, ?_, ?_⟩ <;> rw [cell_at ((h.block _ (by omega)).trans b5)] <;> rfl
  have d1 := hide (kept36 (W := X2) (n := nN) (c := c.cN) (cc := a.cN) hnN.symm (by omega) (hq.n.below hB2) ((hR.n.lies kN_ok).below hB2))
  have D2 : Hid (∀ Y, Below X2.heap.size X2 Y → Calls Tryz.prog 68 #[.slice c.pB (nB + 64) c.cB, .slice a.pB nB a.cB] Y fun e w' => e = .returned (.bool true) ∧ Below Y.heap.size Y w') := fun Y h => kept37 (W := Y) (n := nB) (c := c.cB) (cc := a.cB) hnB.symm (by omega) ((hq.b.below hB2).below h) (((hR.b.lies kI_ok).below hB2).below h)
  have HPS := hide ((hR.s.lies kG_ok).below hB2); have HPO := hide ((hR.o.lies kO_ok).below hB2)
  rw [hg3] at HPS
  rw [hg4] at HPO
  have HQS := hide (hq.s.below hB2); have HQO := hide (hq.o.below hB2)
  have HN := hide hnN; have HBB := hide hnB; have HS := hide hnS; have HO := hide hnO; have HB2 := hide hB2; have HSZ := hide hs2
  have hgo : qV q c = .agg #[.slice c.pN nN c.cN, .int .i64 q.wh, .slice c.pB nB c.cB, .slice c.pS nS c.cS, .slice c.pO nO c.cO, .int .i64 q.lim] := by rw [hnN, hnB, hnS, hnO]; rfl
  have hgo2 : qV q a = .agg #[.slice a.pN nN a.cN, .int .i64 q.wh, .slice a.pB nB a.cB, .slice a.pS nS a.cS, .slice a.pO nO a.cO, .int .i64 q.lim] := by rw [hnN, hnB, hnS, hnO]; rfl
  rw [hgo, hgo2, ← hnN, ← hnB]
  obtain ⟨c50, c52⟩ := (unhide HC5 _ (Below.refl _ _)).2.2.2.2
  have HG3 := hide hg3; have HG4 := hide hg4
  clear hR hq hnN hnB hnS hnO hB2 hs2 b4 b5 hgo hgo2 hg3 hg4
  go_enter Tryz.func13, Tryz.ntmps13
  go_upto_region 1 with fail
  rw [← hX2]
  clear hX2
  go_wp2_with fail
  refine (unhide d1).mono ?_
  rintro e w3 ⟨rfl, B3⟩
  have HB3 := hide B3
  have d2 := hide (unhide D2 _ B3)
  have c32 := (unhide HC5 _ B3).2.2.2.2.2
  clear B3 d1 D2 c50 c52
  go_wp2_with fail
  refine (unhide d2).mono ?_
  rintro e w4 ⟨rfl, B4⟩
  have HB0 : Hid (Below X2.heap.size X2 w4) := (unhide HB3).trans (B4.mono (unhide HB3).size)
  obtain ⟨c41, c45, c43, c44⟩ := unhide HC4 _ (unhide HB0)
  obtain ⟨c51, c55, c53, c54, _, _⟩ := unhide HC5 _ (unhide HB0)
  rw [unhide HG3] at c43
  rw [unhide HG4] at c44
  have e45 : Tryz.prog.eqGuardType Tryz.prog.depth 75 = false := by kernel_rfl
  have e74 : Tryz.prog.eqGuardType Tryz.prog.depth 77 = false := by kernel_rfl
  have hw1 : IntKind.i64.wrap ((nS : Int) + 64) = (nS : Int) + 64 := by rw [IntKind.wrap_i64]; omega
  have hw2 : IntKind.i64.wrap ((nO : Int) + 64) = (nO : Int) + 64 := by rw [IntKind.wrap_i64]; omega
  have k1 : (nS : Int) + 64 ≤ (c.cS : Int) := by omega
  have k2 : (nO : Int) + 64 ≤ (c.cO : Int) := by omega
  have k3 : (0 : Int) ≤ (nS : Int) + 64 := by omega
  have k4 : (0 : Int) ≤ (nO : Int) + 64 := by omega
  clear B4 HB3 d2 c32
  go_upto_region 7 with fail
  clear c41 c45 c43 c44 c51 c55 c53 c54 hw1 hw2 k1 k2 k3 k4
  go_upto_region 8 with fail
  go_loopw [13] (fun v wr => ∃ k : Nat, k ≤ nS ∧ v = .int .i64 (k : Int) ∧ Hid (Below X2.heap.size X2 wr)) (fun v _ => nS - (intOf v).toNat)
  case atStart => exact ⟨0, by omega, rfl, unhide HB0⟩
  case round =>
    clear HB0
    obtain ⟨k, hk, rfl, HB⟩ := hrel
    have cq5 := (unhide HC5 _ (unhide HB)).2.2.1
    by_cases hlt : k < nS
    · have hkL : k < q.sh.length := by rw [← unhide HS]; omega
      obtain ⟨b2, o2, e2, l2, r2⟩ := ((unhide HQS).below (unhide HB)).2 k hkL
      obtain ⟨b1, o1, e1, l1, r1⟩ := ((unhide HPS).below (unhide HB)).2 k (by rw [List.length_append]; omega)
      rw [List.getElem_append_left hkL] at r1
      cases e1
      rw [e2] at cq5
      obtain ⟨x, hx⟩ : ∃ x, x = q.sh[k] := ⟨_, rfl⟩
      rw [← hx] at r1 r2
      have x0 : ∀ P : Bel wr, (ld45 (.pointer (some ⟨g3, k * 2, none⟩))).run Tryz.prog P.W = .ok (.agg #[.int .i64 x.1, .int .i64 x.2]) P.W := fun P => by
        refine run_ld45 (fun u v hv => ?_)
        have := (P.h.cell (p := ⟨g3, 0 + k * 2 + u, none⟩) l1).trans (r1 u v hv)
        rw [Nat.zero_add] at this
        exact this
      have y0 : ∀ P : Bel wr, (ld45 (.pointer (some ⟨b2, o2 + k * 2, none⟩))).run Tryz.prog P.W = .ok (.agg #[.int .i64 x.1, .int .i64 x.2]) P.W := fun P => by exact run_ld45 (fun u v hv => (P.h.cell (p := ⟨b2, o2 + k * 2 + u, none⟩) l2).trans (r2 u v hv))
      have z0 : ∀ P : Bel wr, P.W.cell? ⟨X.heap.size + 1, 3, none⟩ = some (.slice (some ⟨b2, o2, none⟩) nS a.cS) := fun P => (P.h.cell (p := ⟨X.heap.size + 1, 3, none⟩) (by have := (unhide HB).size; have := unhide HSZ; simp; omega)).trans cq5
      have q0 : ∀ P : Bel wr, (Op.equalIn 10000 75 (.agg #[.int .i64 x.1, .int .i64 x.2]) (.agg #[.int .i64 x.1, .int .i64 x.2])).run Tryz.prog P.W = .ok true P.W := fun P => eq45 x P.W
      have hkn : (k : Int) < (nS : Int) := by omega
      have hkn2 : (k : Int) < (nS : Int) + 64 := by omega
      have hkc : k < nS + 64 := by omega
      clear r1 r2 hx e2 l1 l2
      go_wp2_with fail
      refine wp_region_quiet_below (by kernel_rfl) (by kernel_rfl) ?_
      repeat (go_big_quiet_step (fail))
      refine wpQuiet_nil ?_
      rintro _ ⟨P, rfl⟩
      clear x0 y0 z0 cq5 q0
      go_wp2_with fail
      exact ⟨⟨k + 1, by omega, by go_num, (unhide HB).trans (P.h.mono (unhide HB).size)⟩, by simp [intOf]; omega⟩
    · have hkn : nS = k := by omega
      subst hkn
      have hkk : ¬ (nS : Int) < (nS : Int) := by omega
      go_wp2_with fail
      clear cq5 hkk hlt hk
      go_loopw [14] (fun v wr => ∃ k : Nat, k ≤ nO ∧ v = .int .i64 (k : Int) ∧ Hid (Below X2.heap.size X2 wr)) (fun v _ => nO - (intOf v).toNat)
      case atStart => exact ⟨0, by omega, rfl, unhide HB⟩
      case round =>
        clear HB
        obtain ⟨k, hk, rfl, HB⟩ := hrel
        have cq5 := (unhide HC5 _ (unhide HB)).2.2.2.1
        by_cases hlt : k < nO
        · have hkL : k < q.ords.length := by rw [← unhide HO]; omega
          obtain ⟨b2, o2, e2, l2, r2⟩ := ((unhide HQO).below (unhide HB)).2 k hkL
          obtain ⟨b1, o1, e1, l1, r1⟩ := ((unhide HPO).below (unhide HB)).2 k (by rw [List.length_append]; omega)
          rw [List.getElem_append_left hkL] at r1
          cases e1
          rw [e2] at cq5
          obtain ⟨x, hx⟩ : ∃ x, x = q.ords[k] := ⟨_, rfl⟩
          rw [← hx] at r1 r2
          have x0 : ∀ P : Bel wr, (ld74 (.pointer (some ⟨g4, k * 2, none⟩))).run Tryz.prog P.W = .ok (.agg #[.int .i64 x.1, .bool x.2]) P.W := fun P => by
            refine run_ld74 (fun u v hv => ?_)
            have := (P.h.cell (p := ⟨g4, 0 + k * 2 + u, none⟩) l1).trans (r1 u v hv)
            rw [Nat.zero_add] at this
            exact this
          have y0 : ∀ P : Bel wr, (ld74 (.pointer (some ⟨b2, o2 + k * 2, none⟩))).run Tryz.prog P.W = .ok (.agg #[.int .i64 x.1, .bool x.2]) P.W := fun P => by exact run_ld74 (fun u v hv => (P.h.cell (p := ⟨b2, o2 + k * 2 + u, none⟩) l2).trans (r2 u v hv))
          have z0 : ∀ P : Bel wr, P.W.cell? ⟨X.heap.size + 1, 4, none⟩ = some (.slice (some ⟨b2, o2, none⟩) nO a.cO) := fun P => (P.h.cell (p := ⟨X.heap.size + 1, 4, none⟩) (by have := (unhide HB).size; have := unhide HSZ; simp; omega)).trans cq5
          have q0 : ∀ P : Bel wr, (Op.equalIn 10000 77 (.agg #[.int .i64 x.1, .bool x.2]) (.agg #[.int .i64 x.1, .bool x.2])).run Tryz.prog P.W = .ok true P.W := fun P => eq74 x P.W
          have hkn : (k : Int) < (nO : Int) := by omega
          have hkn2 : (k : Int) < (nO : Int) + 64 := by omega
          have hkc : k < nO + 64 := by omega
          clear r1 r2 hx e2 l1 l2
          go_wp2_with fail
          refine wp_region_quiet_below (by kernel_rfl) (by kernel_rfl) ?_
          repeat (go_big_quiet_step (fail))
          refine wpQuiet_nil ?_
          rintro _ ⟨P, rfl⟩
          clear x0 y0 z0 cq5 q0
          go_wp2_with fail
          exact ⟨⟨k + 1, by omega, by go_num, (unhide HB).trans (P.h.mono (unhide HB).size)⟩, by simp [intOf]; omega⟩
        · have hkn : nO = k := by omega
          subst hkn
          have hkk : ¬ (nO : Int) < (nO : Int) := by omega
          go_wp2_with fail
          clear cq5 hkk hlt hk
          go_loopw [15] (fun v wr => ∃ k : Nat, k ≤ 64 ∧ v = .int .i64 (k : Int) ∧ Hid (Below X2.heap.size X2 wr)) (fun v _ => 64 - (intOf v).toNat)
          case atStart => exact ⟨0, by omega, rfl, unhide HB⟩
          case round =>
            clear HB
            obtain ⟨k, hk, rfl, HB⟩ := hrel
            by_cases hlt : k < 64
            · obtain ⟨_, _, cq3, cq4, _, _⟩ := unhide HC5 _ (unhide HB)
              obtain ⟨b1, o1, e1, l1, r1⟩ := ((unhide HPS).below (unhide HB)).2 (q.sh.length + k) (by rw [List.length_append, mks_len]; omega)
              cases e1
              rw [marked_get rfl hlt, ← unhide HS] at r1
              obtain ⟨b2, o2, e2, l2, r2⟩ := ((unhide HPO).below (unhide HB)).2 (q.ords.length + k) (by rw [List.length_append, mks_len]; omega)
              cases e2
              rw [marked_get rfl hlt, ← unhide HO] at r2
              have x0 : (ld45 (.pointer (some ⟨g3, (nS + k) * 2, none⟩))).run Tryz.prog wr = .ok (.agg #[.int .i64 (-7), .int .i64 (k : Int)]) wr := run_ld45 (x := mkG k) (fun u v hv => by have := r1 u v hv; rw [Nat.zero_add] at this; exact this)
              have y0 : (ld74 (.pointer (some ⟨g4, (nO + k) * 2, none⟩))).run Tryz.prog wr = .ok (.agg #[.int .i64 (-7 - (k : Int)), .bool false]) wr := run_ld74 (x := mkO k) (fun u v hv => by have := r2 u v hv; rw [Nat.zero_add] at this; exact this)
              have q0 := eq45 (mkG k) wr
              have q1 := eq74 (mkO k) wr
              unfold mkG at q0
              unfold mkO at q1
              simp only at q0 q1
              have hI : (k : Int) < 64 := by omega
              have w1 : IntKind.i64.wrap ((nS : Int) + (k : Int)) = ((nS + k : Nat) : Int) := by rw [IntKind.wrap_i64]; omega
              have w2 : IntKind.i64.wrap ((nO : Int) + (k : Int)) = ((nO + k : Nat) : Int) := by rw [IntKind.wrap_i64]; omega
              have w3 : IntKind.i64.wrap (-7 - (k : Int)) = -7 - (k : Int) := by rw [IntKind.wrap_i64]; omega
              have i1 : ((nS + k : Nat) : Int) < (nS : Int) + 64 := by omega
              have i2 : ((nO + k : Nat) : Int) < (nO : Int) + 64 := by omega
              have i3 : (0 : Int) ≤ ((nS + k : Nat) : Int) := by omega
              have i4 : (0 : Int) ≤ ((nO + k : Nat) : Int) := by omega
              have i5 : nS + k < nS + 64 := by omega
              have i6 : nO + k < nO + 64 := by omega
              have t1 : ((nS + k : Nat) : Int).toNat = nS + k := Int.toNat_natCast _
              have t2 : ((nO + k : Nat) : Int).toNat = nO + k := Int.toNat_natCast _
              obtain ⟨u1, hu1⟩ : ∃ n, n = nS + k := ⟨_, rfl⟩
              obtain ⟨u2, hu2⟩ : ∃ n, n = nO + k := ⟨_, rfl⟩
              rw [← hu1] at x0 w1 i1 i3 t1 i5
              rw [← hu2] at y0 w2 i2 i4 t2 i6
              clear r1 r2 l1 l2 hu1 hu2
              go_wp2_with fail
              exact ⟨⟨k + 1, by omega, by go_num, unhide HB⟩, by simp [intOf]; omega⟩
            · have hI : ¬ (k : Int) < 64 := by omega
              go_wp2_with fail
              go_ret
              exact ⟨rfl, (unhide HB2).trans ((unhide HB).mono (unhide HB2).size)⟩
end Go.Proofs.YtfpbljfebjochaaGreatDoor
