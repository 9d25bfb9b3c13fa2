import Derived.Test.YtfclknlpdcanpaaGreatDoorW27
/- The document's Invoice (14). -/
namespace Go.Proofs.YtfclknlpdcanpaaGreatDoor
open Go Go.Shelf Go.ChangeShapes Go.WideShapes Go.ChangeAt Go.RowKit Go.Maps
set_option linter.unusedVariables false
def RInvOut (W w' : World) (d : Nat) (S : Nat → Prop) (C : List Cl) (A : List Al) (g : Int) (c : Cl) : Prop := (invS C c ≠ 0 → Below W.heap.size W w') ∧ (invS C c = 0 → RvNext W w' d S (C ++ [c]) A g)
theorem sumC_take {C : List Cl} {i : Nat} (h : i < C.length) : sumC (C.take (i + 1)) = sumC (C.take i) + C[i].amt := by
  rw [List.take_succ_eq_append_getElem h, sumC_append]
  show _ + (C[i].amt + 0) = _
  omega
theorem sumC_part {C : List Cl} (h : ∀ c ∈ C, 0 ≤ c.amt) (i : Nat) : 0 ≤ sumC (C.take i) ∧ sumC (C.take i) ≤ sumC C := by
  have e : sumC C = sumC (C.take i) + sumC (C.drop i) := by rw [← sumC_append, List.take_append_drop]
  have h1 := sumC_nonneg (C := C.take i) (fun c hc => h c (List.mem_of_mem_take hc))
  have h2 := sumC_nonneg (C := C.drop i) (fun c hc => h c (List.mem_of_mem_drop hc))
  omega
/-- one invoice more: the append, and the store of the list -/
theorem rv_more {W V : World} {d bx : Nat} {S : Nat → Prop} {C : List Cl} {A : List Al} {g : Int} {c : Cl} {vc va : Value} (hWV : Below W.heap.size W V) (hlt : ∀ b, S b → b < W.heap.size) (h1 : V.heap[d]? = some (.cells #[vc, va, .int .i64 (1 + g)] 72 (0, 0))) (h2 : V.ownsRow 0 56 5 vc C.length (kC.flat C)) (h3 : V.ownsRow 0 58 4 va A.length (kA.flat A)) (h4 : S d) (h5 : ∀ b, vc.ownBlock = some b → S b) (h6 : ∀ b, va.ownBlock = some b → S b) (hl : C.length ≤ 1000) (ty : TypeId) :
    ∃ p' c' w6, (Builtin.append_ #[59, 59] ty #[vc, .slice (some ⟨V.heap.size, 0, none⟩) 1 1]).run Tryz.prog (V.alloc (.cells #[.string c.key, .string c.acc, .int .i64 c.day, .int .i64 c.due, .int .i64 c.amt] 56)) = .ok (.slice p' (C.length + 1) c') w6 ∧ w6.cell? ⟨d, 0, none⟩ = some vc ∧ w6.frozen? ⟨d, 0, none⟩ = false ∧ (∀ b, b < V.heap.size → ¬ S b → w6.heap[b]? = V.heap[b]?) ∧ RvNext W (w6.setCell ⟨d, 0, none⟩ (.slice p' (C.length + 1) c')) d S (C ++ [c]) A g := by
  obtain ⟨Z, hZ⟩ : ∃ Z, Z = V.alloc (.cells #[.string c.key, .string c.acc, .int .i64 c.day, .int .i64 c.due, .int .i64 c.amt] 56) := ⟨_, rfl⟩
  have hZ1 : Below V.heap.size V Z := by rw [hZ]; exact (Below.refl _ _).alloc (Nat.le_refl _) _
  have hu : Lies kC Z (some ⟨V.heap.size, 0, none⟩) [c] := by rw [hZ]; exact one_lies V c 56 _ rfl
  have hdl := heap_lt h1
  have hown : Z.ownsRow 0 56 5 vc C.length (kC.flat C) := row_keep h2 (fun b hb => hZ1.block b (row_block h2 hb).2.1)
  obtain ⟨p', c', w6, hr, ho, hb6, hoth, hat⟩ := run_app kC_ok ty (W := Z) (B := 0) (M := [c]) hown (Nat.zero_le _) (some ⟨V.heap.size, 0, none⟩) 1 (fun h => by cases h) hu (by simp; omega)
  simp only [List.length_singleton] at hr ho hat
  rw [← hZ]
  have hdne : vc.ownBlock ≠ some d := fun e => by
    have t1 := row_ty h2 e
    rw [ty_of h1] at t1
    cases t1
  have hd6 : w6.heap[d]? = some (.cells #[vc, va, .int .i64 (1 + g)] 72 (0, 0)) := (hoth d (Nat.lt_of_lt_of_le hdl hZ1.size) hdne).trans ((hZ1.block d hdl).trans h1)
  have hout : ∀ b, b < V.heap.size → ¬ S b → w6.heap[b]? = V.heap[b]? := fun b hb hs => (hoth b (Nat.lt_of_lt_of_le hb hZ1.size) (fun e => hs (h5 b e))).trans (hZ1.block b hb)
  obtain ⟨Y, hY⟩ : ∃ Y, Y = w6.setCell ⟨d, 0, none⟩ (.slice p' (C.length + 1) c') := ⟨_, rfl⟩
  have hYne : ∀ b, b ≠ d → Y.heap[b]? = w6.heap[b]? := fun b hb => by rw [hY]; exact Below.heap_setCell _ _ _ _ hb
  have hYs : Y.heap.size = w6.heap.size := by rw [hY]; simp
  have hYd : Y.heap[d]? = some (.cells #[.slice p' (C.length + 1) c', va, .int .i64 (1 + g)] 72 (0, 0)) := by
    rw [hY, Go.heap_setCell_same _ _ _ _ _ _ hd6]
    rfl
  refine ⟨p', c', w6, hr, by rw [cell_at hd6]; rfl, froz_at hd6, hout, ?_⟩
  rw [← hY]
  have hnb : ∀ b, (Value.slice p' (C.length + 1) c').ownBlock = some b → b ≠ d := fun b hb e => by
    have t1 := row_ty ho hb
    rw [e, ty_of hd6] at t1
    cases t1
  have hva : ∀ b, va.ownBlock = some b → b ≠ d ∧ w6.heap[b]? = V.heap[b]? := fun b hb => by
    have hbl := (row_block h3 hb).2.1
    have t1 := row_ty h3 hb
    refine ⟨fun e => ?_, (hoth b (Nat.lt_of_lt_of_le hbl hZ1.size) (fun e => ?_)).trans (hZ1.block b hbl)⟩
    · rw [e, ty_of h1] at t1
      cases t1
    · have t2 := row_ty h2 e
      rw [t1] at t2
      cases t2
  refine ⟨fun b => S b ∨ (Value.slice p' (C.length + 1) c').ownBlock = some b, ⟨⟨_, va, hYd, ?_, ?_, .inl h4, fun b hb => .inr hb, fun b hb => .inl (h6 b hb)⟩, fun b hb => ?_⟩, ⟨?_, ?_, ?_, ?_, fun b hb hs => ?_⟩, fun b hb => ?_⟩
  · rw [List.length_append, List.length_singleton]
    exact row_keep ho (fun b hb => hYne b (hnb b hb))
  · exact row_keep h3 (fun b hb => (hYne b (hva b hb).1).trans (hva b hb).2)
  · rw [hYs]
    rcases hb with hb | hb
    · exact Nat.lt_of_lt_of_le (Nat.lt_of_lt_of_le (Nat.lt_of_lt_of_le (hlt b hb) hWV.size) hZ1.size) hb6.size
    · exact (row_block ho hb).2.1
  · rw [hY]; exact hb6.os.trans (hZ1.os.trans hWV.os)
  · rw [hY]; exact hb6.tape.trans (hZ1.tape.trans hWV.tape)
  · rw [hY]; exact hb6.output.trans (hZ1.output.trans hWV.output)
  · rw [hYs]; exact Nat.le_trans hWV.size (Nat.le_trans hZ1.size hb6.size)
  · rw [hYne b (fun e => hs (by rw [e]; exact h4)), hout b (Nat.lt_of_lt_of_le hb hWV.size) hs]
    exact hWV.block b hb
  · rcases hb with hb | hb
    · exact .inl hb
    · rcases hat with h | h
      · rw [h] at hb
        exact .inl (h5 b hb)
      · rw [h] at hb
        right
        have : b = Z.heap.size := (Option.some.inj hb).symm
        rw [this]
        exact Nat.le_trans hWV.size hZ1.size
attribute [local go_sem ↓] ld37_is
set_option maxRecDepth 100000 in
set_option maxHeartbeats 16000000 in
theorem rinvoice_any {W : World} {d : Nat} {S : Nat → Prop} {C : List Cl} {A : List Al} {g : Int} (hR : Rv W d S C A g) (hG : Good C A g) {c : Cl} (hm : c.amt ≤ 9223372036854775807) :
    Calls Tryz.prog 18 #[.pointer (some ⟨d, 0, none⟩), .agg #[.string c.key, .string c.acc, .int .i64 c.day, .int .i64 c.due, .int .i64 c.amt]] W fun e w' => e = .returned (.int .i64 (invS C c)) ∧ RInvOut W w' d S C A g c := by
  obtain ⟨vc, va, h1, h2, h3, h4, h5, h6⟩ := hR.ex
  obtain ⟨pc, cc, evc, _⟩ := row_slice h2
  obtain ⟨X, hX⟩ : ∃ X, X = W.alloc (.cells #[.string c.key, .string c.acc, .int .i64 c.day, .int .i64 c.due, .int .i64 c.amt] 56) := ⟨_, rfl⟩
  obtain ⟨bx, hbx⟩ : ∃ bx, bx = W.heap.size := ⟨_, rfl⟩
  have hbX : Below W.heap.size W X := by rw [hX]; exact (Below.refl _ _).alloc (Nat.le_refl _) _
  have hXb : X.heap[bx]? = some (.cells #[.string c.key, .string c.acc, .int .i64 c.day, .int .i64 c.due, .int .i64 c.amt] 56 (0, 0)) := by rw [hX, hbx]; exact heap_new _ _
  have hdl := heap_lt h1
  have h1X := (hbX.block d hdl).trans h1
  have x0 : X.cell? ⟨bx, 0, none⟩ = some (.string c.key) := by rw [cell_at hXb]; rfl
  have x2 : X.cell? ⟨bx, 2, none⟩ = some (.int .i64 c.day) := by rw [cell_at hXb]; rfl
  have x3 : X.cell? ⟨bx, 3, none⟩ = some (.int .i64 c.due) := by rw [cell_at hXb]; rfl
  have x4 : X.cell? ⟨bx, 4, none⟩ = some (.int .i64 c.amt) := by rw [cell_at hXb]; rfl
  obtain ⟨n, hn⟩ : ∃ n, n = C.length := ⟨_, rfl⟩
  have hnb : n ≤ 1000 := by rw [hn]; exact hG.l1
  have y0 : X.cell? ⟨d, 0, none⟩ = some (.slice pc n cc) := by rw [cell_at h1X, evc, hn]; rfl
  have hLX : Lies kC X pc C := by
    have h := h2
    rw [evc] at h
    exact (own_lies kC_ok rfl h).below hbX
  have d1 := hide (fun w => rIsDay_any c.day w)
  have d2 := hide (fun w => rIsDay_any c.due w)
  have HXX := hide hX; have HBX := hide hbx; have HBB := hide hbX; have HXB := hide hXb; have HL := hide hLX; have HN := hide hn; have HG := hide hG
  have HR : Hid (∃ vc va, vc = .slice pc n cc ∧ X.heap[d]? = some (.cells #[vc, va, .int .i64 (1 + g)] 72 (0, 0)) ∧ X.ownsRow 0 56 5 vc C.length (kC.flat C) ∧ X.ownsRow 0 58 4 va A.length (kA.flat A) ∧ S d ∧ (∀ b, vc.ownBlock = some b → S b) ∧ (∀ b, va.ownBlock = some b → S b) ∧ ∀ b, S b → b < W.heap.size) :=
    ⟨vc, va, by rw [evc, hn], h1X, row_keep h2 (fun b hb => hbX.block b (row_block h2 hb).2.1), row_keep h3 (fun b hb => hbX.block b (row_block h3 hb).2.1), h4, h5, h6, hR.lt⟩
  have HERR : ∀ k : Int, k ≠ 0 → invS C c = k → Hid (∀ w', Below X.heap.size X w' → RInvOut W w' d S C A g c) := fun k hk hv w' hb => ⟨fun _ => hbX.trans (hb.mono hbX.size), fun h => absurd (hv.symm.trans h) hk⟩
  clear hR h1 h2 h3 h4 h5 h6 evc hX hbx hbX hXb hdl h1X hLX hn hG
  by_cases hx : dayB c.day = true ∧ dayB c.due = true ∧ ¬ c.due < c.day ∧ ¬ c.amt < 1
  case neg =>
    have hv : invS C c = 1 := by unfold invS; rw [if_pos hx]
    have HE := HERR 1 (by decide) hv
    rw [hv]
    clear HERR hv
    cases e1 : dayB c.day with
    | false =>
      rw [e1] at d1
      clear e1 hx
      go_enter Tryz.func18, Tryz.ntmps18
      go_upto_region 1 with fail
      rw [← unhide HXX, ← unhide HBX]
      go_wp2_with fail
      refine (unhide d1 _).mono ?_
      rintro e w1 ⟨rfl, hw⟩
      rw [hw]
      clear hw w1
      go_wp2_with fail
      go_ret
      exact ⟨rfl, unhide HE _ (Below.refl _ _)⟩
    | true =>
      rw [e1] at d1
      cases e2 : dayB c.due with
      | false =>
        rw [e2] at d2
        clear e1 e2 hx
        go_enter Tryz.func18, Tryz.ntmps18
        go_upto_region 1 with fail
        rw [← unhide HXX, ← unhide HBX]
        go_wp2_with fail
        refine (unhide d1 _).mono ?_
        rintro e w1 ⟨rfl, hw⟩
        rw [hw]
        clear hw w1
        go_wp2_with fail
        refine (unhide d2 _).mono ?_
        rintro e w1 ⟨rfl, hw⟩
        rw [hw]
        clear hw w1
        go_wp2_with fail
        go_ret
        exact ⟨rfl, unhide HE _ (Below.refl _ _)⟩
      | true =>
        rw [e2] at d2
        by_cases e3 : c.due < c.day
        · clear e1 e2 hx
          go_enter Tryz.func18, Tryz.ntmps18
          go_upto_region 1 with fail
          rw [← unhide HXX, ← unhide HBX]
          go_wp2_with fail
          refine (unhide d1 _).mono ?_
          rintro e w1 ⟨rfl, hw⟩
          rw [hw]
          clear hw w1
          go_wp2_with fail
          refine (unhide d2 _).mono ?_
          rintro e w1 ⟨rfl, hw⟩
          rw [hw]
          clear hw w1
          go_wp2_with fail
          go_ret
          exact ⟨rfl, unhide HE _ (Below.refl _ _)⟩
        · have e4 : c.amt < 1 := by
            rcases Decidable.em (c.amt < 1) with h | h
            · exact h
            · exact absurd ⟨e1, e2, e3, h⟩ hx
          clear e1 e2 hx
          go_enter Tryz.func18, Tryz.ntmps18
          go_upto_region 1 with fail
          rw [← unhide HXX, ← unhide HBX]
          go_wp2_with fail
          refine (unhide d1 _).mono ?_
          rintro e w1 ⟨rfl, hw⟩
          rw [hw]
          clear hw w1
          go_wp2_with fail
          refine (unhide d2 _).mono ?_
          rintro e w1 ⟨rfl, hw⟩
          rw [hw]
          clear hw w1
          go_wp2_with fail
          go_ret
          exact ⟨rfl, unhide HE _ (Below.refl _ _)⟩
  case pos =>
    obtain ⟨e1, e2, e3, e4⟩ := hx
    rw [e1] at d1
    rw [e2] at d2
    have hi1 : invS C c = if C.length = 1000 then 2 else if has C c.key.data.toList = true then 70 else if sumC C + c.amt > 9223372036854775807 then 11 else 0 := by
      unfold invS
      rw [if_neg (fun h => h ⟨e1, e2, e3, e4⟩)]
    by_cases hl : n = 1000
    · have hv : invS C c = 2 := by rw [hi1, if_pos (by rw [← unhide HN]; exact hl)]
      have HE := HERR 2 (by decide) hv
      rw [hv]
      clear HERR hv hi1 e1 e2
      go_enter Tryz.func18, Tryz.ntmps18
      go_upto_region 1 with fail
      rw [← unhide HXX, ← unhide HBX]
      go_wp2_with fail
      refine (unhide d1 _).mono ?_
      rintro e w1 ⟨rfl, hw⟩
      rw [hw]
      clear hw w1
      go_wp2_with fail
      refine (unhide d2 _).mono ?_
      rintro e w1 ⟨rfl, hw⟩
      rw [hw]
      clear hw w1
      go_wp2_with fail
      go_ret
      exact ⟨rfl, unhide HE _ (Below.refl _ _)⟩
    · have hl2 : ¬ (1000 ≤ n) := by omega
      have hl3 : ¬ ((n : Int) ≥ 1000) := by omega
      rw [if_neg (by rw [← unhide HN]; exact hl)] at hi1
      have dF := hide (rfind_any (W := X.drew) (c := cc) (unhide HN).symm (by omega) ((unhide HL).below (Below.drew (Below.refl _ _))) c.key)
      have HI1 := hide hi1
      have HERR' := hide HERR
      clear e1 e2 hi1 HERR
      go_enter Tryz.func18, Tryz.ntmps18
      go_upto_region 1 with fail
      rw [← unhide HXX, ← unhide HBX]
      go_wp2_with fail
      refine (unhide d1 _).mono ?_
      rintro e w1 ⟨rfl, hw⟩
      rw [hw]
      clear hw w1
      go_wp2_with fail
      refine (unhide d2 _).mono ?_
      rintro e w1 ⟨rfl, hw⟩
      rw [hw]
      clear hw w1
      go_upto_region 5 with fail
      refine wp_region_last (n := 8) (S := fun W' => W'.cell? ⟨d, 0, none⟩ = some (.slice pc n cc) ∧ W'.cell? ⟨bx, 0, none⟩ = some (.string c.key)) (by kernel_rfl) (by exact ⟨y0, x0⟩) (fun hHeld => ?_)
      refine tkW 0 ?_; refine tkW 1 ?_; refine tkW 2 ?_; refine tkN 3 ?_; refine tkW 4 ?_; refine tkN 5 ?_
      refine wpAnyL_one (i := 6) (by kernel_rfl) rfl (fun KK hK => ?_)
      go_simp
      go_wp2_with (first | (go_at_call 105; refine (unhide dF).mono ?_; rintro e w2 ⟨r, rfl, hfi, hw⟩; rw [hw]; clear hw w2))
      refine hK.out _ _ (by exact ⟨y0, x0⟩) (fun hHeld => ?_)
      clear hK KK dF d1 d2
      have HFI := hide hfi
      clear hfi
      by_cases hr : 0 ≤ r
      · have g1 : decide (0 ≤ r) = true := decide_eq_true hr
        have g2 : decide (r ≥ 0) = true := decide_eq_true hr
        have hv : invS C c = 70 := by
          rw [unhide HI1, if_pos]
          rw [has_iff]
          rcases unhide HFI with ⟨h, _⟩ | ⟨i, hi, _, h2, _⟩
          · omega
          · exact ⟨C[i], List.getElem_mem hi, by rw [h2]⟩
        have HE := unhide HERR' 70 (by decide) hv
        have HV0 := hide hv
        refine tkW 7 ?_
        refine wpAnyL_done (by kernel_rfl) ?_
        clear hHeld hv
        go_wp2_with fail
        go_ret
        exact ⟨by rw [unhide HV0]; rfl, unhide HE _ (Below.drew (Below.refl _ _))⟩
      · have g1 : decide (0 ≤ r) = false := decide_eq_false hr
        have g2 : decide (r ≥ 0) = false := decide_eq_false hr
        have hno : has C c.key.data.toList ≠ true := fun h => by
          obtain ⟨x, hx, ex⟩ := has_iff.1 h
          rcases unhide HFI with ⟨_, h2⟩ | ⟨i, hi, h2, _⟩
          · exact h2 x hx (str_inj ex)
          · omega
        have hi2 := unhide HI1
        rw [if_neg hno] at hi2
        have HI2 := hide hi2
        have hpos : ∀ x ∈ C, 0 ≤ x.amt := fun x hx => by have := ((unhide HG).ok x hx).a1; omega
        have HSP := hide (fun i => sumC_part hpos i)
        have htot := (unhide HG).tot
        refine tkW 7 ?_
        refine wpAnyL_done (by kernel_rfl) ?_
        clear hHeld hno hi2 hpos HI1 HFI
        go_wp2_with fail
        go_loopw [5, 6] (fun v5 v6 wr => ∃ (i : Nat) (l : Int), v6 = .int .i64 i ∧ v5 = .int .i64 l ∧ i ≤ n ∧ (0 ≤ l ∧ l ≤ 9223372036854775807) ∧ Hid (l = 9223372036854775807 - sumC (C.take i)) ∧ wr = X.drew) (fun _ v6 _ => n - (intOf v6).toNat)
        case atStart => exact ⟨0, 9223372036854775807, rfl, rfl, by omega, by omega, (by show (9223372036854775807 : Int) = 9223372036854775807 - 0; omega), rfl⟩
        case round =>
          obtain ⟨i, l, rfl, rfl, hi, hlb, hrel, hw⟩ := hrel
          rw [hw]
          clear hw
          by_cases hlt : i < n
          · have hiC : i < C.length := by rw [← unhide HN]; exact hlt
            obtain ⟨b, off, e, hbl, hrr⟩ := (unhide HL).2 i hiC
            obtain ⟨x, hx⟩ : ∃ x, x = C[i] := ⟨_, rfl⟩
            have hst := sumC_take hiC
            rw [← hx] at hrr hst
            have k4 : X.drew.cell? ⟨b, off + i * 5 + 4, none⟩ = some (.int .i64 x.amt) := hrr 4 _ rfl
            have z0 : X.drew.cell? ⟨d, 0, none⟩ = some (.slice pc n cc) := y0
            have hsp := unhide HSP (i + 1)
            have hle := unhide hrel
            have hl2' : l - x.amt = 9223372036854775807 - sumC (C.take (i + 1)) := by omega
            have hlb2 : 0 ≤ l - x.amt ∧ l - x.amt ≤ 9223372036854775807 := by omega
            have hw : IntKind.i64.wrap (l - x.amt) = l - x.amt := by rw [IntKind.wrap_i64]; omega
            have HL2 := hide hl2'
            subst e
            clear hrr hbl hiC hx hst hsp hle hl2' hrel
            go_wp2_with fail
            go_round
            case rel => exact ⟨i + 1, l - x.amt, by push_cast; rfl, rfl, by omega, hlb2, HL2, (by first | exact rfl | trivial)⟩
            case measure => simp only [intOf]; omega
          · have hle := unhide hrel
            have hin : i = n := by omega
            rw [hin, unhide HN, List.take_length] at hle
            have z0 : X.drew.cell? ⟨d, 0, none⟩ = some (.slice pc n cc) := y0
            have z4 : X.drew.cell? ⟨bx, 4, none⟩ = some (.int .i64 c.amt) := x4
            by_cases hov : c.amt > l
            · have hv : invS C c = 11 := by rw [unhide HI2, if_pos (by omega)]
              have HE := unhide HERR' 11 (by decide) hv
              have HV0 := hide hv
              clear hv hle hrel
              go_wp2_with fail
              go_ret
              exact ⟨by rw [unhide HV0]; rfl, unhide HE _ (Below.drew (Below.refl _ _))⟩
            · have hv : invS C c = 0 := by rw [unhide HI2, if_neg (by omega)]
              obtain ⟨vc, va, evc, q1, q2, q3, q4, q5, q6, q7⟩ := unhide HR
              obtain ⟨V, hV⟩ : ∃ V, V = X.drew.drew := ⟨_, rfl⟩
              have hXV : Below X.heap.size X V := by rw [hV]; exact ((Below.refl _ _).drew).drew
              have hWV := (unhide HBB).trans (hXV.mono (unhide HBB).size)
              have bk : ∀ b : Nat, V.heap[b]? = X.heap[b]? := fun b => by rw [hV]; rfl
              obtain ⟨p', c', w6, r6, m6, f6, hout, hnx⟩ := rv_more (c := c) (bx := bx) hWV q7 ((bk d).trans q1) (row_keep q2 (fun b _ => bk b)) (row_keep q3 (fun b _ => bk b)) q4 q5 q6 (unhide HG).l1 59
              rw [← unhide HN] at r6 hnx
              have hbS : ¬ S bx := fun h => by have := q7 bx h; rw [unhide HBX] at this; omega
              have hbl : bx < V.heap.size := Nat.lt_of_lt_of_le (heap_lt (unhide HXB)) hXV.size
              have hVb := (bk bx).trans (unhide HXB)
              have hw6b := (hout bx hbl hbS).trans hVb
              have ld4 := run_ld37 (w := V) (b := bx) (o := 0) (c := c) (fun i v hv => by rw [Nat.zero_add, cell_at hVb]; simpa [Cl.vals] using hv)
              have l6 : V.cell? ⟨d, 0, none⟩ = some (.slice pc n cc) := by rw [hV]; exact y0
              obtain ⟨Z, hZ⟩ : ∃ Z, Z = V.alloc (.cells #[.string c.key, .string c.acc, .int .i64 c.day, .int .i64 c.due, .int .i64 c.amt] 56) := ⟨_, rfl⟩
              have hZ1 : Below V.heap.size V Z := by rw [hZ]; exact (Below.refl _ _).alloc (Nat.le_refl _) _
              have hdV : d < V.heap.size := heap_lt ((bk d).trans q1)
              have l6a : Z.cell? ⟨d, 0, none⟩ = some (.slice pc n cc) := (hZ1.cell (p := ⟨d, 0, none⟩) hdV).trans l6
              have hZb := (hZ1.block bx hbl).trans hVb
              have ld5 := run_ld37 (w := Z) (b := bx) (o := 0) (c := c) (fun i v hv => by rw [Nat.zero_add, cell_at hZb]; simpa [Cl.vals] using hv)
              have ld6 := run_ld37 (w := w6) (b := bx) (o := 0) (c := c) (fun i v hv => by rw [Nat.zero_add, cell_at hw6b]; simpa [Cl.vals] using hv)
              subst evc
              rw [hZ] at l6a ld5
              have HNX := hide hnx; have HV := hide hV; have HV0 := hide hv
              clear hle hrel hv q1 q2 q3 q4 q5 q6 q7 hXV hWV bk hout hnx hbS hbl hVb hw6b hZ hZ1 hdV hZb hV
              go_upto_region 14 with fail
              refine wp_region_last (n := 10) (S := fun W' => W'.cell? ⟨d, 0, none⟩ = some (.slice pc n cc) ∧ (ld37 (.pointer (some ⟨bx, 0, none⟩))).run Tryz.prog W' = .ok (.agg #[.string c.key, .string c.acc, .int .i64 c.day, .int .i64 c.due, .int .i64 c.amt]) W') (by kernel_rfl) (by rw [← unhide HV]; exact ⟨l6, ld4⟩) (fun hHeld => ?_)
              rw [← unhide HV] at hHeld ⊢
              refine tkW 0 ?_; refine tkW 1 ?_; refine tkW 2 ?_; refine tkW 3 ?_; refine tkS 4 ?_; refine tkS 5 ?_
              refine wpAnyL_one (i := 6) (by kernel_rfl) rfl (fun KK hK => ?_)
              go_simp
              refine hK.out _ _ (by exact ⟨l6a, ld5⟩) (fun hHeld => ?_)
              clear hK KK
              refine wpAnyL_one (i := 7) (by kernel_rfl) rfl (fun KK hK => ?_)
              refine step_append_run _ (by rfl) _ _ _ (by rfl) _ _ _ _ (by rfl) (by rfl) r6 ?_
              refine hK.out _ _ (by exact ⟨m6, ld6⟩) (fun hHeld => ?_)
              clear hK KK
              refine tkW 8 ?_; refine tkW 9 ?_
              clear hHeld
              refine wpAnyL_past (i := 10) (by kernel_rfl) rfl (by kernel_rfl) (fun KK hK => ?_)
              go_simp
              refine hK.out _ _ ?_
              clear hK KK
              refine wpAnyL_done (by kernel_rfl) ?_
              go_wp2_with fail
              go_ret
              exact ⟨by rw [unhide HV0]; rfl, fun h => absurd (unhide HV0) h, fun _ => unhide HNX⟩
end Go.Proofs.YtfclknlpdcanpaaGreatDoor
