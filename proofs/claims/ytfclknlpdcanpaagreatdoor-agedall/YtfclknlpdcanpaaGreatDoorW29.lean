import Derived.Test.YtfclknlpdcanpaaGreatDoorW28
import Derived.Test.YtfclknlpdcanpaaGreatDoorW26
/- The document's Allot (16). -/
namespace Go.Proofs.YtfclknlpdcanpaaGreatDoor
open Go Go.Shelf Go.ChangeShapes Go.WideShapes Go.ChangeAt Go.RowKit Go.Maps
set_option linter.unusedVariables false
def RAllOut (W w' : World) (d : Nat) (S : Nat → Prop) (C : List Cl) (A : List Al) (g : Int) (x : Al) : Prop := (allS C A x ≠ 0 → Below W.heap.size W w') ∧ (allS C A x = 0 → RvNext W w' d S C (A ++ [x]) g)
theorem sumTo_all {P : Pts} {t : Int} (h : ∀ p ∈ P, p.1 ≤ t) : sumTo P t = sumAll P := by
  induction P with
  | nil => rfl
  | cons p P ih =>
    rw [sumTo_cons, if_pos (h p List.mem_cons_self), ih (fun q hq => h q (List.mem_cons_of_mem _ hq))]
    rfl
theorem pts_mem {A : List Al} {s : List UInt8} {p : Int × Int} (h : p ∈ ptsOf A s) : ∃ a ∈ A, a.inv.data.toList = s ∧ p = (a.day, a.amt) := by
  unfold ptsOf at h
  obtain ⟨a, ha, rfl⟩ := List.mem_map.1 h
  have := List.mem_filter.1 ha
  exact ⟨a, this.1, by simpa using this.2, rfl⟩
theorem Good.max {C : List Cl} {A : List Al} {g : Int} (h : Good C A g) (s : List UInt8) : sumTo (ptsOf A s) 3652059 = sumAll (ptsOf A s) := sumTo_all fun p hp => by
  obtain ⟨a, ha, _, e⟩ := pts_mem hp
  rw [e]
  exact (h.al a ha).2.1
theorem Good.till {C : List Cl} {A : List Al} {g : Int} (h : Good C A g) {c : Cl} (hc : c ∈ C) (t : Int) (k : Nat) : 0 ≤ sumTo (ptsOf (A.take k) c.key.data.toList) t ∧ sumTo (ptsOf (A.take k) c.key.data.toList) t ≤ c.amt := by
  have hp : ∀ p ∈ ptsOf (A.take k) c.key.data.toList, 1 ≤ p.2 := fun p hp => by
    obtain ⟨a, ha, _, e⟩ := pts_mem hp
    rw [e]
    exact (h.al a (List.mem_of_mem_take ha)).1
  have h1 := sumTo_bounds hp t
  have e : ptsOf A c.key.data.toList = ptsOf (A.take k) c.key.data.toList ++ ptsOf (A.drop k) c.key.data.toList := by rw [← ptsOf_append, List.take_append_drop]
  have h2 : 0 ≤ sumAll (ptsOf (A.drop k) c.key.data.toList) := sumAll_nonneg fun p hp => by
    obtain ⟨a, ha, _, e⟩ := pts_mem hp
    rw [e]
    exact (h.al a (List.mem_of_mem_drop ha)).1
  have h3 := h.sum c hc
  rw [e, sumAll_append] at h3
  omega
theorem find_is {C : List Cl} {s : ByteArray} {r : Int} (h : FindIs C s r) : (r = -1 ∧ findC C s.data.toList = none) ∨ ∃ i, ∃ hi : i < C.length, r = i ∧ C[i].key = s ∧ findC C s.data.toList = some C[i] := by
  rcases h with ⟨h1, h2⟩ | ⟨i, hi, h1, h2, h3⟩
  · exact .inl ⟨h1, List.find?_eq_none.2 fun c hc e => h2 c hc (str_inj (by simpa using e))⟩
  · refine .inr ⟨i, hi, h1, h2, ?_⟩
    unfold findC
    rw [List.find?_eq_some_iff_getElem]
    refine ⟨by simp [h2], i, hi, rfl, fun j hj => ?_⟩
    have := h3 j hj
    simp
    intro e
    apply this
    exact str_inj (by rw [e])
/-- one allotment more: the append, and the store of the list -/
theorem rv_moreA {W V : World} {d bx : Nat} {S : Nat → Prop} {C : List Cl} {A : List Al} {g : Int} {x : Al} {vc va : Value} (hWV : Below W.heap.size W V) (hlt : ∀ b, S b → b < W.heap.size) (h1 : V.heap[d]? = some (.cells #[vc, va, .int .i64 (1 + g)] 72 (0, 0))) (h2 : V.ownsRow 0 56 5 vc C.length (kC.flat C)) (h3 : V.ownsRow 0 58 4 va A.length (kA.flat A)) (h4 : S d) (h5 : ∀ b, vc.ownBlock = some b → S b) (h6 : ∀ b, va.ownBlock = some b → S b) (hl : A.length ≤ 1000) (ty : TypeId) :
    ∃ p' c' w6, (Builtin.append_ #[60, 60] ty #[va, .slice (some ⟨V.heap.size, 0, none⟩) 1 1]).run Tryz.prog (V.alloc (.cells #[.string x.pay, .string x.inv, .int .i64 x.day, .int .i64 x.amt] 58)) = .ok (.slice p' (A.length + 1) c') w6 ∧ w6.cell? ⟨d, 1, none⟩ = some va ∧ w6.frozen? ⟨d, 1, none⟩ = false ∧ (∀ b, b < V.heap.size → ¬ S b → w6.heap[b]? = V.heap[b]?) ∧ RvNext W (w6.setCell ⟨d, 1, none⟩ (.slice p' (A.length + 1) c')) d S C (A ++ [x]) g := by
  obtain ⟨Z, hZ⟩ : ∃ Z, Z = V.alloc (.cells #[.string x.pay, .string x.inv, .int .i64 x.day, .int .i64 x.amt] 58) := ⟨_, rfl⟩
  have hZ1 : Below V.heap.size V Z := by rw [hZ]; exact (Below.refl _ _).alloc (Nat.le_refl _) _
  have hu : Lies kA Z (some ⟨V.heap.size, 0, none⟩) [x] := by rw [hZ]; exact one_lies V x 58 _ rfl
  have hdl := heap_lt h1
  have hown : Z.ownsRow 0 58 4 va A.length (kA.flat A) := row_keep h3 (fun b hb => hZ1.block b (row_block h3 hb).2.1)
  obtain ⟨p', c', w6, hr, ho, hb6, hoth, hat⟩ := run_app kA_ok ty (W := Z) (B := 0) (M := [x]) hown (Nat.zero_le _) (some ⟨V.heap.size, 0, none⟩) 1 (fun h => by cases h) hu (by simp; omega)
  simp only [List.length_singleton] at hr ho hat
  rw [← hZ]
  have hdne : va.ownBlock ≠ some d := fun e => by
    have t1 := row_ty h3 e
    rw [ty_of h1] at t1
    cases t1
  have hd6 : w6.heap[d]? = some (.cells #[vc, va, .int .i64 (1 + g)] 72 (0, 0)) := (hoth d (Nat.lt_of_lt_of_le hdl hZ1.size) hdne).trans ((hZ1.block d hdl).trans h1)
  have hout : ∀ b, b < V.heap.size → ¬ S b → w6.heap[b]? = V.heap[b]? := fun b hb hs => (hoth b (Nat.lt_of_lt_of_le hb hZ1.size) (fun e => hs (h6 b e))).trans (hZ1.block b hb)
  obtain ⟨Y, hY⟩ : ∃ Y, Y = w6.setCell ⟨d, 1, none⟩ (.slice p' (A.length + 1) c') := ⟨_, rfl⟩
  have hYne : ∀ b, b ≠ d → Y.heap[b]? = w6.heap[b]? := fun b hb => by rw [hY]; exact Below.heap_setCell _ _ _ _ hb
  have hYs : Y.heap.size = w6.heap.size := by rw [hY]; simp
  have hYd : Y.heap[d]? = some (.cells #[vc, .slice p' (A.length + 1) c', .int .i64 (1 + g)] 72 (0, 0)) := by
    rw [hY, Go.heap_setCell_same _ _ _ _ _ _ hd6]
    rfl
  refine ⟨p', c', w6, hr, by rw [cell_at hd6]; rfl, froz_at hd6, hout, ?_⟩
  rw [← hY]
  have hnb : ∀ b, (Value.slice p' (A.length + 1) c').ownBlock = some b → b ≠ d := fun b hb e => by
    have t1 := row_ty ho hb
    rw [e, ty_of hd6] at t1
    cases t1
  have hva : ∀ b, vc.ownBlock = some b → b ≠ d ∧ w6.heap[b]? = V.heap[b]? := fun b hb => by
    have hbl := (row_block h2 hb).2.1
    have t1 := row_ty h2 hb
    refine ⟨fun e => ?_, (hoth b (Nat.lt_of_lt_of_le hbl hZ1.size) (fun e => ?_)).trans (hZ1.block b hbl)⟩
    · rw [e, ty_of h1] at t1
      cases t1
    · have t2 := row_ty h3 e
      rw [t1] at t2
      cases t2
  refine ⟨fun b => S b ∨ (Value.slice p' (A.length + 1) c').ownBlock = some b, ⟨⟨vc, _, hYd, ?_, ?_, .inl h4, fun b hb => .inl (h5 b hb), fun b hb => .inr hb⟩, fun b hb => ?_⟩, ⟨?_, ?_, ?_, ?_, fun b hb hs => ?_⟩, fun b hb => ?_⟩
  · exact row_keep h2 (fun b hb => (hYne b (hva b hb).1).trans (hva b hb).2)
  · rw [List.length_append, List.length_singleton]
    exact row_keep ho (fun b hb => hYne b (hnb b hb))
  · rw [hYs]
    rcases hb with hb | hb
    · exact Nat.lt_of_lt_of_le (Nat.lt_of_lt_of_le (Nat.lt_of_lt_of_le (hlt b hb) hWV.size) hZ1.size) hb6.size
    · exact (row_block ho hb).2.1
  · rw [hY]; exact hb6.os.trans (hZ1.os.trans hWV.os)
  · rw [hY]; exact hb6.tape.trans (hZ1.tape.trans hWV.tape)
  · rw [hY]; exact hb6.output.trans (hZ1.output.trans hWV.output)
  · rw [hYs]; exact Nat.le_trans hWV.size (Nat.le_trans hZ1.size hb6.size)
  · rw [hYne b (fun e => hs (by rw [e]; exact h4)), hout b (Nat.lt_of_lt_of_le hb hWV.size) hs]
    exact hWV.block b hb
  · rcases hb with hb | hb
    · exact .inl hb
    · rcases hat with h | h
      · rw [h] at hb
        exact .inl (h6 b hb)
      · rw [h] at hb
        right
        have : b = Z.heap.size := (Option.some.inj hb).symm
        rw [this]
        exact Nat.le_trans hWV.size hZ1.size
attribute [local go_sem ↓] ld37_is ld51_is
set_option maxRecDepth 100000 in
set_option maxHeartbeats 16000000 in
theorem rallot_any {W : World} {d : Nat} {S : Nat → Prop} {C : List Cl} {A : List Al} {g : Int} (hR : Rv W d S C A g) (hG : Good C A g) {x : Al} :
    Calls Tryz.prog 20 #[.pointer (some ⟨d, 0, none⟩), .agg #[.string x.pay, .string x.inv, .int .i64 x.day, .int .i64 x.amt]] W fun e w' => e = .returned (.int .i64 (allS C A x)) ∧ RAllOut W w' d S C A g x := by
  obtain ⟨vc, va, h1, h2, h3, h4, h5, h6⟩ := hR.ex
  obtain ⟨pc, cc, evc, _⟩ := row_slice h2
  obtain ⟨pa, ca, eva, _⟩ := row_slice h3
  obtain ⟨X, hX⟩ : ∃ X, X = W.alloc (.cells #[.string x.pay, .string x.inv, .int .i64 x.day, .int .i64 x.amt] 58) := ⟨_, rfl⟩
  obtain ⟨bx, hbx⟩ : ∃ bx, bx = W.heap.size := ⟨_, rfl⟩
  have hbX : Below W.heap.size W X := by rw [hX]; exact (Below.refl _ _).alloc (Nat.le_refl _) _
  have hXb : X.heap[bx]? = some (.cells #[.string x.pay, .string x.inv, .int .i64 x.day, .int .i64 x.amt] 58 (0, 0)) := by rw [hX, hbx]; exact heap_new _ _
  have hdl := heap_lt h1
  have h1X := (hbX.block d hdl).trans h1
  have x1 : X.cell? ⟨bx, 1, none⟩ = some (.string x.inv) := by rw [cell_at hXb]; rfl
  have x2 : X.cell? ⟨bx, 2, none⟩ = some (.int .i64 x.day) := by rw [cell_at hXb]; rfl
  have x3 : X.cell? ⟨bx, 3, none⟩ = some (.int .i64 x.amt) := by rw [cell_at hXb]; rfl
  obtain ⟨n, hn⟩ : ∃ n, n = C.length := ⟨_, rfl⟩
  obtain ⟨m, hm⟩ : ∃ m, m = A.length := ⟨_, rfl⟩
  have hnb : n ≤ 1000 := by rw [hn]; exact hG.l1
  have hmb : m ≤ 1000 := by rw [hm]; exact hG.l2
  have y0 : X.cell? ⟨d, 0, none⟩ = some (.slice pc n cc) := by rw [cell_at h1X, evc, hn]; rfl
  have y1 : X.cell? ⟨d, 1, none⟩ = some (.slice pa m ca) := by rw [cell_at h1X, eva, hm]; rfl
  have hLX : Lies kC X pc C := by
    have h := h2
    rw [evc] at h
    exact (own_lies kC_ok rfl h).below hbX
  have hAX : Lies kA X pa A := by
    have h := h3
    rw [eva] at h
    exact (own_lies kA_ok rfl h).below hbX
  have d1 := hide (fun w => rIsDay_any x.day w)
  have HXX := hide hX; have HBX := hide hbx; have HBB := hide hbX; have HXB := hide hXb; have HL := hide hLX; have HAL := hide hAX; have HN := hide hn; have HMM := hide hm; have HG := hide hG
  have HR : Hid (∃ vc va, va = .slice pa m ca ∧ X.heap[d]? = some (.cells #[vc, va, .int .i64 (1 + g)] 72 (0, 0)) ∧ X.ownsRow 0 56 5 vc C.length (kC.flat C) ∧ X.ownsRow 0 58 4 va A.length (kA.flat A) ∧ S d ∧ (∀ b, vc.ownBlock = some b → S b) ∧ (∀ b, va.ownBlock = some b → S b) ∧ ∀ b, S b → b < W.heap.size) :=
    ⟨vc, va, by rw [eva, hm], h1X, row_keep h2 (fun b hb => hbX.block b (row_block h2 hb).2.1), row_keep h3 (fun b hb => hbX.block b (row_block h3 hb).2.1), h4, h5, h6, hR.lt⟩
  have HERR : ∀ k : Int, k ≠ 0 → allS C A x = k → Hid (∀ w', Below X.heap.size X w' → RAllOut W w' d S C A g x) := fun k hk hv w' hb => ⟨fun _ => hbX.trans (hb.mono hbX.size), fun h => absurd (hv.symm.trans h) hk⟩
  clear hR h1 h2 h3 h4 h5 h6 evc eva hX hbx hbX hXb hdl h1X hLX hAX hn hm hG
  by_cases hx : dayB x.day = true ∧ ¬ x.amt < 1
  case neg =>
    have hv : allS C A x = 1 := by unfold allS; rw [if_pos hx]
    have HE := HERR 1 (by decide) hv
    rw [hv]
    clear HERR hv
    cases e1 : dayB x.day with
    | false =>
      rw [e1] at d1
      clear e1 hx
      go_enter Tryz.func20, Tryz.ntmps20
      go_upto_region 1 with fail
      rw [← unhide HXX, ← unhide HBX]
      go_wp2_with fail
      refine (unhide d1 _).mono ?_
      rintro e w1 ⟨rfl, hw⟩
      rw [hw]
      clear hw w1
      go_wp2_with fail
      go_ret
      exact ⟨rfl, unhide HE _ (Below.refl _ _)⟩
    | true =>
      rw [e1] at d1
      have e4 : x.amt < 1 := by
        rcases Decidable.em (x.amt < 1) with h | h
        · exact h
        · exact absurd ⟨e1, h⟩ hx
      clear e1 hx
      go_enter Tryz.func20, Tryz.ntmps20
      go_upto_region 1 with fail
      rw [← unhide HXX, ← unhide HBX]
      go_wp2_with fail
      refine (unhide d1 _).mono ?_
      rintro e w1 ⟨rfl, hw⟩
      rw [hw]
      clear hw w1
      go_wp2_with fail
      go_ret
      exact ⟨rfl, unhide HE _ (Below.refl _ _)⟩
  case pos =>
    obtain ⟨e1, e4⟩ := hx
    rw [e1] at d1
    have hi1 : allS C A x = if A.length = 1000 then 2 else match findC C x.inv.data.toList with | none => 73 | some c => if x.day < c.day then 66 else if x.amt > c.amt - sumAll (ptsOf A x.inv.data.toList) then 75 else 0 := by
      unfold allS
      rw [if_neg (fun h => h ⟨e1, e4⟩)]
      rfl
    by_cases hl : m = 1000
    · have hv : allS C A x = 2 := by rw [hi1, if_pos (by rw [← unhide HMM]; exact hl)]
      have HE := HERR 2 (by decide) hv
      rw [hv]
      clear HERR hv hi1 e1
      go_enter Tryz.func20, Tryz.ntmps20
      go_upto_region 1 with fail
      rw [← unhide HXX, ← unhide HBX]
      go_wp2_with fail
      refine (unhide d1 _).mono ?_
      rintro e w1 ⟨rfl, hw⟩
      rw [hw]
      clear hw w1
      go_wp2_with fail
      go_ret
      exact ⟨rfl, unhide HE _ (Below.refl _ _)⟩
    · have hl2 : ¬ (1000 ≤ m) := by omega
      have hl3 : ¬ ((m : Int) ≥ 1000) := by omega
      rw [if_neg (by rw [← unhide HMM]; exact hl)] at hi1
      have dF := hide (rfind_any (W := X.drew) (c := cc) (unhide HN).symm (by omega) ((unhide HL).below (Below.drew (Below.refl _ _))) x.inv)
      have HI1 := hide hi1
      have HERR' := hide HERR
      clear e1 hi1 HERR
      go_enter Tryz.func20, Tryz.ntmps20
      go_upto_region 1 with fail
      rw [← unhide HXX, ← unhide HBX]
      go_wp2_with fail
      refine (unhide d1 _).mono ?_
      rintro e w1 ⟨rfl, hw⟩
      rw [hw]
      clear hw w1
      go_upto_region 5 with fail
      refine wp_region_last (n := 8) (S := fun W' => W'.cell? ⟨d, 0, none⟩ = some (.slice pc n cc) ∧ W'.cell? ⟨bx, 1, none⟩ = some (.string x.inv)) (by kernel_rfl) (by exact ⟨y0, x1⟩) (fun hHeld => ?_)
      refine tkW 0 ?_; refine tkW 1 ?_; refine tkW 2 ?_; refine tkN 3 ?_; refine tkW 4 ?_; refine tkN 5 ?_
      refine wpAnyL_one (i := 6) (by kernel_rfl) rfl (fun KK hK => ?_)
      go_simp
      go_wp2_with (first | (go_at_call 105; refine (unhide dF).mono ?_; rintro e w2 ⟨r, rfl, hfi, hw⟩; rw [hw]; clear hw w2))
      refine hK.out _ _ (by exact ⟨y0, x1⟩) (fun hHeld => ?_)
      clear hK KK dF d1
      refine wpAnyL_one (i := 7) (by kernel_rfl) rfl (fun KK hK => ?_)
      go_simp
      refine hK.out _ _ (by exact ⟨y0, x1⟩) (fun hHeld => ?_)
      clear hK KK
      refine wpAnyL_done (by kernel_rfl) ?_
      clear hHeld
      rcases find_is hfi with ⟨hr, hf⟩ | ⟨i, hi, hr, hkey, hf⟩
      · have hv : allS C A x = 73 := by rw [unhide HI1, hf]
        have HE := unhide HERR' 73 (by decide) hv
        have HV0 := hide hv
        subst hr
        clear hfi hf hv
        go_wp2_with fail
        go_ret
        exact ⟨by rw [unhide HV0]; rfl, unhide HE _ (Below.drew (Below.refl _ _))⟩
      · subst hr
        obtain ⟨c, hc⟩ : ∃ c, c = C[i] := ⟨_, rfl⟩
        have hcC : c ∈ C := by rw [hc]; exact List.getElem_mem hi
        have hin : i < n := by rw [unhide HN]; exact hi
        obtain ⟨b, off, e, hbl, hrr⟩ := (unhide HL).2 i hi
        rw [← hc] at hrr hkey hf
        have k2 : X.drew.cell? ⟨b, off + i * 5 + 2, none⟩ = some (.int .i64 c.day) := hrr 2 _ rfl
        have hi2 := unhide HI1
        rw [hf] at hi2
        have hi3 : allS C A x = if x.day < c.day then 66 else if x.amt > c.amt - sumAll (ptsOf A c.key.data.toList) then 75 else 0 := by rw [hi2, hkey]
        have HI3 := hide hi3
        have hldc := run_ld37 (w := X.drew.drew.drew) (b := b) (o := off + i * 5) (c := c) (fun j v hv => hrr j v hv)
        have dU := hide (runtil_any (W := X.drew.drew.drew) (c := c) (ca := ca) (unhide HMM).symm (by omega) ((unhide HAL).below (((Below.refl _ _).drew).drew).drew) 3652059 (fun k => (unhide HG).till hcC 3652059 k) ((unhide HG).ok c hcC).a2)
        rw [(unhide HG).max] at dU
        have hub := (unhide HG).sum c hcC
        obtain ⟨sa, hsa⟩ : ∃ sa, sa = c.amt - sumAll (ptsOf A c.key.data.toList) := ⟨_, rfl⟩
        rw [← hsa] at dU
        have HSA := hide hsa
        have HCI : Hid (C[i]'(by rw [← unhide HN]; exact hin) = c) := hc.symm
        have z0 : X.drew.cell? ⟨d, 0, none⟩ = some (.slice pc n cc) := y0
        have z2 : X.drew.cell? ⟨bx, 2, none⟩ = some (.int .i64 x.day) := x2
        subst e
        clear hfi hf hc hi hbl hrr hi2 hi3 hkey hub hsa
        by_cases hdd : x.day < c.day
        · have g1 : decide (x.day < c.day) = true := decide_eq_true hdd
          have hv : allS C A x = 66 := by rw [unhide HI3, if_pos hdd]
          have HE := unhide HERR' 66 (by decide) hv
          have HV0 := hide hv
          clear hv
          go_upto_region 8 with fail
          refine wp_region_last (n := 11) (S := fun W' => W'.cell? ⟨d, 0, none⟩ = some (.slice (some ⟨b, off, none⟩) n cc) ∧ W'.cell? ⟨bx, 2, none⟩ = some (.int .i64 x.day) ∧ W'.cell? ⟨b, off + i * 5 + 2, none⟩ = some (.int .i64 c.day)) (by kernel_rfl) (by exact ⟨z0, z2, k2⟩) (fun hHeld => ?_)
          refine tkW 0 ?_; refine tkN 1 ?_; refine tkW 2 ?_; refine tkW 3 ?_; refine tkW 4 ?_; refine tkN 5 ?_; refine tkW 6 ?_; refine tkW 7 ?_; refine tkW 8 ?_; refine tkN 9 ?_; refine tkW 10 ?_
          refine wpAnyL_done (by kernel_rfl) ?_
          clear hHeld
          go_wp2_with fail
          go_ret
          exact ⟨by rw [unhide HV0]; rfl, unhide HE _ (((Below.refl _ _).drew).drew)⟩
        · have g1 : decide (x.day < c.day) = false := decide_eq_false hdd
          have hi4 := unhide HI3
          rw [if_neg hdd, ← unhide HSA] at hi4
          have HI4 := hide hi4
          clear hi4
          go_upto_region 8 with fail
          refine wp_region_last (n := 11) (S := fun W' => W'.cell? ⟨d, 0, none⟩ = some (.slice (some ⟨b, off, none⟩) n cc) ∧ W'.cell? ⟨bx, 2, none⟩ = some (.int .i64 x.day) ∧ W'.cell? ⟨b, off + i * 5 + 2, none⟩ = some (.int .i64 c.day)) (by kernel_rfl) (by exact ⟨z0, z2, k2⟩) (fun hHeld => ?_)
          refine tkW 0 ?_; refine tkN 1 ?_; refine tkW 2 ?_; refine tkW 3 ?_; refine tkW 4 ?_; refine tkN 5 ?_; refine tkW 6 ?_; refine tkW 7 ?_; refine tkW 8 ?_; refine tkN 9 ?_; refine tkW 10 ?_
          refine wpAnyL_done (by kernel_rfl) ?_
          clear hHeld
          have t0 : X.drew.drew.drew.cell? ⟨d, 0, none⟩ = some (.slice (some ⟨b, off, none⟩) n cc) := y0
          have t1 : X.drew.drew.drew.cell? ⟨d, 1, none⟩ = some (.slice pa m ca) := y1
          have t3 : X.drew.drew.drew.cell? ⟨bx, 3, none⟩ = some (.int .i64 x.amt) := x3
          obtain ⟨U, hU⟩ : ∃ U, U = X.drew.drew.drew := ⟨_, rfl⟩
          have HUX : Hid (Below X.heap.size X U) := by show Below _ _ _; rw [hU]; exact (((Below.refl _ _).drew).drew).drew
          have HUB : Hid (∀ b : Nat, U.heap[b]? = X.heap[b]?) := fun b => by rw [hU]; rfl
          have HCL : Hid (∀ w', Below U.heap.size U w' → w'.cell? ⟨d, 0, none⟩ = some (.slice (some ⟨b, off, none⟩) n cc) ∧ w'.cell? ⟨d, 1, none⟩ = some (.slice pa m ca) ∧ w'.cell? ⟨bx, 3, none⟩ = some (.int .i64 x.amt) ∧ (ld37 (.pointer (some ⟨b, off + i * 5, none⟩))).run Tryz.prog w' = .ok (.agg #[.string c.key, .string c.acc, .int .i64 c.day, .int .i64 c.due, .int .i64 c.amt]) w') := fun w' hb => by
            obtain ⟨vc, va, _, q1, _⟩ := unhide HR
            have hd : d < U.heap.size := heap_lt ((unhide HUB d).trans q1)
            have hbx : bx < U.heap.size := heap_lt ((unhide HUB bx).trans (unhide HXB))
            rw [← hU] at t0 t1 t3
            refine ⟨(hb.cell (p := ⟨d, 0, none⟩) hd).trans t0, (hb.cell (p := ⟨d, 1, none⟩) hd).trans t1, (hb.cell (p := ⟨bx, 3, none⟩) hbx).trans t3, run_ld37 (c := c) (fun j v hv => ?_)⟩
            obtain ⟨b', off', e', hbl, hrr⟩ := (((unhide HL).below (unhide HUX)).below hb).2 i (by rw [← unhide HN]; exact hin)
            cases e'
            rw [unhide HCI] at hrr
            exact hrr j v hv
          rw [← hU] at dU hldc t0 t1 t3
          have HUU := hide hU
          clear hU z0 z2 k2
          go_upto_region 10 with fail
          refine wp_region_last (n := 15) (S := fun W' => W'.cell? ⟨d, 0, none⟩ = some (.slice (some ⟨b, off, none⟩) n cc) ∧ W'.cell? ⟨d, 1, none⟩ = some (.slice pa m ca) ∧ W'.cell? ⟨bx, 3, none⟩ = some (.int .i64 x.amt) ∧ (ld37 (.pointer (some ⟨b, off + i * 5, none⟩))).run Tryz.prog W' = .ok (.agg #[.string c.key, .string c.acc, .int .i64 c.day, .int .i64 c.due, .int .i64 c.amt]) W') (by kernel_rfl) (by rw [← unhide HUU]; exact ⟨t0, t1, t3, hldc⟩) (fun hHeld => ?_)
          rw [← unhide HUU] at hHeld ⊢
          refine tkW 0 ?_; refine tkN 1 ?_; refine tkW 2 ?_; refine tkW 3 ?_; refine tkW 4 ?_; refine tkN 5 ?_; refine tkW 6 ?_; refine tkW 7 ?_; refine tkN 8 ?_; refine tkW 9 ?_; refine tkW 10 ?_; refine tkW 11 ?_; refine tkN 12 ?_
          refine wpAnyL_one (i := 13) (by kernel_rfl) rfl (fun KK hK => ?_)
          go_simp
          go_wp2_with (first | (go_at_call 107; refine (unhide dU).mono ?_; rintro e w4 ⟨rfl, hb4⟩))
          have HB4 := hide hb4
          refine hK.out _ _ (by exact unhide HCL _ hb4) (fun hHeld => ?_)
          clear hK KK dU hb4
          by_cases hov : x.amt > sa
          · have g2 : decide (x.amt > sa) = true := decide_eq_true hov
            have g3 : decide (sa < x.amt) = true := decide_eq_true hov
            have hv : allS C A x = 75 := by rw [unhide HI4, if_pos hov]
            have HE := unhide HERR' 75 (by decide) hv
            have HV0 := hide hv
            clear hv
            refine tkW 14 ?_
            refine wpAnyL_done (by kernel_rfl) ?_
            clear hHeld
            go_wp2_with fail
            go_ret
            exact ⟨by rw [unhide HV0]; rfl, unhide HE _ ((unhide HUX).trans ((unhide HB4).mono (unhide HUX).size))⟩
          · have g2 : decide (x.amt > sa) = false := decide_eq_false hov
            have g3 : decide (sa < x.amt) = false := decide_eq_false hov
            have hv : allS C A x = 0 := by rw [unhide HI4, if_neg hov]
            obtain ⟨vc, va, eva, q1, q2, q3, q4, q5, q6, q7⟩ := unhide HR
            obtain ⟨V, hV⟩ : ∃ V, V = w4.drew := ⟨_, rfl⟩
            have hXV : Below X.heap.size X V := by rw [hV]; exact ((unhide HUX).trans ((unhide HB4).mono (unhide HUX).size)).drew
            have hWV := (unhide HBB).trans (hXV.mono (unhide HBB).size)
            have bk : ∀ b : Nat, b < X.heap.size → V.heap[b]? = X.heap[b]? := fun b hb => hXV.block b hb
            obtain ⟨p', c', w6, r6, m6, f6, hout, hnx⟩ := rv_moreA (x := x) (bx := bx) hWV q7 ((bk d (heap_lt q1)).trans q1) (row_keep q2 (fun b hb => bk b (row_block q2 hb).2.1)) (row_keep q3 (fun b hb => bk b (row_block q3 hb).2.1)) q4 q5 q6 (unhide HG).l2 60
            rw [← unhide HMM] at r6 hnx
            have hbS : ¬ S bx := fun h => by have := q7 bx h; rw [unhide HBX] at this; omega
            have hbl : bx < V.heap.size := Nat.lt_of_lt_of_le (heap_lt (unhide HXB)) hXV.size
            have hVb := (bk bx (heap_lt (unhide HXB))).trans (unhide HXB)
            have hw6b := (hout bx hbl hbS).trans hVb
            have ld4 := run_ld51 (w := V) (b := bx) (o := 0) (x := x) (fun i v hv => by rw [Nat.zero_add, cell_at hVb]; simpa [Al.vals] using hv)
            have l6 : V.cell? ⟨d, 1, none⟩ = some (.slice pa m ca) := by rw [hV]; exact (unhide HCL w4 (unhide HB4)).2.1
            obtain ⟨Z, hZ⟩ : ∃ Z, Z = V.alloc (.cells #[.string x.pay, .string x.inv, .int .i64 x.day, .int .i64 x.amt] 58) := ⟨_, rfl⟩
            have hZ1 : Below V.heap.size V Z := by rw [hZ]; exact (Below.refl _ _).alloc (Nat.le_refl _) _
            have hdV : d < V.heap.size := Nat.lt_of_lt_of_le (heap_lt q1) hXV.size
            have l6a : Z.cell? ⟨d, 1, none⟩ = some (.slice pa m ca) := (hZ1.cell (p := ⟨d, 1, none⟩) hdV).trans l6
            have hZb := (hZ1.block bx hbl).trans hVb
            have ld5 := run_ld51 (w := Z) (b := bx) (o := 0) (x := x) (fun i v hv => by rw [Nat.zero_add, cell_at hZb]; simpa [Al.vals] using hv)
            have ld6 := run_ld51 (w := w6) (b := bx) (o := 0) (x := x) (fun i v hv => by rw [Nat.zero_add, cell_at hw6b]; simpa [Al.vals] using hv)
            subst eva
            rw [hZ] at l6a ld5
            have HNX := hide hnx; have HV := hide hV; have HV0 := hide hv
            refine tkW 14 ?_
            refine wpAnyL_done (by kernel_rfl) ?_
            clear hHeld hv q1 q2 q3 q4 q5 q6 q7 hXV hWV bk hout hnx hbS hbl hVb hw6b hZ hZ1 hdV hZb hV t0 t1 t3 hldc
            go_upto_region 12 with fail
            refine wp_region_last (n := 10) (S := fun W' => W'.cell? ⟨d, 1, none⟩ = some (.slice pa m ca) ∧ (ld51 (.pointer (some ⟨bx, 0, none⟩))).run Tryz.prog W' = .ok (.agg #[.string x.pay, .string x.inv, .int .i64 x.day, .int .i64 x.amt]) W') (by kernel_rfl) (by rw [← unhide HV]; exact ⟨l6, ld4⟩) (fun hHeld => ?_)
            rw [← unhide HV] at hHeld ⊢
            refine tkW 0 ?_; refine tkW 1 ?_; refine tkW 2 ?_; refine tkW 3 ?_; refine tkS 4 ?_; refine tkS 5 ?_
            refine wpAnyL_one (i := 6) (by kernel_rfl) rfl (fun KK hK => ?_)
            go_simp
            refine hK.out _ _ (by exact ⟨l6a, ld5⟩) (fun hHeld => ?_)
            clear hK KK
            refine wpAnyL_one (i := 7) (by kernel_rfl) rfl (fun KK hK => ?_)
            refine step_append_run _ (by rfl) _ _ _ (by rfl) _ _ _ _ (by rfl) (by rfl) r6 ?_
            refine hK.out _ _ (by exact ⟨m6, ld6⟩) (fun hHeld => ?_)
            clear hK KK
            refine tkW 8 ?_; refine tkW 9 ?_
            clear hHeld
            refine wpAnyL_past (i := 10) (by kernel_rfl) rfl (by kernel_rfl) (fun KK hK => ?_)
            go_simp
            refine hK.out _ _ ?_
            clear hK KK
            refine wpAnyL_done (by kernel_rfl) ?_
            go_wp2_with fail
            go_ret
            exact ⟨by rw [unhide HV0]; rfl, fun h => absurd (unhide HV0) h, fun _ => unhide HNX⟩
end Go.Proofs.YtfclknlpdcanpaaGreatDoor
/- What is taken keeps a view's lists good. -/
namespace Go.Proofs.YtfclknlpdcanpaaGreatDoor
open Go Go.Shelf Go.ChangeShapes Go.WideShapes Go.ChangeAt Go.RowKit Go.Maps
set_option linter.unusedVariables false
theorem day_of {t : Int} (h : dayB t = true) : 1 ≤ t ∧ t ≤ 3652059 := by
  unfold dayB at h
  rw [Bool.and_eq_true, decide_eq_true_eq, decide_eq_true_eq] at h
  exact h
theorem inv_zero {C : List Cl} {c : Cl} (h : invS C c = 0) : (dayB c.day = true ∧ dayB c.due = true ∧ ¬ c.due < c.day ∧ ¬ c.amt < 1) ∧ C.length ≠ 1000 ∧ has C c.key.data.toList ≠ true ∧ ¬ sumC C + c.amt > 9223372036854775807 := by
  unfold invS at h
  split at h
  · cases h
  · next h1 =>
    split at h
    · cases h
    · next h2 =>
      split at h
      · cases h
      · next h3 =>
        split at h
        · cases h
        · next h4 => exact ⟨Classical.not_not.1 h1, h2, h3, h4⟩
theorem Good.more {C : List Cl} {A : List Al} {g : Int} (h : Good C A g) {c : Cl} (hi : invS C c = 0) (hk : c.key.size ≤ maxLen) (ha : c.acc.size ≤ maxLen) (hm : c.amt ≤ 9223372036854775807) : Good (C ++ [c]) A g := by
  obtain ⟨⟨e1, e2, e3, e4⟩, e5, e6, e7⟩ := inv_zero hi
  have d1 := day_of e1; have d2 := day_of e2
  have hno : ∀ x ∈ C, x.key.data.toList ≠ c.key.data.toList := fun x hx e => e6 (has_iff.2 ⟨x, hx, e⟩)
  refine ⟨fun x hx => ?_, ?_, ?_, h.l2, ?_, fun a ha => ?_, fun x hx => ?_, h.g⟩
  · rcases List.mem_append.1 hx with hx | hx
    · exact h.ok x hx
    · rw [List.mem_singleton.1 hx]
      exact ⟨d1.1, d2.2, by omega, by omega, hm, hk, ha⟩
  · rw [List.map_append, List.nodup_append]
    refine ⟨h.key, by simp, fun a ha b hb => ?_⟩
    obtain ⟨x, hx, rfl⟩ := List.mem_map.1 ha
    have hb' : b = c.key.data.toList := by simpa using hb
    rw [hb']
    exact hno x hx
  · rw [List.length_append]
    have := h.l1
    show C.length + 1 ≤ 1000
    omega
  · rw [sumC_append]
    show sumC C + (c.amt + 0) ≤ _
    omega
  · obtain ⟨h1, h2, x, hx, h3⟩ := h.al a ha
    exact ⟨h1, h2, x, List.mem_append_left _ hx, h3⟩
  · rcases List.mem_append.1 hx with hx | hx
    · exact h.sum x hx
    · rw [List.mem_singleton.1 hx]
      have e : ptsOf A c.key.data.toList = [] := by
        cases hp : ptsOf A c.key.data.toList with
        | nil => rfl
        | cons p P =>
          obtain ⟨a, ha, e, _⟩ := pts_mem (A := A) (s := c.key.data.toList) (p := p) (by rw [hp]; exact List.mem_cons_self)
          obtain ⟨_, _, x, hx, e2, _⟩ := h.al a ha
          exact absurd (e2.trans e) (hno x hx)
      rw [e]
      show (0 : Int) ≤ c.amt
      omega
theorem all_zero {C : List Cl} {A : List Al} {x : Al} (h : allS C A x = 0) : (dayB x.day = true ∧ ¬ x.amt < 1) ∧ A.length ≠ 1000 ∧ ∃ c, findC C x.inv.data.toList = some c ∧ ¬ x.day < c.day ∧ ¬ x.amt > c.amt - sumAll (ptsOf A x.inv.data.toList) := by
  unfold allS at h
  split at h
  · cases h
  · next h1 =>
    split at h
    · cases h
    · next h2 =>
      cases hf : findC C x.inv.data.toList with
      | none => rw [hf] at h; cases h
      | some c =>
        rw [hf] at h
        refine ⟨Classical.not_not.1 h1, h2, c, rfl, ?_⟩
        have h : (if x.day < c.day then (66 : Int) else if x.amt > c.amt - sumAll (ptsOf A x.inv.data.toList) then 75 else 0) = 0 := h
        split at h
        · cases h
        · next h3 =>
          split at h
          · cases h
          · next h4 => exact ⟨h3, h4⟩
theorem Good.moreA {C : List Cl} {A : List Al} {g : Int} (h : Good C A g) {x : Al} (hi : allS C A x = 0) : Good C (A ++ [x]) g := by
  obtain ⟨⟨e1, e2⟩, e3, c, hf, e4, e5⟩ := all_zero hi
  have d1 := day_of e1
  have hc : c ∈ C := List.mem_of_find?_eq_some hf
  have hkc : c.key.data.toList = x.inv.data.toList := by simpa using List.find?_some hf
  refine ⟨h.ok, h.key, h.l1, ?_, h.tot, fun a ha => ?_, fun y hy => ?_, h.g⟩
  · rw [List.length_append]
    have := h.l2
    show A.length + 1 ≤ 1000
    omega
  · rcases List.mem_append.1 ha with ha | ha
    · exact h.al a ha
    · rw [List.mem_singleton.1 ha]
      exact ⟨by omega, d1.2, c, hc, hkc, by omega⟩
  · rw [ptsOf_append, sumAll_append, ptsOf_one]
    by_cases e : x.inv.data.toList = y.key.data.toList
    · have hyc : y = c := by
        have h1 := h.find hy
        rw [← e, hf] at h1
        exact (Option.some.inj h1).symm
      rw [if_pos e, hyc, sumAll_one, hkc]
      show _ + x.amt ≤ _
      omega
    · rw [if_neg e]
      have := h.sum y hy
      show _ + 0 ≤ _
      omega
theorem Good.none {g : Int} (hg : 0 ≤ g ∧ g ≤ 3652058) : Good [] [] g :=
  ⟨fun c h => (by cases h), List.nodup_nil, by simp, by simp, by decide, fun a h => (by cases h), fun c h => (by cases h), hg⟩
end Go.Proofs.YtfclknlpdcanpaaGreatDoor
