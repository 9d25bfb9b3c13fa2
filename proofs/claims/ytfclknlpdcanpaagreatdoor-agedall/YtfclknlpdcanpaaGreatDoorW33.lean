import Derived.Test.YtfclknlpdcanpaaGreatDoorW31
import Derived.Test.YtfclknlpdcanpaaGreatDoorW32
import Derived.Test.YtfclknlpdcanpaaGreatDoorW27
import Derived.Test.YtfclknlpdcanpaaGreatDoorW30
/- The document's Open (112): the walk. -/
namespace Go.Proofs.YtfclknlpdcanpaaGreatDoor
open Go Go.Shelf Go.ChangeShapes Go.WideShapes Go.ChangeAt Go.RowKit Go.Maps
set_option linter.unusedVariables false
def clO (x : Cl) : Obj := .cells #[.string x.key, .string x.acc, .int .i64 x.day, .int .i64 x.due, .int .i64 x.amt] 56 (0, 0)
def clZ : Obj := .cells #[.string ⟨#[]⟩, .string ⟨#[]⟩, .int .i64 0, .int .i64 0, .int .i64 0] 56 (0, 0)
theorem thereZ {w : World} {b : Nat} (h : w.heap[b]? = some clZ) : w.there b 0 5 := fun j hj => by
  unfold clZ at h
  have : j = 0 ∨ j = 1 ∨ j = 2 ∨ j = 3 ∨ j = 4 := by omega
  rcases this with rfl | rfl | rfl | rfl | rfl <;> simp [World.cell?, World.frozen?, h]
theorem setO {w : World} {b : Nat} (h : w.heap[b]? = some clZ) (x : Cl) : (w.setCells b 0 x.vals).heap[b]? = some (clO x) := by
  unfold clZ at h
  show (((((w.setCell ⟨b, 0, none⟩ _).setCell ⟨b, 0 + 1, none⟩ _).setCell ⟨b, 0 + 1 + 1, none⟩ _).setCell ⟨b, 0 + 1 + 1 + 1, none⟩ _).setCell ⟨b, 0 + 1 + 1 + 1 + 1, none⟩ _).heap[b]? = _
  rw [Go.heap_setCell_same _ _ _ _ _ _ (Go.heap_setCell_same _ _ _ _ _ _ (Go.heap_setCell_same _ _ _ _ _ _ (Go.heap_setCell_same _ _ _ _ _ _ (Go.heap_setCell_same _ _ _ _ _ _ h))))]
  rfl
theorem ldO {w : World} {b : Nat} {x : Cl} (h : w.heap[b]? = some (clO x)) : (ld37 (.pointer (some ⟨b, 0, none⟩))).run Tryz.prog w = .ok (.agg #[.string x.key, .string x.acc, .int .i64 x.day, .int .i64 x.due, .int .i64 x.amt]) w :=
  run_ld37 (c := x) (fun i v hv => by
    unfold clO at h
    rw [Nat.zero_add, cell_at h]; simpa [Cl.vals] using hv)
/-- a list that the call has made since wb -/
structure Ml (wb w : World) (v : Value) (M : List Cl) : Prop where
  row : w.ownsRow wb.heap.size 56 5 v M.length (kC.flat M)
  bel : Below wb.heap.size wb w
theorem Ml.below {wb w w' : World} {v : Value} {M : List Cl} (h : Ml wb w v M) (hb : Below w.heap.size w w') : Ml wb w' v M :=
  ⟨row_keep h.row (fun b e => hb.block b (row_block h.row e).2.1), h.bel.trans (hb.mono h.bel.size)⟩
/-- one more behind it -/
theorem Ml.more {wb w : World} {v : Value} {M : List Cl} (h : Ml wb w v M) (hl : M.length ≤ 2000) (x : Cl) (ty : TypeId) :
    ∃ p' c' w', (Builtin.append_ #[59, 59] ty #[v, .slice (some ⟨w.heap.size, 0, none⟩) 1 1]).run Tryz.prog (w.alloc (.cells #[.string x.key, .string x.acc, .int .i64 x.day, .int .i64 x.due, .int .i64 x.amt] 56)) = .ok (.slice p' (M.length + 1) c') w' ∧ Ml wb w' (.slice p' (M.length + 1) c') (M ++ [x]) := by
  obtain ⟨Z, hZ⟩ : ∃ Z, Z = w.alloc (.cells #[.string x.key, .string x.acc, .int .i64 x.day, .int .i64 x.due, .int .i64 x.amt] 56) := ⟨_, rfl⟩
  have hZ1 : Below w.heap.size w Z := by rw [hZ]; exact (Below.refl _ _).alloc (Nat.le_refl _) _
  have hu : Lies kC Z (some ⟨w.heap.size, 0, none⟩) [x] := by rw [hZ]; exact one_lies w x 56 _ rfl
  have hm := h.below hZ1
  obtain ⟨p', c', w', hr, ho, hb, _, _⟩ := run_app kC_ok ty (W := Z) (B := wb.heap.size) (M := [x]) hm.row hm.bel.size (some ⟨w.heap.size, 0, none⟩) 1 (fun h => by cases h) hu (by simp; omega)
  simp only [List.length_singleton] at hr ho
  rw [← hZ]
  exact ⟨p', c', w', hr, ⟨by rw [List.length_append, List.length_singleton]; exact ho, hm.bel.trans hb⟩⟩
attribute [local go_sem ↓] ld37_is st37_is
set_option maxRecDepth 100000 in
set_option maxHeartbeats 32000000 in
theorem ropen_any {W : World} {d : Nat} {S : Nat → Prop} {C : List Cl} {A : List Al} {g : Int} (hR : Rv W d S C A g) (hG : Good C A g) (s : ByteArray) (t : Int) :
    Calls Tryz.prog 116 #[.pointer (some ⟨d, 0, none⟩), .string s, .int .i64 t] W fun e w' => ∃ p c R, e = .returned (.slice p R.length c) ∧ OpenIs C A s.data.toList t R ∧ Lies kC w' p R ∧ Below W.heap.size W w' ∧ R.length ≤ 1000 := by
  obtain ⟨vc, va, h1, h2, h3, h4, h5, h6⟩ := hR.ex
  obtain ⟨pc, cc, evc, _⟩ := row_slice h2
  obtain ⟨pa, ca, eva, _⟩ := row_slice h3
  obtain ⟨n, hn⟩ : ∃ n, n = C.length := ⟨_, rfl⟩
  obtain ⟨m, hm⟩ : ∃ m, m = A.length := ⟨_, rfl⟩
  have hnb : n ≤ 1000 := by rw [hn]; exact hG.l1
  have hmb : m ≤ 1000 := by rw [hm]; exact hG.l2
  have hdl := heap_lt h1
  have HD : Hid (∀ w', Below W.heap.size W w' → w'.cell? ⟨d, 0, none⟩ = some (.slice pc n cc) ∧ w'.cell? ⟨d, 1, none⟩ = some (.slice pa m ca)) := fun w' hb => by
    have h := (hb.block d hdl).trans h1
    rw [cell_at h, cell_at h, evc, eva, hn, hm]
    exact ⟨rfl, rfl⟩
  have hLC : Lies kC W pc C := by
    have h := h2
    rw [evc] at h
    exact own_lies kC_ok rfl h
  have hLA : Lies kA W pa A := by
    have h := h3
    rw [eva] at h
    exact own_lies kA_ok rfl h
  have dD := hide (fun w => rIsDay_any t w)
  have HN := hide hn; have HM := hide hm; have HG := hide hG; have HLC := hide hLC; have HLA := hide hLA
  clear hR h1 h2 h3 h4 h5 h6 evc eva hn hm hdl hLC hLA hG
  cases hd : dayB t with
  | false =>
    rw [hd] at dD
    have HF : Hid (OpenIs C A s.data.toList t []) := ⟨by unfold opn; rw [hd]; simp, List.Pairwise.nil⟩
    clear hd
    go_enter Tryz.func116, Tryz.ntmps116
    go_wp2_with fail
    refine (unhide dD _).mono ?_
    rintro e w1 ⟨rfl, hw⟩
    rw [hw]
    clear hw w1 dD
    go_wp2_with fail
    go_ret
    exact ⟨none, 0, [], rfl, unhide HF, Lies.nil _ _, Below.refl _ _, by simp⟩
  | true =>
    rw [hd] at dD
    have HOP : Hid (opn C A s.data.toList t = opP C A s.data.toList t C.length) := by
      show _ = _
      unfold opn opP
      rw [hd, if_pos rfl, List.take_length]
    clear hd
    go_enter Tryz.func116, Tryz.ntmps116
    go_wp2_with fail
    refine (unhide dD _).mono ?_
    rintro e w1 ⟨rfl, hw⟩
    rw [hw]
    clear hw w1 dD
    go_wp2_with fail
    go_loopw [7, 8] (fun v7 v8 wr => ∃ (i r : Nat) (p7 : Option Addr) (c7 : Nat), v8 = .int .i64 i ∧ v7 = .slice p7 r c7 ∧ i ≤ n ∧ r ≤ i ∧ Hid (∃ R : List Cl, R.length = r ∧ Ml W wr v7 R ∧ R.Perm (opP C A s.data.toList t i) ∧ Srt3 R)) (fun _ v8 _ => n - (intOf v8).toNat)
    case atStart => exact ⟨0, 0, none, 0, rfl, rfl, by omega, by omega, [], rfl, ⟨World.ownsRow_nil _ _ _ _, Below.refl _ _⟩, List.Perm.refl _, List.Pairwise.nil⟩
    case round =>
      obtain ⟨i, r, p7, c7, rfl, rfl, hi, hri, hrel⟩ := hrel
      obtain ⟨R, hRr, hml, hperm, hsrt⟩ := unhide hrel
      obtain ⟨z0, z1⟩ := unhide HD wr hml.bel
      by_cases hlt : i < n
      · have hiC : i < C.length := by rw [← unhide HN]; exact hlt
        obtain ⟨b, off, e, hbl, hrr⟩ := ((unhide HLC).below hml.bel).2 i hiC
        obtain ⟨c, hc⟩ : ∃ c, c = C[i] := ⟨_, rfl⟩
        have hst := opP_succ (A := A) (k := s.data.toList) (t := t) hiC
        rw [← hc] at hrr hst
        have hcC : c ∈ C := by rw [hc]; exact List.getElem_mem hiC
        have hld := run_ld37 (w := wr) (b := b) (o := off + i * 5) (c := c) (fun i v hv => hrr i v hv)
        have hr0 : (wr.alloc clZ).heap[wr.heap.size]? = some clZ := heap_new _ _
        have hst7 := run_st37 (thereZ hr0) c
        have hs5 := setO hr0 c
        have hb5 := below5 (B := wr.heap.size) (b := wr.heap.size) (w := wr.alloc clZ) (Nat.le_refl _) c.vals 0 wr (wr.alloc clZ) ((Below.refl _ _).alloc (Nat.le_refl _) _)
        obtain ⟨Y, hY⟩ : ∃ Y, Y = (wr.alloc clZ).setCells wr.heap.size 0 c.vals := ⟨_, rfl⟩
        rw [← hY] at hst7 hs5 hb5
        obtain ⟨b9, hb9⟩ : ∃ b9, b9 = wr.heap.size := ⟨_, rfl⟩
        rw [← hb9] at hs5
        obtain ⟨V, hV⟩ : ∃ V, V = Y.drew := ⟨_, rfl⟩
        have hbV : Below wr.heap.size wr V := by rw [hV]; exact hb5.drew
        have hVb : V.heap[b9]? = some (clO c) := by rw [hV]; exact hs5
        have hmV := hml.below hbV
        have dO := hide (ropenAt_any (W := V) (ca := ca) (c := c) (unhide HM).symm (by omega) ((unhide HLA).below hmV.bel) t (fun k => (unhide HG).till hcC t k) ((unhide HG).ok c hcC).a2)
        obtain ⟨o, ho⟩ : ∃ o, o = (shr c (ptsOf A c.key.data.toList) t).2 := ⟨_, rfl⟩
        rw [← ho] at dO hst
        have HW : Hid (∀ w', Below V.heap.size V w' → (ld37 (.pointer (some ⟨b9, 0, none⟩))).run Tryz.prog w' = .ok (.agg #[.string c.key, .string c.acc, .int .i64 c.day, .int .i64 c.due, .int .i64 c.amt]) w' ∧ w'.cell? ⟨d, 1, none⟩ = some (.slice pa m ca)) := fun w' hb =>
          ⟨ldO ((hb.block b9 (heap_lt hVb)).trans hVb), (unhide HD w' (hmV.bel.trans (hb.mono hmV.bel.size))).2⟩
        have HML := hide hml; have HMV := hide hmV; have HVB := hide hVb; have HPERM := hide hperm; have HSRT := hide hsrt; have HST2 := hide hst; have HRR := hide hRr; have HV := hide hV; have HB9 := hide hb9; have HBV := hide hbV
        unfold clZ at hst7
        have hq := unhide HW V (Below.refl _ _)
        subst e
        clear hrr hbl hiC hc hst hr0 hs5 hb5 hY hb9 hV hbV hVb hmV ho hml hperm hsrt hrel hRr z1
        go_upto_region 8 with fail
        rw [← unhide HB9]
        refine wp_region_last (n := 8) (S := fun W' => (ld37 (.pointer (some ⟨b9, 0, none⟩))).run Tryz.prog W' = .ok (.agg #[.string c.key, .string c.acc, .int .i64 c.day, .int .i64 c.due, .int .i64 c.amt]) W' ∧ W'.cell? ⟨d, 1, none⟩ = some (.slice pa m ca)) (by kernel_rfl) (by rw [← unhide HV]; exact hq) (fun hHeld => ?_)
        rw [← unhide HV] at hHeld ⊢
        clear hq hld hst7 z0
        refine tkN 0 ?_; refine tkW 1 ?_; refine tkW 2 ?_; refine tkW 3 ?_; refine tkN 4 ?_; refine tkW 5 ?_
        refine wpAnyL_one (i := 6) (by kernel_rfl) rfl (fun KK hK => ?_)
        go_simp
        go_wp2_with (first | (go_at_call 111; refine (unhide dO).mono ?_; rintro e w3 ⟨rfl, hb3⟩))
        have HB3 := hide hb3
        refine hK.out _ _ (by exact unhide HW _ hb3) (fun hHeld => ?_)
        clear hK KK dO
        refine wpAnyL_one (i := 7) (by kernel_rfl) rfl (fun KK hK => ?_)
        go_simp
        refine hK.out _ _ (by exact unhide HW _ (unhide HB3)) (fun hHeld => ?_)
        clear hK KK hHeld
        refine wpAnyL_done (by kernel_rfl) ?_
        have hm3 := (unhide HMV).below hb3
        have hb9w := (hb3.block b9 (heap_lt (unhide HVB))).trans (unhide HVB)
        have hcc := hb9w
        unfold clO at hcc
        have a1 : w3.cell? ⟨b9, 1, none⟩ = some (.string c.acc) := by rw [cell_at hcc]; rfl
        have a4 : w3.cell? ⟨b9, 4, none⟩ = some (.int .i64 c.amt) := by rw [cell_at hcc]; rfl
        have f4 : w3.frozen? ⟨b9, 4, none⟩ = false := froz_at hcc
        have HM3 := hide hm3
        by_cases hac : c.acc = s
        · rw [hac] at a1
          have hbt : (s.toList == s.toList) = true := by simp
          by_cases ho1 : o < 1
          · have HN2 : Hid (∃ R : List Cl, R.length = r ∧ Ml W w3 (.slice p7 r c7) R ∧ R.Perm (opP C A s.data.toList t (i + 1)) ∧ Srt3 R) := ⟨R, unhide HRR, hm3, by rw [unhide HST2, if_neg (fun h => by omega), List.append_nil]; exact unhide HPERM, unhide HSRT⟩
            clear hb3 hm3 hb9w hcc hac a4 f4
            go_wp2_with fail
            go_round
            case rel => exact ⟨i + 1, r, p7, c7, by push_cast; rfl, rfl, by omega, by omega, unhide HN2⟩
            case measure => simp only [intOf]; omega
          · obtain ⟨x, hx⟩ : ∃ x : Cl, x = { c with amt := o } := ⟨_, rfl⟩
            obtain ⟨Y2, hY2⟩ : ∃ Y2, Y2 = w3.setCell ⟨b9, 4, none⟩ (.int .i64 o) := ⟨_, rfl⟩
            have hY2b : Y2.heap[b9]? = some (clO x) := by
              rw [hY2, Go.heap_setCell_same _ _ _ _ _ _ hcc, hx]
              rfl
            have hlw : wr.heap.size ≤ w3.heap.size := Nat.le_trans (unhide HBV).size hb3.size
            have hne : ∀ q, q < wr.heap.size → Y2.heap[q]? = w3.heap[q]? := fun q hq => by rw [hY2]; exact Below.heap_setCell _ _ _ _ (by show q ≠ b9; rw [unhide HB9]; omega)
            have hbY : Below W.heap.size W Y2 := by rw [hY2]; exact hm3.bel.setCell (by show W.heap.size ≤ b9; rw [unhide HB9]; exact (unhide HML).bel.size) _
            have hmY : Ml W Y2 (.slice p7 r c7) R := ⟨row_keep hm3.row (fun q hq => hne q (row_block (unhide HML).row hq).2.1), hbY⟩
            have HPS : Hid (∀ M : List Cl, M.Perm (R ++ [x]) → M.Perm (opP C A s.data.toList t (i + 1))) := fun M hM => by
              rw [unhide HST2, if_pos ⟨by rw [hac], by omega⟩, ← hx]
              exact hM.trans (List.Perm.append_right _ (unhide HPERM))
            have HMY := hide hmY; have HYB := hide hY2b; have HY2 := hide hY2
            have hxa : x.acc = s := by rw [hx]; exact hac
            have HXA := hide hxa
            clear hb3 hm3 hb9w hx hY2 hY2b hlw hne hbY hmY hxa hac hcc HM3
            go_upto_region 11 with fail
            rw [← unhide HY2]
            clear HY2 a1 a4 f4
            have HWX : Hid (∀ w', Below Y2.heap.size Y2 w' → (ld37 (.pointer (some ⟨b9, 0, none⟩))).run Tryz.prog w' = .ok (.agg #[.string x.key, .string x.acc, .int .i64 x.day, .int .i64 x.due, .int .i64 x.amt]) w') := fun w' hb => ldO ((hb.block b9 (heap_lt (unhide HYB))).trans (unhide HYB))
            have HLR : Hid (Lies kC Y2 p7 R) := by
              have h := (unhide HMY).row
              rw [unhide HRR] at h
              exact own_lies kC_ok (unhide HRR) h
            have HFIN : Hid (∀ (w' : World) (v : Value) (M : List Cl), Ml Y2 w' v M → Ml W w' v M) := fun w' v M h => ⟨row_le h.row (unhide HMY).bel.size, (unhide HMY).bel.trans (h.bel.mono (unhide HMY).bel.size)⟩
            go_wp2_with fail
            go_loopw [11, 12, 13] (fun v11 v12 v13 wq => ∃ (k l : Nat) (dn : Bool) (p11 : Option Addr) (c11 : Nat), v13 = .int .i64 k ∧ v12 = .bool dn ∧ v11 = .slice p11 l c11 ∧ k ≤ r ∧ l ≤ k + 1 ∧ Hid (∃ M : List Cl, M.length = l ∧ InL R x k dn M ∧ Ml Y2 wq v11 M)) (fun _ _ v13 _ => r - (intOf v13).toNat)
            case atStart => exact ⟨0, 0, false, none, 0, rfl, rfl, rfl, by omega, by omega, [], rfl, InL.zero R x, ⟨World.ownsRow_nil _ _ _ _, Below.refl _ _⟩⟩
            case round =>
              obtain ⟨k, l, dn, p11, c11, rfl, rfl, rfl, hk, hlk, hrel⟩ := hrel
              obtain ⟨M, hMl, hinl, hmq⟩ := unhide hrel
              by_cases hkr : k < r
              · have hkR : k < R.length := by rw [unhide HRR]; exact hkr
                obtain ⟨bo, oo, eo⟩ : ∃ bo oo, p7 = some ⟨bo, oo, none⟩ := by obtain ⟨bo, oo, eo, _⟩ := (unhide HLR).2 k hkR; exact ⟨bo, oo, eo⟩
                obtain ⟨y, hy⟩ : ∃ y, y = R[k] := ⟨_, rfl⟩
                have HWY : Hid (∀ w', Below Y2.heap.size Y2 w' → (ld37 (.pointer (some ⟨bo, oo + k * 5, none⟩))).run Tryz.prog w' = .ok (.agg #[.string y.key, .string y.acc, .int .i64 y.day, .int .i64 y.due, .int .i64 y.amt]) w') := fun w' hb => run_ld37 (c := y) (fun j v hv => by
                  obtain ⟨b', o', e', _, hr'⟩ := ((unhide HLR).below hb).2 k hkR
                  rw [eo] at e'
                  cases e'
                  rw [← hy] at hr'
                  exact hr' j v hv)
                have HINL := hide hinl; have HMQ := hide hmq; have HMLE := hide hMl
                have HYK : Hid (∃ h : k < R.length, R[k] = y) := ⟨hkR, hy.symm⟩
                have HBD : Hid (Below Y2.heap.size Y2 wr.drew) := hmq.bel.drew
                have qx := unhide HWX wr hmq.bel
                have qy := unhide HWY wr hmq.bel
                have qxd := unhide HWX wr.drew hmq.bel.drew
                have qyd := unhide HWY wr.drew hmq.bel.drew
                subst eo
                clear hrel hinl hmq hMl hy hkR
                go_upto_region 16 with fail
                go_cut [66] (fun v66 wx => ∃ bb : Bool, v66 = .bool bb ∧ Hid ((dn = true → bb = false) ∧ (dn = false → (bb = true ↔ Lt3 x y)) ∧ Below wr.heap.size wr wx))
                case first =>
                  cases dn with
                  | true =>
                    refine wp_region_last (n := 10) (S := fun _ => True) (by kernel_rfl) trivial (fun hHeld => ?_)
                    refine tkW 0 ?_; refine tkW 1 ?_; refine tkW 2 ?_; refine tkX 3 ?_; refine tkX 4 ?_; refine tkX 5 ?_; refine tkX 6 ?_; refine tkX 7 ?_; refine tkX 8 ?_; refine tkW 9 ?_
                    refine wpAnyL_done (by kernel_rfl) ?_
                    clear hHeld
                    go_wp2_with fail
                    go_meet
                    exact ⟨false, rfl, fun _ => rfl, fun h => (by cases h), (Below.refl _ _).drew⟩
                  | false =>
                    have dA := hide (rahead_any x y wr.drew)
                    refine wp_region_last (n := 10) (S := fun W' => (ld37 (.pointer (some ⟨b9, 0, none⟩))).run Tryz.prog W' = .ok (.agg #[.string x.key, .string x.acc, .int .i64 x.day, .int .i64 x.due, .int .i64 x.amt]) W' ∧ (ld37 (.pointer (some ⟨bo, oo + k * 5, none⟩))).run Tryz.prog W' = .ok (.agg #[.string y.key, .string y.acc, .int .i64 y.day, .int .i64 y.due, .int .i64 y.amt]) W') (by kernel_rfl) (by exact ⟨qxd, qyd⟩) (fun hHeld => ?_)
                    refine tkW 0 ?_; refine tkW 1 ?_; refine tkW 2 ?_; refine tkN 3 ?_; refine tkW 4 ?_; refine tkW 5 ?_; refine tkW 6 ?_; refine tkN 7 ?_
                    refine wpAnyL_one (i := 8) (by kernel_rfl) rfl (fun KK hK => ?_)
                    go_simp
                    go_wp2_with (first | (go_at_call 194; refine (unhide dA).mono ?_; rintro e w7 ⟨bb, rfl, hbb, hb7⟩))
                    have HB7 := hide hb7; have HBB := hide hbb
                    refine hK.out _ _ (by exact ⟨unhide HWX _ ((unhide HBD).trans (hb7.mono (unhide HBD).size)), unhide HWY _ ((unhide HBD).trans (hb7.mono (unhide HBD).size))⟩) (fun hHeld => ?_)
                    clear hK KK dA hb7 hbb
                    refine tkW 9 ?_
                    refine wpAnyL_done (by kernel_rfl) ?_
                    clear hHeld
                    go_wp2_with fail
                    go_meet
                    exact ⟨bb, rfl, fun h => (by cases h), fun _ => unhide HBB, ((Below.refl _ _).drew).trans (unhide HB7)⟩
                obtain ⟨bb, rfl, hcu⟩ := hcut
                obtain ⟨g1, g2, hbc⟩ := unhide hcu
                have hmc := (unhide HMQ).below hbc
                have qxc := unhide HWX wc hmc.bel
                have qyc := unhide HWY wc hmc.bel
                obtain ⟨hkR, eRk⟩ := unhide HYK
                cases bb with
                | false =>
                  obtain ⟨p', c', w8, hr8, hm8⟩ := hmc.more (by have := unhide HMLE; omega) y 59
                  have HN8 : Hid (∃ M : List Cl, M.length = l + 1 ∧ InL R x (k + 1) dn M ∧ Ml Y2 w8 (.slice p' (l + 1) c') M) := by
                    rw [unhide HMLE] at hm8
                    refine ⟨M ++ [y], by rw [List.length_append, unhide HMLE]; rfl, ?_, hm8⟩
                    rw [← eRk]
                    cases dn with
                    | true => exact (unhide HINL).on hkR
                    | false => exact (unhide HINL).past hkR (by rw [eRk]; intro h; exact absurd ((g2 rfl).2 h) (by simp))
                  rw [unhide HMLE] at hr8
                  have HR8 := hide hr8
                  clear g1 g2 hbc hcu hmc hr8 hm8 qx qy qxd qyd qxc eRk hkR
                  go_wp2_with (first | (at_builtin; refine wpList_append_run rfl _ _ 59 rfl _ _ _ _ rfl rfl (unhide HR8) ?_))
                  go_round
                  case rel => exact ⟨k + 1, l + 1, dn, p', c', by push_cast; rfl, rfl, rfl, by omega, by omega, unhide HN8⟩
                  case measure => simp only [intOf]; omega
                | true =>
                  have hdn : dn = false := by
                    cases dn with
                    | false => rfl
                    | true => exact absurd (g1 rfl) (by simp)
                  subst hdn
                  obtain ⟨p', c', w8, hr8, hm8⟩ := hmc.more (by have := unhide HMLE; omega) x 59
                  obtain ⟨p9, c9, w9, hr9, hm9⟩ := hm8.more (by rw [List.length_append, unhide HMLE]; simp; omega) y 59
                  have qy8 := unhide HWY w8 hm8.bel
                  have el : (M ++ [x]).length + 1 = l + 1 + 1 := by rw [List.length_append, unhide HMLE]; rfl
                  have el2 : (M ++ [x]).length = l + 1 := by rw [List.length_append, unhide HMLE]; rfl
                  have HN9 : Hid (∃ M : List Cl, M.length = l + 1 + 1 ∧ InL R x (k + 1) true M ∧ Ml Y2 w9 (.slice p9 (l + 1 + 1) c9) M) := by
                    rw [el] at hm9
                    refine ⟨M ++ [x] ++ [y], by rw [List.length_append, el2]; rfl, ?_, hm9⟩
                    rw [← eRk]
                    exact (unhide HINL).here hkR (by rw [eRk]; exact (g2 rfl).1 rfl)
                  rw [el, unhide HMLE] at hr9
                  rw [unhide HMLE] at hr8
                  have HR8 := hide hr8; have HR9 := hide hr9
                  have hl3 : l ≤ k := by
                    have h := ((unhide HINL).1 rfl).1
                    have h2 := congrArg List.length h
                    rw [unhide HMLE, List.length_take] at h2
                    omega
                  clear g1 g2 hbc hcu hmc hr8 hm8 hr9 hm9 qx qy qxd qyd qyc eRk hkR el el2
                  go_wp2_with (first | (at_builtin; first | refine wpList_append_run rfl _ _ 59 rfl _ _ _ _ rfl rfl (unhide HR8) ?_ | refine wpList_append_run rfl _ _ 59 rfl _ _ _ _ rfl rfl (unhide HR9) ?_))
                  go_round
                  case rel => exact ⟨k + 1, l + 1 + 1, true, p9, c9, by push_cast; rfl, rfl, rfl, by omega, by omega, unhide HN9⟩
                  case measure => simp only [intOf]; omega
              · have hkr2 : k = R.length := by have := unhide HRR; omega
                rw [hkr2] at hinl
                have qx := unhide HWX wr hmq.bel
                cases dn with
                | true =>
                  obtain ⟨t1, t2⟩ := hinl.done (unhide HSRT)
                  have hlr : M.length = r + 1 := by rw [t2.length_eq, List.length_append, unhide HRR]; rfl
                  have HN9 : Hid (∃ R : List Cl, R.length = l ∧ Ml W wr (.slice p11 l c11) R ∧ R.Perm (opP C A s.data.toList t (i + 1)) ∧ Srt3 R) := ⟨M, hMl, unhide HFIN _ _ _ hmq, unhide HPS _ t2, t1⟩
                  have hll : l ≤ r + 1 := by omega
                  clear hinl hmq hrel hkr2 t1 t2 hlr hMl
                  go_wp2_with fail
                  go_round
                  case rel => exact ⟨i + 1, l, p11, c11, by push_cast; rfl, rfl, by omega, by omega, unhide HN9⟩
                  case measure => simp only [intOf]; omega
                | false =>
                  obtain ⟨t1, t2⟩ := hinl.last (unhide HSRT)
                  obtain ⟨p', c', w8, hr8, hm8⟩ := hmq.more (by omega) x 59
                  have hlr : M.length + 1 = r + 1 := by
                    have := t2.length_eq
                    rw [List.length_append, List.length_append, unhide HRR] at this
                    simpa using this
                  have HN9 : Hid (∃ R : List Cl, R.length = l + 1 ∧ Ml W w8 (.slice p' (l + 1) c') R ∧ R.Perm (opP C A s.data.toList t (i + 1)) ∧ Srt3 R) := by
                    rw [hMl] at hm8
                    exact ⟨M ++ [x], by rw [List.length_append, hMl]; rfl, unhide HFIN _ _ _ hm8, unhide HPS _ t2, t1⟩
                  rw [hMl] at hr8
                  have HR8 := hide hr8
                  have hll : l ≤ r := by omega
                  clear hinl hmq hrel hkr2 t1 t2 hlr hMl hr8 hm8
                  go_wp2_with (first | (at_builtin; refine wpList_append_run rfl _ _ 59 rfl _ _ _ _ rfl rfl (unhide HR8) ?_))
                  go_round
                  case rel => exact ⟨i + 1, l + 1, p', c', by push_cast; rfl, rfl, by omega, by omega, unhide HN9⟩
                  case measure => simp only [intOf]; omega
        · have hne := str_ne hac
          have HN2 : Hid (∃ R : List Cl, R.length = r ∧ Ml W w3 (.slice p7 r c7) R ∧ R.Perm (opP C A s.data.toList t (i + 1)) ∧ Srt3 R) := ⟨R, unhide HRR, hm3, by rw [unhide HST2, if_neg (fun h => hac (str_inj h.1)), List.append_nil]; exact unhide HPERM, unhide HSRT⟩
          clear hb3 hm3 hb9w hcc hac a4 f4
          go_wp2_with fail
          go_round
          case rel => exact ⟨i + 1, r, p7, c7, by push_cast; rfl, rfl, by omega, by omega, unhide HN2⟩
          case measure => simp only [intOf]; omega
      · have hin : i = n := by omega
        have HF : Hid (∃ R : List Cl, R.length = r ∧ OpenIs C A s.data.toList t R ∧ Lies kC wr p7 R ∧ Below W.heap.size W wr) := by
          rw [hin, unhide HN] at hperm
          have hrow := hml.row
          rw [hRr] at hrow
          exact ⟨R, hRr, ⟨by rw [unhide HOP]; exact hperm, hsrt⟩, own_lies kC_ok hRr hrow, hml.bel⟩
        clear hml hperm hsrt hRr hrel hin z1
        go_wp2_with fail
        go_ret
        obtain ⟨R, q1, q2, q3, q4⟩ := unhide HF
        exact ⟨p7, c7, R, by rw [q1]; rfl, q2, q3, q4, by omega⟩
end Go.Proofs.YtfclknlpdcanpaaGreatDoor
/- aged: num (13), act (59). -/
namespace Go.Proofs.YtfclknlpdcanpaaGreatDoor
open Go Go.Shelf Go.ChangeShapes Go.WideShapes Go.ChangeAt Go.RowKit Go.Maps
set_option linter.unusedVariables false
theorem num_any (x : Int) (w : World) : Calls Tryz.prog 16 #[.int .i64 x] w fun e w' => e = .returned (.int .i64 x) ∧ w' = w := by
  go_enter Tryz.func16, Tryz.ntmps16
  go_wp2_with fail
  go_ret
  exact ⟨rfl, rfl⟩
end Go.Proofs.YtfclknlpdcanpaaGreatDoor
/- aged: first (11). -/
namespace Go.Proofs.YtfclknlpdcanpaaGreatDoor
open Go Go.Shelf Go.ChangeShapes Go.WideShapes Go.ChangeAt Go.RowKit Go.Maps
set_option linter.unusedVariables false
def c00 : Cl := ⟨⟨#[105]⟩, ⟨#[120]⟩, 10, 20, 100⟩
def x00 : Al := ⟨⟨#[112]⟩, ⟨#[105]⟩, 15, 40⟩
theorem f_inv : invS [] c00 = 0 := by decide
theorem f_all : allS [c00] [] x00 = 0 := by decide
theorem f_adv : advS 0 21 = 0 := by decide
theorem f_now : ag5 (ageS [c00] [x00] [120] 21) = .agg #[.int .i64 0, .int .i64 60, .int .i64 0, .int .i64 0, .int .i64 0] := by
  unfold ag5
  rw [show ageS [c00] [x00] [120] 21 0 = 0 by decide, show ageS [c00] [x00] [120] 21 1 = 60 by decide, show ageS [c00] [x00] [120] 21 2 = 0 by decide, show ageS [c00] [x00] [120] 21 3 = 0 by decide, show ageS [c00] [x00] [120] 21 4 = 0 by decide]
theorem f_at : ag5 (atS [c00] [x00] [120] 14) = .agg #[.int .i64 100, .int .i64 0, .int .i64 0, .int .i64 0, .int .i64 0] := by
  unfold ag5
  rw [show atS [c00] [x00] [120] 14 0 = 100 by decide, show atS [c00] [x00] [120] 14 1 = 0 by decide, show atS [c00] [x00] [120] 14 2 = 0 by decide, show atS [c00] [x00] [120] 14 3 = 0 by decide, show atS [c00] [x00] [120] 14 4 = 0 by decide]
theorem f_open {R : List Cl} (h : OpenIs [c00] [x00] [120] 300 R) : R = [{ c00 with amt := 60 }] := by
  have e : opn [c00] [x00] [120] 300 = [{ c00 with amt := 60 }] := by rfl
  have := h.perm
  rw [e] at this
  exact List.perm_singleton.1 this
theorem ne39a (w : World) : (binOp .neq 74 (.agg #[.int .i64 0, .int .i64 60, .int .i64 0, .int .i64 0, .int .i64 0]) (.agg #[.int .i64 0, .int .i64 60, .int .i64 0, .int .i64 0, .int .i64 0])).run Tryz.prog w = .ok (.bool false) w := by kernel_rfl
theorem ne39b (w : World) : (binOp .neq 74 (.agg #[.int .i64 100, .int .i64 0, .int .i64 0, .int .i64 0, .int .i64 0]) (.agg #[.int .i64 100, .int .i64 0, .int .i64 0, .int .i64 0, .int .i64 0])).run Tryz.prog w = .ok (.bool false) w := by kernel_rfl
theorem Made.below {W w w' : World} {C : List Cl} {A : List Al} {g : Int} (h : Made W w C A g) (hb : Below w.heap.size w w') : Made W w' C A g := by
  obtain ⟨S, h1, h2⟩ := h.vw
  exact ⟨⟨S, h1.below hb, h2⟩, h.bel.trans (hb.mono h.bel.size)⟩
set_option maxRecDepth 100000 in
set_option maxHeartbeats 8000000 in
theorem first_any {W : World} (hS : Stp W) : Calls Tryz.prog 12 #[] W fun e w' => e = .returned (.bool true) ∧ Below W.heap.size W w' := by
  have dN := hide (new_vw (W := W) hS.lt)
  have HS := hide hS
  have dM := hide num_any
  have n1 := ne39a; have n2 := ne39b
  unfold ptr at dN
  clear hS
  go_enter Tryz.func12, Tryz.ntmps12
  go_wp2_with fail
  refine (unhide dN).mono ?_
  rintro e w1 ⟨rfl, hv1, hb1⟩
  have hm1 : Made W w1 [] [] 0 := ⟨⟨_, hv1, fun b hb => by rw [hb]; exact Nat.le_refl _⟩, hb1⟩
  have dI := hide (invoice_any hv1 ((unhide HS).below hb1) (c := c00) (by decide) (by decide) (by decide))
  rw [f_inv] at dI
  have HI : Hid (∀ w', InvOut w1 w' W.heap.size (fun b => b = W.heap.size) [] [] 0 c00 → Made W w' [c00] [] 0) := fun w' h => Made.next hb1 (fun b hb => by rw [hb]; exact Nat.le_refl _) (h.2 f_inv)
  unfold ptr at dI
  unfold c00 at dI
  clear hv1 hb1 dN hm1
  go_wp2_with fail
  refine (unhide dI).mono ?_
  rintro e w2 ⟨rfl, ho⟩
  have hm2 := unhide HI w2 ho
  obtain ⟨S2, hv2, hs2⟩ := hm2.vw
  have dL := hide (allot_any hv2 ((unhide HS).below hm2.bel) (x := x00) (by decide))
  rw [f_all] at dL
  have HL : Hid (∀ w', AllOut w2 w' W.heap.size S2 [c00] [] 0 x00 → Made W w' [c00] [x00] 0) := fun w' h => Made.next hm2.bel hs2 (h.2 f_all)
  unfold ptr x00 at dL
  clear ho hm2 hv2 hs2 dI HI
  go_wp2_with fail
  refine (unhide dM _ _).mono ?_
  rintro e w3 ⟨rfl, hw⟩
  rw [hw]
  clear hw w3
  go_wp2_with fail
  refine (unhide dL).mono ?_
  rintro e w3 ⟨rfl, ho⟩
  have hm3 := unhide HL w3 ho
  obtain ⟨S3, hv3, hs3⟩ := hm3.vw
  have dA := hide (advance_any hv3 ((unhide HS).below hm3.bel) 21)
  rw [f_adv] at dA
  have HA : Hid (∀ w', AdvOut w3 w' W.heap.size S3 [c00] [x00] 0 21 → Made W w' [c00] [x00] 20) := fun w' h => Made.next hm3.bel hs3 (h.2 f_adv)
  unfold ptr at dA
  clear ho hm3 hv3 hs3 dL HL
  go_wp2_with fail
  refine (unhide dM _ _).mono ?_
  rintro e w4 ⟨rfl, hw⟩
  rw [hw]
  clear hw w4
  go_wp2_with fail
  refine (unhide dA).mono ?_
  rintro e w4 ⟨rfl, ho⟩
  have hm4 := unhide HA w4 ho
  obtain ⟨S4, hv4, hs4⟩ := hm4.vw
  have d5 := hide (now_vw hv4 (s := ⟨#[120]⟩) (by decide))
  rw [show (1 : Int) + 20 = 21 from rfl, show (⟨#[120]⟩ : ByteArray).data.toList = [120] from rfl, f_now] at d5
  have HM4 := hide hm4
  unfold ptr at d5
  clear ho hm4 hv4 hs4 dA HA
  go_wp2_with fail
  refine (unhide dM _ _).mono ?_
  rintro e w5 ⟨rfl, hw⟩
  rw [hw]
  clear hw w5
  go_wp2_with fail
  refine (unhide d5).mono ?_
  rintro e w5 ⟨rfl, hb5⟩
  have hm5 := (unhide HM4).below hb5
  obtain ⟨S5, hv5, hs5⟩ := hm5.vw
  have d6 := hide (at_vw hv5 ((unhide HS).below hm5.bel) (s := ⟨#[120]⟩) (by decide) 14)
  rw [show (⟨#[120]⟩ : ByteArray).data.toList = [120] from rfl, f_at] at d6
  have HM5 := hide hm5
  unfold ptr at d6
  clear hb5 hm5 hv5 hs5 d5 HM4
  go_wp2_with fail
  refine (unhide d6).mono ?_
  rintro e w6 ⟨rfl, hb6⟩
  have hm6 := (unhide HM5).below hb6
  obtain ⟨S6, hv6, hs6⟩ := hm6.vw
  have d7 := hide (open_vw hv6 ((unhide HS).below hm6.bel) (s := ⟨#[120]⟩) (by decide) 300)
  rw [show (⟨#[120]⟩ : ByteArray).data.toList = [120] from rfl] at d7
  have HM6 := hide hm6
  unfold ptr at d7
  clear hb6 hm6 hv6 hs6 d6 HM5
  go_wp2_with fail
  refine (unhide d7).mono ?_
  rintro e w7 ⟨pp, cc, R, rfl, hop, hL, hb7, _⟩
  have hR := f_open hop
  subst hR
  have hm7 := (unhide HM6).below hb7
  obtain ⟨S7, hv7, hs7⟩ := hm7.vw
  have d8 := hide (asOf_vw hv7)
  rw [show (1 : Int) + 20 = 21 from rfl] at d8
  obtain ⟨b, off, e7, _, hr⟩ := hL.2 0 (by simp)
  subst e7
  have k4 : w7.cell? ⟨b, off + 4, none⟩ = some (.int .i64 60) := by
    have := hr 4 _ rfl
    simpa using this
  have k0 : w7.cell? ⟨b, off, none⟩ = some (.string ⟨#[105]⟩) := by
    have := hr 0 _ rfl
    simpa [c00] using this
  have HM7 := hide hm7.bel
  unfold ptr at d8
  clear hop hL hb7 hm7 hv7 hs7 hr d7 HM6
  simp only [List.length_singleton]
  go_wp2_with fail
  refine (unhide d8).mono ?_
  rintro e w8 ⟨rfl, hw⟩
  rw [hw]
  clear hw w8
  go_wp2_with fail
  go_ret
  exact ⟨rfl, unhide HM7⟩
end Go.Proofs.YtfclknlpdcanpaaGreatDoor
