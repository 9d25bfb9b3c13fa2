import Derived.Test.YtfclknlpdcanpaaGreatDoorW29
import Derived.Test.YtfclknlpdcanpaaGreatDoorW27
/- The document's From (94), at any lists. -/
namespace Go.Proofs.YtfclknlpdcanpaaGreatDoor
open Go Go.Shelf Go.ChangeShapes Go.WideShapes Go.ChangeAt Go.RowKit Go.Maps
set_option linter.unusedVariables false
/-- lists that a view is made of -/
def FromOk (C : List Cl) (A : List Al) (T : Int) : Prop := dayB T = true ∧ (∀ i (h : i < C.length), invS (C.take i) C[i] = 0) ∧ ∀ i (h : i < A.length), allS C (A.take i) A[i] = 0
/-- the document's view, made since W -/
structure RMade (W w : World) (C : List Cl) (A : List Al) (g : Int) : Prop where
  ex : ∃ S, Rv w W.heap.size S C A g ∧ ∀ b, S b → W.heap.size ≤ b
  bel : Below W.heap.size W w
theorem RMade.next {W w w' : World} {C' : List Cl} {A' : List Al} {g' : Int} {S : Nat → Prop} (hb : Below W.heap.size W w) (hS : ∀ b, S b → W.heap.size ≤ b) (h : RvNext w w' W.heap.size S C' A' g') : RMade W w' C' A' g' := by
  obtain ⟨S', h1, h2, h3⟩ := h
  refine ⟨⟨S', h1, fun b hs => ?_⟩, hb.trans (h2.below hb.size (fun k hk hs => by have := hS k hs; omega))⟩
  rcases h3 b hs with h | h
  · exact hS b h
  · exact Nat.le_trans hb.size h
def RFromOut (W w' : World) (C : List Cl) (A : List Al) (T : Int) (e : Ending) : Prop :=
  (FromOk C A T ∧ e = .returned (.tuple #[.pointer (some ⟨W.heap.size, 0, none⟩), .int .i64 0]) ∧ RMade W w' C A (T - 1)) ∨ (¬ FromOk C A T ∧ e = .returned (.tuple #[.pointer none, .int .i64 80]) ∧ Below W.heap.size W w')
attribute [local go_sem ↓] ld37_is ld51_is
set_option maxRecDepth 100000 in
set_option maxHeartbeats 16000000 in
theorem rfrom_any {W : World} {C : List Cl} {A : List Al} (hk : ∀ c ∈ C, (c.key.size ≤ maxLen ∧ c.acc.size ≤ maxLen) ∧ c.amt ≤ 9223372036854775807) {pc pa : Option Addr} {n m cc ca : Nat} (hn : C.length = n) (hm : A.length = m) (hnb : n ≤ 9223372036854775807) (hmb : m ≤ 9223372036854775807) (hC : Lies kC W pc C) (hA : Lies kA W pa A) (T : Int) :
    Calls Tryz.prog 98 #[.slice pc n cc, .slice pa m ca, .int .i64 T] W fun e w' => RFromOut W w' C A T e := by
  have dD := hide (fun w => rIsDay_any T w)
  have dN := hide (rnew_any W)
  have HK := hide hk; have HN := hide hn; have HM := hide hm; have HC := hide hC; have HA := hide hA
  clear hk hn hm hC hA
  cases hd : dayB T with
  | false =>
    rw [hd] at dD
    have HF : Hid (¬ FromOk C A T) := fun h => by have h1 := h.1; rw [hd] at h1; cases h1
    clear hd
    go_enter Tryz.func98, Tryz.ntmps98
    go_wp2_with fail
    refine (unhide dD _).mono ?_
    rintro e w1 ⟨rfl, hw⟩
    rw [hw]
    clear hw w1 dD
    go_wp2_with fail
    refine bodyPost_ret (v := .tuple #[.pointer none, .int .i64 80]) (by simp [results, Tryz.results98, go_sem, *]) rfl ?_
    exact .inr ⟨unhide HF, rfl, Below.refl _ _⟩
  | true =>
    rw [hd] at dD
    have HDY := hide hd
    have hTb := day_of hd
    clear hd
    go_enter Tryz.func98, Tryz.ntmps98
    go_wp2_with fail
    refine (unhide dD _).mono ?_
    rintro e w1 ⟨rfl, hw⟩
    rw [hw]
    clear hw w1 dD
    go_wp2_with fail
    refine (unhide dN).mono ?_
    rintro e w1 ⟨rfl, hrv, hb1⟩
    have HM1 : Hid (RMade W w1 [] [] 0) := ⟨⟨_, hrv, fun b hb => by rw [hb]; exact Nat.le_refl _⟩, hb1⟩
    clear hrv hb1 dN
    go_wp2_with fail
    go_loopw [9] (fun v9 wr => ∃ (i : Nat), v9 = .int .i64 i ∧ i ≤ n ∧ Hid (RMade W wr (C.take i) [] 0 ∧ (∀ j (h : j < C.length), j < i → invS (C.take j) C[j] = 0) ∧ Good (C.take i) [] 0)) (fun v9 _ => n - (intOf v9).toNat)
    case atStart => exact ⟨0, rfl, by omega, unhide HM1, fun j _ h => by omega, Good.none ⟨by omega, by omega⟩⟩
    case round =>
      obtain ⟨i, rfl, hi, hrel⟩ := hrel
      obtain ⟨hmd, hall, hgood⟩ := unhide hrel
      by_cases hlt : i < n
      · have hiC : i < C.length := by rw [unhide HN]; exact hlt
        obtain ⟨b, off, e, hbl, hrr⟩ := ((unhide HC).below hmd.bel).2 i hiC
        obtain ⟨c, hc⟩ : ∃ c, c = C[i] := ⟨_, rfl⟩
        rw [← hc] at hrr
        have hcC : c ∈ C := by rw [hc]; exact List.getElem_mem hiC
        have hld := run_ld37 (w := wr) (b := b) (o := off + i * 5) (c := c) (fun i v hv => hrr i v hv)
        obtain ⟨S, hrv, hS⟩ := hmd.ex
        have dV := hide (rinvoice_any hrv hgood (c := c) (unhide HK c hcC).2)
        obtain ⟨v, hv⟩ : ∃ v, v = invS (C.take i) c := ⟨_, rfl⟩
        rw [← hv] at dV
        have HV := hide hv
        have HNX : Hid (∀ w', RInvOut wr w' W.heap.size S (C.take i) [] 0 c → v = 0 → RMade W w' (C.take (i + 1)) [] 0 ∧ (∀ j (h : j < C.length), j < i + 1 → invS (C.take j) C[j] = 0) ∧ Good (C.take (i + 1)) [] 0) := fun w' ho h0 => by
          have h1 : invS (C.take i) c = 0 := hv.symm.trans h0
          have e1 : C.take (i + 1) = C.take i ++ [c] := by rw [List.take_succ_eq_append_getElem hiC, ← hc]
          rw [e1]
          refine ⟨RMade.next hmd.bel hS (ho.2 h1), fun j hj hlt => ?_, hgood.more h1 (unhide HK c hcC).1.1 (unhide HK c hcC).1.2 (unhide HK c hcC).2⟩
          rcases Nat.lt_or_ge j i with h | h
          · exact hall j hj h
          · obtain rfl : j = i := by omega
            rw [← hc]
            exact h1
        have HBAD : Hid (∀ w', RInvOut wr w' W.heap.size S (C.take i) [] 0 c → v ≠ 0 → ¬ FromOk C A T ∧ Below W.heap.size W w') := fun w' ho h0 => by
          have h1 : invS (C.take i) c ≠ 0 := fun h => h0 (hv.trans h)
          refine ⟨fun h => h1 (by rw [hc]; exact h.2.1 i hiC), hmd.bel.trans ((ho.1 h1).mono hmd.bel.size)⟩
        subst e
        clear hrr hbl hiC hc hrel hmd hall hgood hrv hS hv
        go_wp2_with fail
        refine (unhide dV).mono ?_
        rintro e w3 ⟨rfl, ho⟩
        have HO := hide ho
        clear ho dV
        by_cases h0 : v = 0
        · have HN3 := hide (unhide HNX w3 (unhide HO) h0)
          rw [h0]
          clear h0 HNX HBAD
          go_wp2_with fail
          go_round
          case rel => exact ⟨i + 1, by push_cast; rfl, by omega, unhide HN3⟩
          case measure => simp only [intOf]; omega
        · have HB3 := hide (unhide HBAD w3 (unhide HO) h0)
          have hb0 : (v == 0) = false := by rw [beq_eq_false_iff_ne]; exact h0
          clear HNX HBAD
          go_wp2_with fail
          refine bodyPost_ret (v := .tuple #[.pointer none, .int .i64 80]) (by simp [results, Tryz.results98, go_sem, *]) rfl ?_
          exact .inr ⟨(unhide HB3).1, rfl, (unhide HB3).2⟩
      · have hin : i = n := by omega
        rw [hin, ← unhide HN, List.take_length] at hmd hgood
        have HM2 := hide hmd; have HG2 := hide hgood
        have HALL : Hid (∀ j (h : j < C.length), invS (C.take j) C[j] = 0) := fun j hj => hall j hj (by rw [hin, ← unhide HN]; exact hj)
        clear hmd hgood hall hrel hin
        go_wp2_with fail
        go_loopw [10] (fun v10 wr => ∃ (i : Nat), v10 = .int .i64 i ∧ i ≤ m ∧ Hid (RMade W wr C (A.take i) 0 ∧ (∀ j (h : j < A.length), j < i → allS C (A.take j) A[j] = 0) ∧ Good C (A.take i) 0)) (fun v10 _ => m - (intOf v10).toNat)
        case atStart => exact ⟨0, rfl, by omega, unhide HM2, fun j _ h => by omega, unhide HG2⟩
        case round =>
          obtain ⟨q, rfl, hq, hrel⟩ := hrel
          obtain ⟨hmd, hall, hgood⟩ := unhide hrel
          by_cases hltq : q < m
          · have hqA : q < A.length := by rw [unhide HM]; exact hltq
            obtain ⟨b, off, e, hbl, hrr⟩ := ((unhide HA).below hmd.bel).2 q hqA
            obtain ⟨x, hx⟩ : ∃ x, x = A[q] := ⟨_, rfl⟩
            rw [← hx] at hrr
            have hld := run_ld51 (w := wr) (b := b) (o := off + q * 4) (x := x) (fun i v hv => hrr i v hv)
            obtain ⟨S, hrv, hS⟩ := hmd.ex
            have dV := hide (rallot_any hrv hgood (x := x))
            obtain ⟨v, hv⟩ : ∃ v, v = allS C (A.take q) x := ⟨_, rfl⟩
            rw [← hv] at dV
            have HNX : Hid (∀ w', RAllOut wr w' W.heap.size S C (A.take q) 0 x → v = 0 → RMade W w' C (A.take (q + 1)) 0 ∧ (∀ j (h : j < A.length), j < q + 1 → allS C (A.take j) A[j] = 0) ∧ Good C (A.take (q + 1)) 0) := fun w' ho h0 => by
              have h1 : allS C (A.take q) x = 0 := hv.symm.trans h0
              have e1 : A.take (q + 1) = A.take q ++ [x] := by rw [List.take_succ_eq_append_getElem hqA, ← hx]
              rw [e1]
              refine ⟨RMade.next hmd.bel hS (ho.2 h1), fun j hj hlt => ?_, hgood.moreA h1⟩
              rcases Nat.lt_or_ge j q with h | h
              · exact hall j hj h
              · obtain rfl : j = q := by omega
                rw [← hx]
                exact h1
            have HBAD : Hid (∀ w', RAllOut wr w' W.heap.size S C (A.take q) 0 x → v ≠ 0 → ¬ FromOk C A T ∧ Below W.heap.size W w') := fun w' ho h0 => by
              have h1 : allS C (A.take q) x ≠ 0 := fun h => h0 (hv.trans h)
              refine ⟨fun h => h1 (by rw [hx]; exact h.2.2 q hqA), hmd.bel.trans ((ho.1 h1).mono hmd.bel.size)⟩
            subst e
            clear hrr hbl hqA hx hrel hmd hall hgood hrv hS hv
            go_wp2_with fail
            refine (unhide dV).mono ?_
            rintro e w3 ⟨rfl, ho⟩
            have HO := hide ho
            clear ho dV
            by_cases h0 : v = 0
            · have HN3 := hide (unhide HNX w3 (unhide HO) h0)
              rw [h0]
              clear h0 HNX HBAD
              go_wp2_with fail
              go_round
              case rel => exact ⟨q + 1, by push_cast; rfl, by omega, unhide HN3⟩
              case measure => simp only [intOf]; omega
            · have HB3 := hide (unhide HBAD w3 (unhide HO) h0)
              have hb0 : (v == 0) = false := by rw [beq_eq_false_iff_ne]; exact h0
              clear HNX HBAD
              go_wp2_with fail
              refine bodyPost_ret (v := .tuple #[.pointer none, .int .i64 80]) (by simp [results, Tryz.results98, go_sem, *]) rfl ?_
              exact .inr ⟨(unhide HB3).1, rfl, (unhide HB3).2⟩
          · have hqm : q = m := by omega
            rw [hqm, ← unhide HM, List.take_length] at hmd
            have hallA : ∀ j (h : j < A.length), allS C (A.take j) A[j] = 0 := fun j hj => hall j hj (by rw [hqm, ← unhide HM]; exact hj)
            obtain ⟨S, hrv, hS⟩ := hmd.ex
            obtain ⟨vc, va, h1, h2, h3, h4, h5, h6⟩ := hrv.ex
            have c2 : wr.cell? ⟨W.heap.size, 2, none⟩ = some (.int .i64 (1 + 0)) := by rw [cell_at h1]; rfl
            have f2 : wr.frozen? ⟨W.heap.size, 2, none⟩ = false := froz_at h1
            obtain ⟨Y, hY⟩ : ∃ Y, Y = wr.setCell ⟨W.heap.size, 2, none⟩ (.int .i64 T) := ⟨_, rfl⟩
            have hne : ∀ b, b ≠ W.heap.size → Y.heap[b]? = wr.heap[b]? := fun b hb => by rw [hY]; exact Below.heap_setCell _ _ _ _ hb
            have hsz : Y.heap.size = wr.heap.size := by rw [hY]; simp
            have e1 : (1 : Int) + (T - 1) = T := by omega
            have HFIN : Hid (FromOk C A T ∧ RMade W Y C A (T - 1)) := by
              refine ⟨⟨unhide HDY, unhide HALL, hallA⟩, ⟨S, ⟨⟨vc, va, ?_, row_keep h2 (fun b hb => hne b (fun e => ?_)), row_keep h3 (fun b hb => hne b (fun e => ?_)), h4, h5, h6⟩, fun b hb => by rw [hsz]; exact hrv.lt b hb⟩, hS⟩, by rw [hY]; exact hmd.bel.setCell (Nat.le_refl _) _⟩
              · rw [hY, Go.heap_setCell_same _ _ _ _ _ _ h1, e1]
                rfl
              · have ty := row_ty h2 hb
                rw [e, ty_of h1] at ty
                cases ty
              · have ty := row_ty h3 hb
                rw [e, ty_of h1] at ty
                cases ty
            have HYY := hide hY
            clear hqm hmd hall hgood hrel hallA hrv hS h1 h2 h3 h4 h5 h6 hY hne hsz e1
            go_wp2_with fail
            rw [← unhide HYY]
            refine bodyPost_ret (v := .tuple #[.pointer (some ⟨W.heap.size, 0, none⟩), .int .i64 0]) (by simp [results, Tryz.results98, go_sem, *]) rfl ?_
            exact .inl ⟨(unhide HFIN).1, rfl, (unhide HFIN).2⟩
end Go.Proofs.YtfclknlpdcanpaaGreatDoor
/- aged: From (20) of a view's own state. -/
namespace Go.Proofs.YtfclknlpdcanpaaGreatDoor
open Go Go.Shelf Go.ChangeShapes Go.WideShapes Go.ChangeAt Go.RowKit Go.Maps
set_option linter.unusedVariables false
/-- a view made since -/
structure Made (W w : World) (C : List Cl) (A : List Al) (g : Int) : Prop where
  vw : ∃ S, Vw w W.heap.size S C A g ∧ ∀ b, S b → W.heap.size ≤ b
  bel : Below W.heap.size W w
theorem Made.next {W w w' : World} {C' : List Cl} {A' : List Al} {g' : Int} {S : Nat → Prop} (hb : Below W.heap.size W w) (hS : ∀ b, S b → W.heap.size ≤ b) (h : VwNext w w' W.heap.size S C' A' g') : Made W w' C' A' g' := by
  obtain ⟨S', h1, h2, h3⟩ := h
  refine ⟨⟨S', h1, fun b hs => ?_⟩, hb.trans (h2.below hb.size (fun k hk hs => by have := hS k hs; omega))⟩
  rcases h3 b hs with h | h
  · exact hS b h
  · exact Nat.le_trans hb.size h
theorem Made.alloc {W w : World} {C : List Cl} {A : List Al} {g : Int} (h : Made W w C A g) (o : Obj) : Made W (w.alloc o) C A g := by
  obtain ⟨S, h1, h2⟩ := h.vw
  exact ⟨⟨S, h1.below ((Below.refl _ _).alloc (Nat.le_refl _) _), h2⟩, h.bel.alloc h.bel.size _⟩
attribute [local go_sem ↓] ld37_is ld51_is
set_option maxRecDepth 100000 in
set_option maxHeartbeats 8000000 in
theorem from_any {W : World} {C : List Cl} {A : List Al} {g : Int} (hG : Good C A g) (hk : ∀ c ∈ C, c.key.size ≤ maxLen ∧ c.acc.size ≤ maxLen) (hi : ∀ a ∈ A, a.inv.size ≤ maxLen) (hS : Stp W) {pc pa : Option Addr} {cc ca n m : Nat} (hn : C.length = n) (hm : A.length = m) (hC : Lies kC W pc C) (hA : Lies kA W pa A) :
    Calls Tryz.prog 97 #[.slice pc n cc, .slice pa m ca, .int .i64 (1 + g)] W fun e w' => e = .returned (.tuple #[ptr W.heap.size, .int .i64 0]) ∧ Made W w' C A g := by
  have dN := hide (new_vw (W := W) hS.lt)
  have hnb : n ≤ 1000 := by rw [← hn]; exact hG.l1
  have hmb : m ≤ 1000 := by rw [← hm]; exact hG.l2
  have HG := hide hG; have HK := hide hk; have HII := hide hi; have HS := hide hS; have HN := hide hn; have HM := hide hm; have HC := hide hC; have HA := hide hA
  obtain ⟨T, hT⟩ : ∃ T, T = 1 + g := ⟨_, rfl⟩
  rw [← hT]
  have HT := hide hT
  unfold ptr at dN ⊢
  clear hG hk hi hS hn hm hC hA hT
  go_enter Tryz.func97, Tryz.ntmps97
  go_wp2_with fail
  refine (unhide dN).mono ?_
  rintro e w1 ⟨rfl, hv1, hb1⟩
  have dA := hide (advance_any hv1 ((unhide HS).below hb1) T)
  have ha0 : advS 0 T = 0 := by rw [unhide HT]; exact (unhide HG).adv0
  rw [ha0] at dA
  have HV1 := hide hv1; have HB1 := hide hb1; have HA0 := hide ha0
  unfold ptr at dA
  clear hv1 hb1 dN ha0
  go_wp2_with fail
  refine (unhide dA).mono ?_
  rintro e w2 ⟨rfl, ho⟩
  have HM2 : Hid (Made W w2 [] [] g) := by
    have h := ho.2 (unhide HA0)
    rw [show T - 1 = g by rw [unhide HT]; omega] at h
    exact Made.next (unhide HB1) (fun b hb => by rw [hb]; exact Nat.le_refl _) h
  clear ho dA
  go_wp2_with fail
  go_loopw [20] (fun v20 wr => ∃ (j : Nat), v20 = .int .i64 j ∧ j ≤ n ∧ Hid (Made W wr (C.take j) [] g)) (fun v20 _ => n - (intOf v20).toNat)
  case atStart => exact ⟨0, rfl, by omega, unhide HM2⟩
  case round =>
    obtain ⟨j, rfl, hj, hrel⟩ := hrel
    have hMd := unhide hrel
    by_cases hlt : j < n
    · have hjl : j < C.length := by rw [unhide HN]; exact hlt
      obtain ⟨b, off, e, hbl, hr⟩ := (unhide HC).2 j hjl
      obtain ⟨c, hc⟩ : ∃ c, c = C[j] := ⟨_, rfl⟩
      have hv0 := (unhide HG).inv0 j hjl
      rw [← hc] at hr hv0
      have hcm : c ∈ C := by rw [hc]; exact List.getElem_mem hjl
      have hld := run_ld37 (w := wr) (b := b) (o := off + j * 5) (c := c) (fun i v hv => (hMd.bel.cell (p := ⟨b, off + j * 5 + i, none⟩) hbl).trans (hr i v hv))
      obtain ⟨X, hX⟩ : ∃ X, X = wr.alloc (.cells #[.string c.key, .string c.acc, .int .i64 c.day, .int .i64 c.due, .int .i64 c.amt] 56) := ⟨_, rfl⟩
      obtain ⟨tb, htb⟩ : ∃ tb, tb = wr.heap.size := ⟨_, rfl⟩
      have hTb : X.heap[tb]? = some (.cells #[.string c.key, .string c.acc, .int .i64 c.day, .int .i64 c.due, .int .i64 c.amt] 56 (0, 0)) := by rw [hX, htb]; exact heap_new _ _
      have hld2 := run_ld37 (w := X) (b := tb) (o := 0) (c := c) (fun i v hv => by
        rw [Nat.zero_add, cell_at hTb]; simpa [Cl.vals] using hv)
      have hMX : Made W X (C.take j) [] g := by rw [hX]; exact hMd.alloc _
      obtain ⟨S, hVX, hSX⟩ := hMX.vw
      have dI := hide (invoice_any hVX ((unhide HS).below hMX.bel) (c := c) (unhide HK c hcm).1 (unhide HK c hcm).2 ((unhide HG).ok c hcm).a2)
      rw [hv0] at dI
      have HREL : Hid (∀ w', InvOut X w' W.heap.size S (C.take j) [] g c → Made W w' (C.take (j + 1)) [] g) := fun w' ho => by
        have h := ho.2 hv0
        rw [List.take_succ_eq_append_getElem hjl, ← hc]
        exact Made.next hMX.bel hSX h
      have HX := hide hX; have HTB := hide htb
      unfold ptr at dI
      subst e
      clear hrel hMd hr hbl hc hcm hTb hMX hVX hSX hv0 hX htb hjl
      go_upto_region 7 with fail
      rw [← unhide HX, ← unhide HTB]
      go_wp2_with fail
      refine (unhide dI).mono ?_
      rintro e w3 ⟨rfl, ho⟩
      have HR3 := hide (unhide HREL w3 ho)
      clear ho dI
      go_wp2_with fail
      exact ⟨⟨j + 1, by simp, by omega, unhide HR3⟩, by simp [intOf]; omega⟩
    · have hjn : j = n := by omega
      subst hjn
      have et : C.take j = C := List.take_of_length_le (by rw [unhide HN]; omega)
      rw [et] at hMd
      have HMD := hide hMd
      clear hMd hrel et
      go_wp2_with fail
      go_loopw [31] (fun v31 wr => ∃ (i : Nat), v31 = .int .i64 i ∧ i ≤ m ∧ Hid (Made W wr C (A.take i) g)) (fun v31 _ => m - (intOf v31).toNat)
      case atStart => exact ⟨0, rfl, by omega, unhide HMD⟩
      case round =>
        obtain ⟨i, rfl, hi, hrel⟩ := hrel
        have hMd := unhide hrel
        by_cases hlt2 : i < m
        · have hjl : i < A.length := by rw [unhide HM]; exact hlt2
          obtain ⟨b, off, e, hbl, hr⟩ := (unhide HA).2 i hjl
          obtain ⟨x, hx⟩ : ∃ x, x = A[i] := ⟨_, rfl⟩
          have hv0 := (unhide HG).all0 i hjl
          rw [← hx] at hr hv0
          have hxm : x ∈ A := by rw [hx]; exact List.getElem_mem hjl
          have hld := run_ld51 (w := wr) (b := b) (o := off + i * 4) (x := x) (fun i' v hv => (hMd.bel.cell (p := ⟨b, off + i * 4 + i', none⟩) hbl).trans (hr i' v hv))
          obtain ⟨X, hX⟩ : ∃ X, X = wr.alloc (.cells #[.string x.pay, .string x.inv, .int .i64 x.day, .int .i64 x.amt] 58) := ⟨_, rfl⟩
          obtain ⟨tb, htb⟩ : ∃ tb, tb = wr.heap.size := ⟨_, rfl⟩
          have hTb : X.heap[tb]? = some (.cells #[.string x.pay, .string x.inv, .int .i64 x.day, .int .i64 x.amt] 58 (0, 0)) := by rw [hX, htb]; exact heap_new _ _
          have hld2 := run_ld51 (w := X) (b := tb) (o := 0) (x := x) (fun i v hv => by
            rw [Nat.zero_add, cell_at hTb]; simpa [Al.vals] using hv)
          have hMX : Made W X C (A.take i) g := by rw [hX]; exact hMd.alloc _
          obtain ⟨S, hVX, hSX⟩ := hMX.vw
          have dI := hide (allot_any hVX ((unhide HS).below hMX.bel) (x := x) (unhide HII x hxm))
          rw [hv0] at dI
          have HREL : Hid (∀ w', AllOut X w' W.heap.size S C (A.take i) g x → Made W w' C (A.take (i + 1)) g) := fun w' ho => by
            have h := ho.2 hv0
            rw [List.take_succ_eq_append_getElem hjl, ← hx]
            exact Made.next hMX.bel hSX h
          have HX := hide hX; have HTB := hide htb
          unfold ptr at dI
          subst e
          clear hrel hMd hr hbl hx hxm hTb hMX hVX hSX hv0 hX htb hjl
          go_upto_region 13 with fail
          rw [← unhide HX, ← unhide HTB]
          go_wp2_with fail
          refine (unhide dI).mono ?_
          rintro e w3 ⟨rfl, ho⟩
          have HR3 := hide (unhide HREL w3 ho)
          clear ho dI
          go_wp2_with fail
          exact ⟨⟨i + 1, by simp, by omega, unhide HR3⟩, by simp [intOf]; omega⟩
        · have hin : i = m := by omega
          subst hin
          have et : A.take i = A := List.take_of_length_le (by rw [unhide HM]; omega)
          rw [et] at hMd
          have HMD := hide hMd
          clear hMd hrel et
          go_wp2_with fail
          go_ret2
          exact ⟨rfl, unhide HMD⟩
end Go.Proofs.YtfclknlpdcanpaaGreatDoor
/- aged: From (93) at any lists. -/
namespace Go.Proofs.YtfclknlpdcanpaaGreatDoor
open Go Go.Shelf Go.ChangeShapes Go.WideShapes Go.ChangeAt Go.RowKit Go.Maps
set_option linter.unusedVariables false
def PFromOut (W w' : World) (C : List Cl) (A : List Al) (T : Int) (e : Ending) : Prop :=
  (FromOk C A T ∧ e = .returned (.tuple #[.pointer (some ⟨W.heap.size, 0, none⟩), .int .i64 0]) ∧ Made W w' C A (T - 1)) ∨ (¬ FromOk C A T ∧ e = .returned (.tuple #[.pointer none, .int .i64 80]) ∧ Below W.heap.size W w')
attribute [local go_sem ↓] ld37_is ld51_is
set_option maxRecDepth 100000 in
set_option maxHeartbeats 16000000 in
theorem pfrom_any {W : World} {C : List Cl} {A : List Al} (hk : ∀ c ∈ C, (c.key.size ≤ maxLen ∧ c.acc.size ≤ maxLen) ∧ c.amt ≤ 9223372036854775807) (hi : ∀ a ∈ A, a.inv.size ≤ maxLen) (hS : Stp W) {pc pa : Option Addr} {cc ca n m : Nat} (hn : C.length = n) (hm : A.length = m) (hnb : n ≤ 9223372036854775807) (hmb : m ≤ 9223372036854775807) (hC : Lies kC W pc C) (hA : Lies kA W pa A) (T : Int) :
    Calls Tryz.prog 97 #[.slice pc n cc, .slice pa m ca, .int .i64 T] W fun e w' => PFromOut W w' C A T e := by
  have dN := hide (new_vw (W := W) hS.lt)
  have HK := hide hk; have HII := hide hi; have HS := hide hS; have HN := hide hn; have HM := hide hm; have HC := hide hC; have HA := hide hA
  unfold ptr at dN
  clear hk hi hS hn hm hC hA
  go_enter Tryz.func97, Tryz.ntmps97
  go_wp2_with fail
  refine (unhide dN).mono ?_
  rintro e w1 ⟨rfl, hv1, hb1⟩
  have dA := hide (advance_any hv1 ((unhide HS).below hb1) T)
  obtain ⟨av, hav⟩ : ∃ av, av = advS 0 T := ⟨_, rfl⟩
  rw [← hav] at dA
  have hday : av = 0 → dayB T = true := fun h => by
    rw [hav] at h
    unfold advS at h
    cases hd : dayB T with
    | true => rfl
    | false => rw [hd] at h; simp at h
  have hday2 : av ≠ 0 → dayB T = false := fun h => by
    cases hd : dayB T with
    | false => rfl
    | true =>
      exfalso
      apply h
      rw [hav]
      have := day_of hd
      unfold advS
      rw [hd, if_neg (by simp), if_neg (by omega)]
  have HB1 := hide hb1; have HV1 := hide hv1; have HAV := hide hav; have HDY := hide hday; have HDN := hide hday2
  unfold ptr at dA
  clear hv1 hb1 dN hav hday hday2
  go_wp2_with fail
  refine (unhide dA).mono ?_
  rintro e w2 ⟨rfl, ho⟩
  by_cases h0 : av = 0
  case neg =>
    have HF : Hid (¬ FromOk C A T ∧ Below W.heap.size W w2) := by
      refine ⟨fun h => ?_, ?_⟩
      · have h1 := h.1
        rw [unhide HDN h0] at h1
        cases h1
      · rw [ho.1 (fun h => h0 ((unhide HAV).trans h))]
        exact unhide HB1
    have hb0 : (av == 0) = false := by rw [beq_eq_false_iff_ne]; exact h0
    clear ho dA
    go_wp2_with fail
    go_ret2
    exact .inr ⟨(unhide HF).1, rfl, (unhide HF).2⟩
  case pos =>
    have HM2 : Hid (Made W w2 [] [] (T - 1)) := Made.next (unhide HB1) (fun b hb => by rw [hb]; exact Nat.le_refl _) (ho.2 ((unhide HAV).symm.trans h0))
    have hTd := unhide HDY h0
    have HTD := hide hTd
    have hTb := day_of hTd
    rw [h0]
    clear ho dA h0 hTd HAV HDY HDN
    go_wp2_with fail
    go_loopw [20] (fun v20 wr => ∃ (j : Nat), v20 = .int .i64 j ∧ j ≤ n ∧ Hid (Made W wr (C.take j) [] (T - 1) ∧ ∀ q (h : q < C.length), q < j → invS (C.take q) C[q] = 0)) (fun v20 _ => n - (intOf v20).toNat)
    case atStart => exact ⟨0, rfl, by omega, unhide HM2, fun q _ h => by omega⟩
    case round =>
      obtain ⟨j, rfl, hj, hrel⟩ := hrel
      obtain ⟨hMd, hall⟩ := unhide hrel
      by_cases hlt : j < n
      · have hjl : j < C.length := by rw [unhide HN]; exact hlt
        obtain ⟨b, off, e, hbl, hr⟩ := (unhide HC).2 j hjl
        obtain ⟨c, hc⟩ : ∃ c, c = C[j] := ⟨_, rfl⟩
        rw [← hc] at hr
        have hcm : c ∈ C := by rw [hc]; exact List.getElem_mem hjl
        have hld := run_ld37 (w := wr) (b := b) (o := off + j * 5) (c := c) (fun i v hv => (hMd.bel.cell (p := ⟨b, off + j * 5 + i, none⟩) hbl).trans (hr i v hv))
        obtain ⟨X, hX⟩ : ∃ X, X = wr.alloc (.cells #[.string c.key, .string c.acc, .int .i64 c.day, .int .i64 c.due, .int .i64 c.amt] 56) := ⟨_, rfl⟩
        obtain ⟨tb, htb⟩ : ∃ tb, tb = wr.heap.size := ⟨_, rfl⟩
        have hTb2 : X.heap[tb]? = some (.cells #[.string c.key, .string c.acc, .int .i64 c.day, .int .i64 c.due, .int .i64 c.amt] 56 (0, 0)) := by rw [hX, htb]; exact heap_new _ _
        have hld2 := run_ld37 (w := X) (b := tb) (o := 0) (c := c) (fun i v hv => by
          rw [Nat.zero_add, cell_at hTb2]; simpa [Cl.vals] using hv)
        have hMX : Made W X (C.take j) [] (T - 1) := by rw [hX]; exact hMd.alloc _
        obtain ⟨S, hVX, hSX⟩ := hMX.vw
        have dI := hide (invoice_any hVX ((unhide HS).below hMX.bel) (c := c) (unhide HK c hcm).1.1 (unhide HK c hcm).1.2 (unhide HK c hcm).2)
        obtain ⟨v, hv⟩ : ∃ v, v = invS (C.take j) c := ⟨_, rfl⟩
        rw [← hv] at dI
        have HREL : Hid (∀ w', InvOut X w' W.heap.size S (C.take j) [] (T - 1) c → v = 0 → Made W w' (C.take (j + 1)) [] (T - 1) ∧ ∀ q (h : q < C.length), q < j + 1 → invS (C.take q) C[q] = 0) := fun w' ho h0 => by
          have h1 : invS (C.take j) c = 0 := hv.symm.trans h0
          refine ⟨?_, fun q hq hlq => ?_⟩
          · rw [List.take_succ_eq_append_getElem hjl, ← hc]
            exact Made.next hMX.bel hSX (ho.2 h1)
          · rcases Nat.lt_or_ge q j with h | h
            · exact hall q hq h
            · obtain rfl : q = j := by omega
              rw [← hc]
              exact h1
        have HBAD : Hid (∀ w', InvOut X w' W.heap.size S (C.take j) [] (T - 1) c → v ≠ 0 → ¬ FromOk C A T ∧ Below W.heap.size W w') := fun w' ho h0 => by
          have h1 : invS (C.take j) c ≠ 0 := fun h => h0 (hv.trans h)
          exact ⟨fun h => h1 (by rw [hc]; exact h.2.1 j hjl), hMX.bel.trans ((ho.1 h1).mono hMX.bel.size)⟩
        have HX := hide hX; have HTB := hide htb
        unfold ptr at dI
        subst e
        clear hrel hMd hall hr hbl hc hcm hTb2 hMX hVX hSX hX htb hjl hv
        go_upto_region 7 with fail
        rw [← unhide HX, ← unhide HTB]
        go_wp2_with fail
        refine (unhide dI).mono ?_
        rintro e w3 ⟨rfl, ho⟩
        have HO := hide ho
        clear ho dI
        by_cases h0 : v = 0
        · have HR3 := hide (unhide HREL w3 (unhide HO) h0)
          rw [h0]
          clear h0 HREL HBAD
          go_wp2_with fail
          exact ⟨⟨j + 1, by simp, by omega, unhide HR3⟩, by simp [intOf]; omega⟩
        · have HR3 := hide (unhide HBAD w3 (unhide HO) h0)
          have hb0 : (v == 0) = false := by rw [beq_eq_false_iff_ne]; exact h0
          clear HREL HBAD
          go_wp2_with fail
          go_ret2
          exact .inr ⟨(unhide HR3).1, rfl, (unhide HR3).2⟩
      · have hjn : j = n := by omega
        rw [hjn, ← unhide HN, List.take_length] at hMd
        have HMD := hide hMd
        have HALL : Hid (∀ q (h : q < C.length), invS (C.take q) C[q] = 0) := fun q hq => hall q hq (by rw [hjn, ← unhide HN]; exact hq)
        clear hMd hrel hall hjn
        go_wp2_with fail
        go_loopw [31] (fun v31 wr => ∃ (i : Nat), v31 = .int .i64 i ∧ i ≤ m ∧ Hid (Made W wr C (A.take i) (T - 1) ∧ ∀ q (h : q < A.length), q < i → allS C (A.take q) A[q] = 0)) (fun v31 _ => m - (intOf v31).toNat)
        case atStart => exact ⟨0, rfl, by omega, unhide HMD, fun q _ h => by omega⟩
        case round =>
          obtain ⟨i, rfl, hi, hrel⟩ := hrel
          obtain ⟨hMd, hall⟩ := unhide hrel
          by_cases hlt2 : i < m
          · have hjl : i < A.length := by rw [unhide HM]; exact hlt2
            obtain ⟨b, off, e, hbl, hr⟩ := (unhide HA).2 i hjl
            obtain ⟨x, hx⟩ : ∃ x, x = A[i] := ⟨_, rfl⟩
            rw [← hx] at hr
            have hxm : x ∈ A := by rw [hx]; exact List.getElem_mem hjl
            have hld := run_ld51 (w := wr) (b := b) (o := off + i * 4) (x := x) (fun i' v hv => (hMd.bel.cell (p := ⟨b, off + i * 4 + i', none⟩) hbl).trans (hr i' v hv))
            obtain ⟨X, hX⟩ : ∃ X, X = wr.alloc (.cells #[.string x.pay, .string x.inv, .int .i64 x.day, .int .i64 x.amt] 58) := ⟨_, rfl⟩
            obtain ⟨tb, htb⟩ : ∃ tb, tb = wr.heap.size := ⟨_, rfl⟩
            have hTb2 : X.heap[tb]? = some (.cells #[.string x.pay, .string x.inv, .int .i64 x.day, .int .i64 x.amt] 58 (0, 0)) := by rw [hX, htb]; exact heap_new _ _
            have hld2 := run_ld51 (w := X) (b := tb) (o := 0) (x := x) (fun i v hv => by
              rw [Nat.zero_add, cell_at hTb2]; simpa [Al.vals] using hv)
            have hMX : Made W X C (A.take i) (T - 1) := by rw [hX]; exact hMd.alloc _
            obtain ⟨S, hVX, hSX⟩ := hMX.vw
            have dI := hide (allot_any hVX ((unhide HS).below hMX.bel) (x := x) (unhide HII x hxm))
            obtain ⟨v, hv⟩ : ∃ v, v = allS C (A.take i) x := ⟨_, rfl⟩
            rw [← hv] at dI
            have HREL : Hid (∀ w', AllOut X w' W.heap.size S C (A.take i) (T - 1) x → v = 0 → Made W w' C (A.take (i + 1)) (T - 1) ∧ ∀ q (h : q < A.length), q < i + 1 → allS C (A.take q) A[q] = 0) := fun w' ho h0 => by
              have h1 : allS C (A.take i) x = 0 := hv.symm.trans h0
              refine ⟨?_, fun q hq hlq => ?_⟩
              · rw [List.take_succ_eq_append_getElem hjl, ← hx]
                exact Made.next hMX.bel hSX (ho.2 h1)
              · rcases Nat.lt_or_ge q i with h | h
                · exact hall q hq h
                · obtain rfl : q = i := by omega
                  rw [← hx]
                  exact h1
            have HBAD : Hid (∀ w', AllOut X w' W.heap.size S C (A.take i) (T - 1) x → v ≠ 0 → ¬ FromOk C A T ∧ Below W.heap.size W w') := fun w' ho h0 => by
              have h1 : allS C (A.take i) x ≠ 0 := fun h => h0 (hv.trans h)
              exact ⟨fun h => h1 (by rw [hx]; exact h.2.2 i hjl), hMX.bel.trans ((ho.1 h1).mono hMX.bel.size)⟩
            have HX := hide hX; have HTB := hide htb
            unfold ptr at dI
            subst e
            clear hrel hMd hall hr hbl hx hxm hTb2 hMX hVX hSX hX htb hjl hv
            go_upto_region 13 with fail
            rw [← unhide HX, ← unhide HTB]
            go_wp2_with fail
            refine (unhide dI).mono ?_
            rintro e w3 ⟨rfl, ho⟩
            have HO := hide ho
            clear ho dI
            by_cases h0 : v = 0
            · have HR3 := hide (unhide HREL w3 (unhide HO) h0)
              rw [h0]
              clear h0 HREL HBAD
              go_wp2_with fail
              exact ⟨⟨i + 1, by simp, by omega, unhide HR3⟩, by simp [intOf]; omega⟩
            · have HR3 := hide (unhide HBAD w3 (unhide HO) h0)
              have hb0 : (v == 0) = false := by rw [beq_eq_false_iff_ne]; exact h0
              clear HREL HBAD
              go_wp2_with fail
              go_ret2
              exact .inr ⟨(unhide HR3).1, rfl, (unhide HR3).2⟩
          · have hin : i = m := by omega
            rw [hin, ← unhide HM, List.take_length] at hMd
            have HFIN : Hid (FromOk C A T ∧ Made W wr C A (T - 1)) := ⟨⟨unhide HTD, unhide HALL, fun q hq => hall q hq (by rw [hin, ← unhide HM]; exact hq)⟩, hMd⟩
            clear hMd hrel hall hin
            go_wp2_with fail
            go_ret2
            exact .inl ⟨(unhide HFIN).1, rfl, (unhide HFIN).2⟩
end Go.Proofs.YtfclknlpdcanpaaGreatDoor
