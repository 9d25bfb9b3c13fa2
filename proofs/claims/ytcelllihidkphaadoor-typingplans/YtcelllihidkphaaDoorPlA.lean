/- typing: isBareSum 30. -/
import Derived.Test.YtcelllihidkphaaDoorTyZ
import Derived.Test.YtcelllihidkphaaDoorMoN
namespace Go.Proofs.YtcelllihidkphaaDoor
open Go Go.Shelf Go.ChangeShapes Go.WideShapes Go.ChangeAt Go.RowKit Go.Maps
set_option linter.unusedVariables false
set_option maxRecDepth 100000
set_option maxHeartbeats 8000000
theorem rec_nz {op a b : Int} (h : recS op a b ≠ 0) : a ≠ 0 ∧ b ≠ 0 := by
  by_cases hh : ∃ k, k < 11 ∧ rHit k op a b
  · obtain ⟨k, hk, h1, h2, h3⟩ := hh
    rw [← h2, ← h3]
    match k, hk with
    | 0, _ => exact ⟨by decide, by decide⟩
    | 1, _ => exact ⟨by decide, by decide⟩
    | 2, _ => exact ⟨by decide, by decide⟩
    | 3, _ => exact ⟨by decide, by decide⟩
    | 4, _ => exact ⟨by decide, by decide⟩
    | 5, _ => exact ⟨by decide, by decide⟩
    | 6, _ => exact ⟨by decide, by decide⟩
    | 7, _ => exact ⟨by decide, by decide⟩
    | 8, _ => exact ⟨by decide, by decide⟩
    | 9, _ => exact ⟨by decide, by decide⟩
    | 10, _ => exact ⟨by decide, by decide⟩
  · exact absurd (rec_none (fun j hj hr => hh ⟨j, hj, hr⟩)) h
theorem alike_nz {a b : Int} (h : alike a b = true) : a ≠ 0 ∧ b ≠ 0 := by
  unfold alike at h
  by_cases e : a = b
  · rw [if_pos e] at h
    have : a ≠ 0 := by simpa using h
    exact ⟨this, by rw [← e]; exact this⟩
  · rw [if_neg e] at h
    simp only [Bool.or_eq_true, Bool.and_eq_true, beq_iff_eq] at h
    omega
theorem tif_nz {b : Bool} {t : Int} (h : tif b t ≠ 0) : b = true := by
  cases b
  · exact absurd rfl h
  · rfl
theorem pr_nz {op a b : Int} (h : prS op a b ≠ 0) : a ≠ 0 ∧ b ≠ 0 := by
  unfold prS at h
  split at h
  · have := tif_nz h
    simp only [Bool.and_eq_true, beq_iff_eq] at this
    omega
  · split at h
    · exact alike_nz (tif_nz h)
    · split at h
      · have := tif_nz h
        rw [Bool.and_eq_true] at this
        exact alike_nz this.1
      · split at h
        · have := tif_nz h
          simp only [Bool.and_eq_true, beq_iff_eq] at this
          omega
        · exact rec_nz h
theorem tat_nz {T : List Int} {i : Int} (h : tat T i ≠ 0) : 0 ≤ i ∧ i < (T.length : Int) := by
  unfold tat at h
  split at h
  · exact absurd rfl h
  · omega
theorem wf_of {L : List Nd} (h : ∀ t ∈ tyL L, t ≠ 0) : WfN L := fun k hk hop => by
  have h1 : ntS L[k] (tyL (L.take k)) ∈ tyL L := by
    have e : L = (L.take (k + 1)) ++ L.drop (k + 1) := (List.take_append_drop _ _).symm
    have h2 : ∀ (B : List Nd) (T : List Int), ∀ t ∈ T, t ∈ B.foldl (fun T x => T ++ [ntS x T]) T := fun B => by
      induction B with
      | nil => exact fun T t ht => ht
      | cons x B ih => exact fun T t ht => ih _ t (List.mem_append_left _ ht)
    have e2 := congrArg tyL e
    rw [tyL_parts] at e2
    rw [e2]
    exact h2 _ _ _ (by rw [tyL_take L k hk]; simp)
  have h3 := h _ h1
  unfold ntS at h3
  rw [nar_pair hop] at h3
  obtain ⟨h4, h5⟩ := pr_nz h3
  have h6 := tat_nz h4
  have h7 := tat_nz h5
  rw [tyL_len, List.length_take] at h6 h7
  omega
def ofAt (L : List Nd) (i : Int) (f : Int) : Bool := match L[i.toNat]? with | none => false | some y => isOf y f
/-- is it a sum of the amount? -/
def sumS (L : List Nd) (x : Int × Int) : Bool := x.1 == 2 && ofAt L x.2 7
def bareS (q : Qy) : Bool := okQ q && (q.by'.length == 0 && q.sh.all (sumS q.nodes))
attribute [local go_sem ↓] ld32_is ld37_is ld45_is
theorem bare_any {W : World} (hT : Tab W) {q : Qy} {a : Qa} (hq : QIn W q a) : Calls Tryd.prog 30 #[qV q a] W fun e w' => e = .returned (.bool (bareS q)) ∧ Below W.heap.size W w' := by
  obtain ⟨nN, hnN⟩ : ∃ n, n = q.nodes.length := ⟨_, rfl⟩
  obtain ⟨nB, hnB⟩ : ∃ n, n = q.by'.length := ⟨_, rfl⟩
  obtain ⟨nS, hnS⟩ : ∃ n, n = q.sh.length := ⟨_, rfl⟩
  obtain ⟨W1, hW1⟩ : ∃ X, X = W.alloc (.cells (qC q a).toArray 32) := ⟨_, rfl⟩
  have hB1 : Below W.heap.size W W1 := by rw [hW1]; exact Below.a1 W _
  have hlt : W.heap.size < W1.heap.size := by rw [hW1]; simp
  have hb1 : W1.heap[W.heap.size]? = some (.cells (qC q a).toArray 32 (0, 0)) := by rw [hW1]; exact heap_new _ _
  have HC : Hid (∀ X, Below W1.heap.size W1 X → X.heap[W.heap.size]? = some (.cells (qC q a).toArray 32 (0, 0))) := fun X h => (h.block _ hlt).trans hb1
  have l1 := run_ld32 (w := W1) (b := W.heap.size) (o := 0) (q := q) (a := a) (fun j u hu => by rw [Nat.zero_add, cell_at hb1]; simpa using hu)
  have d1 := hide (check_any (hT.below hB1).f (hT.below hB1).m (hT.below hB1).r (hq.below hB1))
  have hW1' : W1 = W.alloc (.cells #[.slice a.pN nN a.cN, .int .i64 q.wh, .slice a.pB nB a.cB, .slice a.pS nS a.cS, .slice a.pO q.ords.length a.cO, .int .i64 q.lim] 32) := by rw [hW1, hnN, hnB, hnS]; rfl
  have hgo : qV q a = .agg #[.slice a.pN nN a.cN, .int .i64 q.wh, .slice a.pB nB a.cB, .slice a.pS nS a.cS, .slice a.pO q.ords.length a.cO, .int .i64 q.lim] := by rw [hnN, hnB, hnS]; rfl
  have HQ := hide (hq.below hB1); have HB1 := hide hB1; have HN := hide hnN; have HNB := hide hnB; have HNS := hide hnS
  have hnS2 : nS ≤ 8800000000000 := by rw [hnS]; exact hq.ns
  have HBS : Hid (bareS q = (okQ q && (nB == 0 && q.sh.all (sumS q.nodes)))) := by show _ = _; unfold bareS; rw [hnB]
  have hE : Hid (chkE q = if okQ q then 0 else 140) := rfl
  obtain ⟨qq, hqq⟩ : ∃ v, v = qV q a := ⟨_, rfl⟩
  rw [← hqq] at l1 d1
  rw [hgo]
  obtain ⟨ok, hok⟩ : ∃ v, v = okQ q := ⟨_, rfl⟩
  rw [← hok] at HBS hE
  have HOK := hide hok
  obtain ⟨E, hEE⟩ : ∃ v, v = chkE q := ⟨_, rfl⟩
  rw [← hEE] at d1 hE
  clear hT hq hB1 hlt hb1 hW1 hgo hqq hnN hnB hnS hok hEE
  go_enter Tryd.func30, Tryd.ntmps30
  go_upto_region 1 with fail
  rw [← hW1']
  clear hW1'
  go_wp2_with fail
  refine (unhide d1).mono ?_
  rintro e w1 ⟨p1, n1, k1, rfl, hr1⟩
  have HB2 := hide hr1.bel
  clear hr1 d1 l1
  have c2 : w1.cell? ⟨W.heap.size, 2, none⟩ = some (.slice a.pB nB a.cB) := by rw [cell_at (unhide HC _ (unhide HB2)), unhide HNB]; rfl
  have c3 : w1.cell? ⟨W.heap.size, 3, none⟩ = some (.slice a.pS nS a.cS) := by rw [cell_at (unhide HC _ (unhide HB2)), unhide HNS]; rfl
  have HBW : Hid (Below W.heap.size W w1) := (unhide HB1).trans ((unhide HB2).mono (unhide HB1).size)
  cases ok with
  | false =>
    have hE' : E = 140 := unhide hE
    subst hE'
    go_wp2_with fail
    go_ret
    exact ⟨by rw [unhide HBS]; rfl, unhide HBW⟩
  | true =>
    have hE' : E = 0 := unhide hE
    subst hE'
    by_cases hB0 : nB = 0
    case neg =>
      have hB1 : (nB : Int) > 0 := by omega
      have hB2 : (nB == 0) = false := by simpa using hB0
      go_wp2_with fail
      go_ret
      exact ⟨by rw [unhide HBS, hB2]; rfl, unhide HBW⟩
    subst hB0
    have HP := hide ((ok_iff q).1 (unhide HOK).symm)
    go_wp2_with fail
    go_loopw [23] (fun v23 wr => ∃ (k : Nat), v23 = .int .i64 k ∧ k ≤ nS ∧ Hid (Below W1.heap.size W1 wr ∧ ∀ x ∈ q.sh.take k, sumS q.nodes x = true)) (fun v23 _ => nS - (intOf v23).toNat)
    case atStart => exact ⟨0, rfl, by omega, unhide HB2, fun x hx => by simp at hx⟩
    case round =>
      obtain ⟨k, rfl, hk, hrel⟩ := hrel
      by_cases hlt : k < nS
      · have hkl : k < q.sh.length := by rw [← unhide HNS]; exact hlt
        obtain ⟨b, off, e1, hbl, hr⟩ := (unhide HQ).s.2 k hkl
        obtain ⟨x, hx⟩ : ∃ x, x = q.sh[k] := ⟨_, rfl⟩
        rw [← hx] at hr
        have hB := (unhide hrel).1
        have l1 := run_ld45 (w := wr) (b := b) (o := off + k * 2) (x := x) (fun j u hu => (hB.cell (p := ⟨b, off + k * 2 + j, none⟩) hbl).trans (hr j u hu))
        have hmem : Hid (x ∈ q.sh) := by rw [hx]; exact List.getElem_mem hkl
        have htk : Hid (∀ y ∈ q.sh.take (k + 1), y ∈ q.sh.take k ∨ y = x) := fun y hy => by
          rw [List.take_succ_eq_append_getElem hkl, List.mem_append, List.mem_singleton, ← hx] at hy
          exact hy
        have hkn : (k : Int) < (nS : Int) := by omega
        obtain ⟨x1, x2⟩ := x
        have hbad : Hid (sumS q.nodes (x1, x2) = false → q.sh.all (sumS q.nodes) = false) := fun h => by rw [List.all_eq_false]; exact ⟨_, unhide hmem, by rw [h]; decide⟩
        simp only at l1
        rw [e1]
        have HUP : Hid (∀ o X, Below (wr.alloc o).heap.size (wr.alloc o) X → Below W1.heap.size W1 X) := fun o X h => hB.trans (((Below.a1 wr o).trans (h.mono (by simp))).mono hB.size)
        have HWB : Hid (∀ X, Below W1.heap.size W1 X → Below W.heap.size W X) := fun X h => (unhide HB1).trans (h.mono (unhide HB1).size)
        clear hr hx hkl hB hbl
        by_cases hx1 : x1 = 2
        · subst hx1
          have hin := (unhide HP).p5 _ (unhide hmem)
          obtain ⟨i1, i2⟩ := shw_in hin (by show ¬ (2 : Int) = 1; decide)
          rw [tyL_len] at i2
          simp only at i1 i2
          obtain ⟨i, hi⟩ : ∃ i : Nat, x2 = i := ⟨x2.toNat, by omega⟩
          subst hi
          have hiN : i < q.nodes.length := by omega
          have hiN' : (i : Int) < (nN : Int) := by rw [unhide HN]; omega
          obtain ⟨bN, oN, eN⟩ : ∃ bN oN, a.pN = some ⟨bN, oN, none⟩ := by
            obtain ⟨bN, oN, eN, _, _⟩ := load_nd (unhide HQ).n hiN (Below.refl _ W1)
            exact ⟨bN, oN, eN⟩
          have HLY : Hid (∀ X, Below W1.heap.size W1 X → (ld37 (.pointer (some ⟨bN, oN + i * 6, none⟩))).run Tryd.prog X = .ok (q.nodes[i]).val X) := fun X h => by
            obtain ⟨b', off', e, q1, _⟩ := load_nd (unhide HQ).n hiN h
            rw [eN] at e
            cases e; exact q1
          have ly : ∀ o, (ld37 (.pointer (some ⟨bN, oN + i * 6, none⟩))).run Tryd.prog (wr.alloc o) = .ok (q.nodes[i]).val (wr.alloc o) := fun o => unhide HLY _ (unhide HUP o _ (Below.refl _ _))
          have cN : ∀ o, (wr.alloc o).cell? ⟨W.heap.size, 0, none⟩ = some (.slice (some ⟨bN, oN, none⟩) nN a.cN) := fun o => by rw [cell_at (unhide HC _ (unhide HUP o _ (Below.refl _ _))), ← eN, unhide HN]; rfl
          have HSM : Hid (sumS q.nodes (2, (i : Int)) = isOf (q.nodes[i]) 7) := by
            show _ = _
            unfold sumS ofAt
            simp only [Int.toNat_natCast, List.getElem?_eq_getElem hiN]
            rfl
          have dI := hide (fun X => isOf_any (q.nodes[i]) 7 X)
          obtain ⟨y, hy⟩ : ∃ y, y = (q.nodes[i]).val := ⟨_, rfl⟩
          obtain ⟨iy, hiy⟩ : ∃ z, z = isOf (q.nodes[i]) 7 := ⟨_, rfl⟩
          rw [← hy] at ly dI
          rw [← hiy] at dI HSM
          clear HLY hy hiy i1 i2 hin eN
          cases iy with
          | false =>
            go_wp2_with fail
            refine (unhide dI _).mono ?_
            rintro e w2 ⟨rfl, hw⟩
            have HW := hide (unhide HUP _ _ hw)
            clear hw
            go_wp2_with fail
            go_ret
            exact ⟨by rw [unhide HBS, unhide hbad (unhide HSM)]; rfl, unhide HWB _ (unhide HW)⟩
          | true =>
            go_wp2_with fail
            refine (unhide dI _).mono ?_
            rintro e w2 ⟨rfl, hw⟩
            have HW := hide (unhide HUP _ _ hw)
            clear hw
            go_wp2_with fail
            refine ⟨⟨k + 1, by go_num, by omega, unhide HW, fun y hy => ?_⟩, by simp [intOf]; omega⟩
            rcases unhide htk y hy with h | h
            · exact (unhide hrel).2 y h
            · rw [h]; exact unhide HSM
        · have hx1' := beqF hx1
          have hx1'' : (x1 != 2) = true := by simpa using hx1
          have HSM : Hid (sumS q.nodes (x1, x2) = false) := by show _ = _; unfold sumS; simp only [hx1']; rfl
          have HW := hide (unhide HUP (.cells #[.int .i64 x1, .int .i64 x2] 45) _ (Below.refl _ _))
          go_wp2_with fail
          go_ret
          exact ⟨by rw [unhide HBS, unhide hbad (unhide HSM)]; rfl, unhide HWB _ (unhide HW)⟩
      · have hkn : k = nS := by omega
        subst hkn
        have hfin : Hid (q.sh.all (sumS q.nodes) = true) := by
          show _ = _
          rw [List.all_eq_true]
          intro x hx
          exact (unhide hrel).2 x (by rw [List.take_of_length_le (by rw [← unhide HNS]; exact Nat.le_refl _)]; exact hx)
        go_wp2_with fail
        go_ret
        exact ⟨by rw [unhide HBS, unhide hfin]; rfl, (unhide HB1).trans ((unhide hrel).1.mono (unhide HB1).size)⟩
/-- the way that Plan says -/
def dlyS (x : P3) : Bool := x.1 == 1 && (decide (0 < x.2.1) && x.2.2 == 0)
def planS (q : Qy) : Int := if bareS q then (if q.wh = -1 then 2 else if twoS q.nodes q.wh.toNat [4, 10] 6 18 then 2 else if dlyS (cndS q) then 3 else 1) else 1
theorem ops2_lie (w : World) (a b : Int) : Lies kI (w.alloc (.cells #[.int .i64 a, .int .i64 b] 3)) (some ⟨w.heap.size, 0, none⟩) [a, b] := by
  refine ⟨(fun h => by cases h), fun k hk => ⟨w.heap.size, 0, rfl, by simp, fun j u hu => ?_⟩⟩
  rw [World.cell?_alloc_mark]
  have hj : j = 0 := by
    have := (List.getElem?_eq_some_iff.1 hu).1
    simpa [kI] using this
  subst hj
  simp only [kI, List.getElem?_cons_zero, Option.some.injEq, Nat.mul_one, Nat.add_zero, Nat.zero_add] at hu ⊢
  subst hu
  match k, hk with
  | 0, _ => rfl
  | 1, _ => rfl
theorem plan_any {W : World} (hT : Tab W) {q : Qy} {a : Qa} (hq : QIn W q a) (hcap : q.nodes.length ≤ a.cN) : Calls Tryd.prog 19 #[qV q a] W fun e w' => e = .returned (.int .i64 (planS q)) ∧ Below W.heap.size W w' := by
  obtain ⟨nN, hnN⟩ : ∃ n, n = q.nodes.length := ⟨_, rfl⟩
  obtain ⟨W1, hW1⟩ : ∃ X, X = W.alloc (.cells (qC q a).toArray 32) := ⟨_, rfl⟩
  have hB1 : Below W.heap.size W W1 := by rw [hW1]; exact Below.a1 W _
  have hlt : W.heap.size < W1.heap.size := by rw [hW1]; simp
  have hb1 : W1.heap[W.heap.size]? = some (.cells (qC q a).toArray 32 (0, 0)) := by rw [hW1]; exact heap_new _ _
  have HC : Hid (∀ X, Below W1.heap.size W1 X → X.heap[W.heap.size]? = some (.cells (qC q a).toArray 32 (0, 0))) := fun X h => (h.block _ hlt).trans hb1
  have HLD : Hid (∀ X, Below W1.heap.size W1 X → (ld32 (.pointer (some ⟨W.heap.size, 0, none⟩))).run Tryd.prog X = .ok (qV q a) X) := fun X h => run_ld32 (fun j u hu => by rw [Nat.zero_add, cell_at (unhide HC X h)]; simpa using hu)
  have l1 := unhide HLD _ (Below.refl _ W1)
  have d1 := hide (bare_any (hT.below hB1) (hq.below hB1))
  have hW1' : W1 = W.alloc (.cells #[.slice a.pN nN a.cN, .int .i64 q.wh, .slice a.pB q.by'.length a.cB, .slice a.pS q.sh.length a.cS, .slice a.pO q.ords.length a.cO, .int .i64 q.lim] 32) := by rw [hW1, hnN]; rfl
  have hgo : qV q a = .agg #[.slice a.pN nN a.cN, .int .i64 q.wh, .slice a.pB q.by'.length a.cB, .slice a.pS q.sh.length a.cS, .slice a.pO q.ords.length a.cO, .int .i64 q.lim] := by rw [hnN]; rfl
  have HQ := hide (hq.below hB1); have HB1 := hide hB1; have HN := hide hnN; have HCAP := hide hcap
  obtain ⟨qq, hqq⟩ : ∃ v, v = qV q a := ⟨_, rfl⟩
  have HQQ := hide hqq
  rw [← hqq] at l1 d1
  rw [hgo]
  have HPL : Hid (planS q = if bareS q then (if q.wh = -1 then 2 else if twoS q.nodes q.wh.toNat [4, 10] 6 18 then 2 else if dlyS (cndS q) then 3 else 1) else 1) := rfl
  obtain ⟨bs, hbs⟩ : ∃ v, v = bareS q := ⟨_, rfl⟩
  rw [← hbs] at d1 HPL
  have HBS := hide hbs
  clear hT hq hB1 hlt hb1 hW1 hgo hqq hnN hbs hcap
  go_enter Tryd.func19, Tryd.ntmps19
  go_upto_region 1 with fail
  rw [← hW1']
  clear hW1'
  go_wp2_with fail
  refine (unhide d1).mono ?_
  rintro e w1 ⟨rfl, hw⟩
  have HB2 := hide hw
  clear hw d1 l1
  have HWB : Hid (∀ X, Below W1.heap.size W1 X → Below W.heap.size W X) := fun X h => (unhide HB1).trans (h.mono (unhide HB1).size)
  cases bs with
  | false =>
    go_wp2_with fail
    go_ret
    exact ⟨by rw [unhide HPL]; rfl, unhide HWB _ (unhide HB2)⟩
  | true =>
    have c1 : w1.cell? ⟨W.heap.size, 1, none⟩ = some (.int .i64 q.wh) := by rw [cell_at (unhide HC _ (unhide HB2))]; rfl
    by_cases hwh : q.wh = -1
    · have hwh' : (q.wh == -1) = true := beqT hwh
      have hfin : Hid (planS q = 2) := by show _ = _; rw [unhide HPL, if_pos rfl, if_pos hwh]
      clear hwh
      go_wp2_with fail
      go_ret
      exact ⟨by rw [unhide hfin]; rfl, unhide HWB _ (unhide HB2)⟩
    · have hok : okQ q = true := by
        have h1 := (unhide HBS).symm
        unfold bareS at h1
        rw [Bool.and_eq_true] at h1
        exact h1.1
      have hP := (ok_iff q).1 hok
      have hw4 : tat (tyL q.nodes) q.wh = 4 := hP.p2.elim (fun e => absurd e hwh) id
      obtain ⟨i1, i2⟩ := tat_nz (T := tyL q.nodes) (i := q.wh) (by rw [hw4]; decide)
      rw [tyL_len] at i2
      have hwf := wf_of hP.p1
      have HCD := hide (fun X (h : Below W1.heap.size W1 X) => cond_any ((unhide HQ).below h) hwf i1 i2 (unhide HCAP))
      obtain ⟨w, hw⟩ : ∃ w : Nat, q.wh = w := ⟨q.wh.toNat, by omega⟩
      have hwL : w < q.nodes.length := by omega
      have d2 := hide (two31 (W := w1.alloc (.cells #[.int .i64 4, .int .i64 10] 3)) (c := a.cN) (co := 2) (unhide HN).symm (((unhide HQ).n.below (unhide HB2)).below (Below.a1 w1 _)) (O := [4, 10]) rfl (ops2_lie w1 4 10) (by decide) hwL (fun h => by
        have := hwf w hwL (by simp at h; omega)
        have := unhide HN
        omega))
      have hwh' := beqF hwh
      have hwn : ¬ (w : Int) = -1 := by omega
      have hwn' := beqF hwn
      have HPL2 : Hid (planS q = if twoS q.nodes w [4, 10] 6 18 then 2 else if dlyS (cndS q) then 3 else 1) := by show _ = _; rw [unhide HPL, if_pos rfl, if_neg hwh, hw, Int.toNat_natCast]
      rw [hw] at c1
      have c0 : ∀ o, (w1.alloc o).cell? ⟨W.heap.size, 0, none⟩ = some (.slice a.pN nN a.cN) ∧ (w1.alloc o).cell? ⟨W.heap.size, 1, none⟩ = some (.int .i64 w) := fun o => by
        have h9 := unhide HC _ ((unhide HB2).alloc (unhide HB2).size o)
        rw [cell_at h9, cell_at h9, unhide HN, ← hw]
        exact ⟨rfl, rfl⟩
      have c0a := fun o => (c0 o).1
      have c0b := fun o => (c0 o).2
      have c00 : w1.cell? ⟨W.heap.size, 0, none⟩ = some (.slice a.pN nN a.cN) := by rw [cell_at (unhide HC _ (unhide HB2)), unhide HN]; rfl
      obtain ⟨tw, htw⟩ : ∃ v, v = twoS q.nodes w [4, 10] 6 18 := ⟨_, rfl⟩
      rw [← htw] at d2 HPL2
      have HUP : Hid (∀ o X, Below (w1.alloc o).heap.size (w1.alloc o) X → Below W1.heap.size W1 X) := fun o X h => (unhide HB2).trans (((Below.a1 w1 o).trans (h.mono (by simp))).mono (unhide HB2).size)
      clear hok hP hw4 i1 i2 hwf hwL htw c0 hw hwh hwh'
      cases tw with
      | true =>
        go_wp2_with fail
        refine (unhide d2).mono ?_
        rintro e w2 ⟨rfl, hw2⟩
        have HW := hide (unhide HUP _ _ hw2)
        clear hw2
        go_wp2_with fail
        go_ret
        exact ⟨by rw [unhide HPL2]; rfl, unhide HWB _ (unhide HW)⟩
      | false =>
        go_wp2_with fail
        refine (unhide d2).mono ?_
        rintro e w2 ⟨rfl, hw2⟩
        have HW := hide (unhide HUP _ _ hw2)
        have l3 := unhide HLD _ (unhide HW)
        have d3 := hide (unhide HCD _ (unhide HW))
        rw [← unhide HQQ] at l3 d3
        have d4 := hide (fun X => daily_any (cndS q) X)
        have HD : Hid (dlyS (cndS q) = ((cndS q).1 == 1 && (decide (0 < (cndS q).2.1) && (cndS q).2.2 == 0))) := rfl
        obtain ⟨x3, hx3⟩ : ∃ v, v = (cndS q).val := ⟨_, rfl⟩
        rw [← hx3] at d3 d4
        rw [← unhide HD] at d4
        obtain ⟨dl, hdl⟩ : ∃ v, v = dlyS (cndS q) := ⟨_, rfl⟩
        rw [← hdl] at d4 HPL2
        clear hw2 hx3 hdl d2
        go_wp2_with fail
        refine (unhide d3).mono ?_
        rintro e w3 ⟨rfl, hw3⟩
        have HW3 := hide ((unhide HW).trans (hw3.mono (unhide HW).size))
        clear hw3
        go_wp2_with fail
        refine (unhide d4 _).mono ?_
        rintro e w4 ⟨rfl, hw4⟩
        have HW4 := hide ((unhide HW3).trans (hw4.mono (unhide HW3).size))
        clear hw4
        cases dl with
        | true =>
          go_wp2_with fail
          go_ret
          exact ⟨by rw [unhide HPL2]; rfl, unhide HWB _ (unhide HW4)⟩
        | false =>
          go_wp2_with fail
          go_ret
          exact ⟨by rw [unhide HPL2]; rfl, unhide HWB _ (unhide HW4)⟩
end Go.Proofs.YtcelllihidkphaaDoor
