import Derived.Test.YtfclknlpdcanpaaGreatDoorW29
import Derived.Test.YtfclknlpdcanpaaGreatDoorW23
import Derived.Test.YtfclknlpdcanpaaGreatDoorW27
import Derived.Test.YtfclknlpdcanpaaGreatDoorW24
/- The document's OpenAt (107), At (21). -/
namespace Go.Proofs.YtfclknlpdcanpaaGreatDoor
open Go Go.Shelf Go.ChangeShapes Go.WideShapes Go.ChangeAt Go.RowKit Go.Maps
set_option linter.unusedVariables false
theorem Good.sh {C : List Cl} {A : List Al} {g : Int} (h : Good C A g) {c : Cl} (hc : c ∈ C) (t : Int) : 0 ≤ (shr c (ptsOf A c.key.data.toList) t).2 ∧ (shr c (ptsOf A c.key.data.toList) t).2 ≤ c.amt := by
  have h1 := h.till hc t A.length
  rw [List.take_length] at h1
  have h2 := (h.ok c hc).a1
  unfold shr
  split
  · simp; omega
  · simp; omega
attribute [local go_sem ↓] ld37_is
set_option maxRecDepth 100000 in
set_option maxHeartbeats 8000000 in
theorem ropenAt_any {W : World} {p : Option Addr} {m ca : Nat} {A : List Al} {c : Cl} (hm : A.length = m) (hl : m ≤ 1000000) (hA : Lies kA W p A) (t : Int) (hb : ∀ k, 0 ≤ sumTo (ptsOf (A.take k) c.key.data.toList) t ∧ sumTo (ptsOf (A.take k) c.key.data.toList) t ≤ c.amt) (hc : c.amt ≤ 9223372036854775807) :
    Calls Tryz.prog 111 #[.agg #[.string c.key, .string c.acc, .int .i64 c.day, .int .i64 c.due, .int .i64 c.amt], .slice p m ca, .int .i64 t] W fun e w' => e = .returned (.int .i64 (shr c (ptsOf A c.key.data.toList) t).2) ∧ Below W.heap.size W w' := by
  obtain ⟨X, hX⟩ : ∃ X, X = W.alloc (.cells #[.string c.key, .string c.acc, .int .i64 c.day, .int .i64 c.due, .int .i64 c.amt] 56) := ⟨_, rfl⟩
  obtain ⟨bx, hbx⟩ : ∃ bx, bx = W.heap.size := ⟨_, rfl⟩
  have hbX : Below W.heap.size W X := by rw [hX]; exact (Below.refl _ _).alloc (Nat.le_refl _) _
  have hXb : X.heap[bx]? = some (.cells #[.string c.key, .string c.acc, .int .i64 c.day, .int .i64 c.due, .int .i64 c.amt] 56 (0, 0)) := by rw [hX, hbx]; exact heap_new _ _
  have x2 : X.cell? ⟨bx, 2, none⟩ = some (.int .i64 c.day) := by rw [cell_at hXb]; rfl
  have ld := run_ld37 (w := X) (b := bx) (o := 0) (c := c) (fun i v hv => by rw [Nat.zero_add, cell_at hXb]; simpa [Cl.vals] using hv)
  have dU := hide (runtil_any (W := X) (ca := ca) (c := c) hm hl (hA.below hbX) t hb hc)
  have HX := hide hX; have HBX := hide hbx; have HBB := hide hbX
  obtain ⟨v, hv⟩ : ∃ v, v = (shr c (ptsOf A c.key.data.toList) t).2 := ⟨_, rfl⟩
  rw [← hv]
  by_cases hlt : t < c.day
  · have e : v = 0 := by rw [hv]; unfold shr; rw [if_pos hlt]
    rw [e]
    clear hX hbx hbX hXb hm hA hb hv e dU ld
    go_enter Tryz.func111, Tryz.ntmps111
    go_upto_region 1 with fail
    rw [← unhide HX, ← unhide HBX]
    clear HX
    go_wp2_with fail
    go_ret
    exact ⟨rfl, unhide HBB⟩
  · have e : c.amt - sumTo (ptsOf A c.key.data.toList) t = v := by rw [hv]; unfold shr; rw [if_neg hlt]
    rw [e] at dU
    clear hX hbx hbX hXb hm hA hb hv e
    go_enter Tryz.func111, Tryz.ntmps111
    go_upto_region 1 with fail
    rw [← unhide HX, ← unhide HBX]
    clear HX
    go_wp2_with fail
    refine (unhide dU).mono ?_
    rintro e w1 ⟨rfl, hb1⟩
    have HB1 := hide hb1
    clear hb1 dU
    go_wp2_with fail
    go_ret
    exact ⟨rfl, (unhide HBB).trans ((unhide HB1).mono (unhide HBB).size)⟩
/-- the ages of the first invoices -/
def pS (C : List Cl) (A : List Al) (k : List UInt8) (t : Int) (i j : Nat) : Int := ageS (C.take i) A k t j
theorem pS_succ {C : List Cl} {A : List Al} {k : List UInt8} {t : Int} {i : Nat} (h : i < C.length) (j : Nat) : pS C A k t (i + 1) j = pS C A k t i j + (if C[i].acc.data.toList = k then con (shr C[i] (ptsOf A C[i].key.data.toList) t) j else 0) := by
  unfold pS ageS ofC
  rw [List.take_succ_eq_append_getElem h, List.filter_append]
  generalize (C.take i).filter _ = L
  have happ : ∀ (f : Cl → Int) (L R : List Cl), (L ++ R).foldr (fun c x => f c + x) 0 = L.foldr (fun c x => f c + x) 0 + R.foldr (fun c x => f c + x) 0 := fun f L R => by
    induction L with
    | nil => simp
    | cons c L ih => rw [List.cons_append, List.foldr_cons, List.foldr_cons, ih]; omega
  rw [happ (fun c => con (shr c (ptsOf A c.key.data.toList) t) j)]
  congr 1
  by_cases e : C[i].acc.data.toList = k
  · rw [List.filter_cons, if_pos (by simpa using e), if_pos e]
    show con _ j + 0 = _
    omega
  · rw [List.filter_cons, if_neg (by simpa using e), if_neg e]
    rfl
theorem pS_bounds {C : List Cl} {A : List Al} {g : Int} (h : Good C A g) (k : List UInt8) (t : Int) (j : Nat) (i : Nat) (hi : i ≤ C.length) : 0 ≤ pS C A k t i j ∧ pS C A k t i j ≤ sumC (C.take i) := by
  induction i with
  | zero => exact ⟨Int.le_refl _, Int.le_refl _⟩
  | succ i ih =>
    have h1 := ih (by omega)
    have hi' : i < C.length := by omega
    rw [pS_succ hi', sumC_take hi']
    have h2 := con_bounds (a := C[i].amt) (h.sh (List.getElem_mem hi') t) j
    have h3 := (h.ok C[i] (List.getElem_mem hi')).a1
    split <;> omega
structure RAtR (W wr : World) (f : Nat → Int) : Prop where
  bel : Below W.heap.size W wr
  r : wr.heap[W.heap.size]? = some (obj5 fun _ => 0)
  a : wr.heap[W.heap.size + 1]? = some (obj5 f)
theorem RAtR.below {W wr w' : World} {f : Nat → Int} (h : RAtR W wr f) (hb : Below wr.heap.size wr w') : RAtR W w' f :=
  ⟨h.bel.trans (hb.mono h.bel.size), (hb.block _ (heap_lt h.r)).trans h.r, (hb.block _ (heap_lt h.a)).trans h.a⟩
theorem con_at {c : Cl} {P : Pts} {t : Int} (hd : c.day ≤ c.due) (j : Nat) : (if j = (ageOf c.due t).toNat then (shr c P t).2 else 0) = con (shr c P t) j := by
  have hb := ageOf_bounds c.due t
  unfold con shr
  by_cases h : t < c.day
  · rw [if_pos h]
    split <;> split <;> rfl
  · rw [if_neg h]
    show (if j = (ageOf c.due t).toNat then c.amt - sumTo P t else 0) = if (j : Int) = ageOf c.due t then c.amt - sumTo P t else 0
    by_cases e : j = (ageOf c.due t).toNat
    · rw [if_pos e, if_pos (by omega)]
    · rw [if_neg e, if_neg (by omega)]
attribute [local go_sem ↓] ld37_is ld39_is st39_is
set_option maxRecDepth 100000 in
set_option maxHeartbeats 16000000 in
theorem rat_any {W : World} {d : Nat} {S : Nat → Prop} {C : List Cl} {A : List Al} {g : Int} (hR : Rv W d S C A g) (hG : Good C A g) (s : ByteArray) (t : Int) :
    Calls Tryz.prog 25 #[.pointer (some ⟨d, 0, none⟩), .string s, .int .i64 t] W fun e w' => e = .returned (ag5 (atS C A s.data.toList t)) ∧ Below W.heap.size W w' := by
  obtain ⟨vc, va, h1, h2, h3, h4, h5, h6⟩ := hR.ex
  obtain ⟨pc, cc, evc, _⟩ := row_slice h2
  obtain ⟨pa, ca, eva, _⟩ := row_slice h3
  obtain ⟨X, hX⟩ : ∃ X, X = (W.alloc (obj5 fun _ => 0)).alloc (obj5 fun _ => 0) := ⟨_, rfl⟩
  have hbX : Below W.heap.size W X := by rw [hX]; exact ((Below.refl _ _).alloc (Nat.le_refl _) _).alloc (by simp) _
  obtain ⟨n, hn⟩ : ∃ n, n = C.length := ⟨_, rfl⟩
  obtain ⟨m, hm⟩ : ∃ m, m = A.length := ⟨_, rfl⟩
  have hnb : n ≤ 1000 := by rw [hn]; exact hG.l1
  have hmb : m ≤ 1000 := by rw [hm]; exact hG.l2
  have hdl := heap_lt h1
  have HD : Hid (∀ w', Below W.heap.size W w' → w'.cell? ⟨d, 0, none⟩ = some (.slice pc n cc) ∧ w'.cell? ⟨d, 1, none⟩ = some (.slice pa m ca)) := fun w' hb => by
    have h := (hb.block d hdl).trans h1
    rw [cell_at h, cell_at h, evc, eva, hn, hm]
    exact ⟨rfl, rfl⟩
  have hLC : Lies kC W pc C := by
    have h := h2
    rw [evc] at h
    exact own_lies kC_ok rfl h
  have hLA : Lies kA W pa A := by
    have h := h3
    rw [eva] at h
    exact own_lies kA_ok rfl h
  have HST : Hid (RAtR W X (pS C A s.data.toList t 0)) := by
    refine ⟨hbX, ?_, ?_⟩
    · rw [hX, Below.heap_alloc _ _ _ (by simp)]; exact heap_new _ _
    · rw [hX]; exact heap_at (by simp)
  have dD := hide (fun w => rIsDay_any t w)
  obtain ⟨rb, hrb⟩ : ∃ rb, rb = W.heap.size := ⟨_, rfl⟩
  have HX : Hid (X = (W.alloc (obj5 fun _ => 0)).alloc (obj5 fun _ => 0)) := hX
  have HRB := hide hrb; have HN := hide hn; have HM := hide hm; have HG := hide hG; have HLC := hide hLC; have HLA := hide hLA
  unfold obj5 at HX
  clear hR h1 h2 h3 h4 h5 h6 evc eva hX hbX hn hm hdl hLC hLA hG hrb
  cases hd : dayB t with
  | false =>
    rw [hd] at dD
    have e0 : atS C A s.data.toList t = fun _ => 0 := funext fun j => by unfold atS; rw [hd]; simp
    rw [e0]
    have hA0 := unhide HST
    have hld := run_ld39 (w := X) (b := W.heap.size + 1) (o := 0) (f := fun _ => 0) (fun i v hv => by
      have ha := hA0.a
      have e1 : pS C A s.data.toList t 0 = fun _ => 0 := rfl
      rw [e1] at ha
      unfold obj5 at ha
      rw [Nat.zero_add, cell_at ha]; simpa [five] using hv)
    have hst := run_st39 (there5 hA0.r) (fun _ => 0)
    obtain ⟨Y, hY⟩ : ∃ Y, Y = X.setCells W.heap.size 0 (five fun _ => 0) := ⟨_, rfl⟩
    rw [← hY] at hst
    have hr5 : Y.heap[W.heap.size]? = some (obj5 fun _ => 0) := by rw [hY]; exact set5 hA0.r _
    have HB5 : Hid (Below W.heap.size W Y) := by show Below _ _ _; rw [hY]; exact below5 (w := X) (Nat.le_refl _) (five fun _ => 0) 0 W X hA0.bel
    have y0 := cell5 (n := 0) hr5 (by omega); have y1 := cell5 (n := 1) hr5 (by omega); have y2 := cell5 (n := 2) hr5 (by omega); have y3 := cell5 (n := 3) hr5 (by omega); have y4 := cell5 (n := 4) hr5 (by omega)
    unfold ag5 at hld hst
    clear hd e0 hA0 hr5 hY
    go_enter Tryz.func25, Tryz.ntmps25
    go_upto_region 2 with fail
    rw [← unhide HX]
    clear HX
    go_wp2_with fail
    refine (unhide dD _).mono ?_
    rintro e w1 ⟨rfl, hw⟩
    rw [hw]
    clear hw w1 dD
    go_wp2_with fail
    refine bodyPost_ret (v := .agg #[.int .i64 0, .int .i64 0, .int .i64 0, .int .i64 0, .int .i64 0]) (by simp [results, Tryz.results25, go_sem, *]) rfl ⟨rfl, unhide HB5⟩
  | true =>
    rw [hd] at dD
    have htb : 1 ≤ t ∧ t ≤ 3652059 := by
      unfold dayB at hd
      rw [Bool.and_eq_true, decide_eq_true_eq, decide_eq_true_eq] at hd
      exact hd
    have HAT : Hid (atS C A s.data.toList t = pS C A s.data.toList t C.length) := by
      show _ = _
      refine funext fun j => ?_
      unfold atS pS
      rw [hd, if_pos rfl, List.take_length]
    clear hd
    go_enter Tryz.func25, Tryz.ntmps25
    go_upto_region 2 with fail
    rw [← unhide HX]
    clear HX
    go_wp2_with fail
    refine (unhide dD _).mono ?_
    rintro e w1 ⟨rfl, hw⟩
    rw [hw]
    clear hw w1 dD
    go_wp2_with fail
    go_loopw [8] (fun v8 wr => ∃ (i : Nat), v8 = .int .i64 i ∧ i ≤ n ∧ Hid (RAtR W wr (pS C A s.data.toList t i))) (fun v8 _ => n - (intOf v8).toNat)
    case atStart => exact ⟨0, rfl, by omega, unhide HST⟩
    case round =>
      obtain ⟨i, rfl, hi, hrel⟩ := hrel
      obtain ⟨z0, z1⟩ := unhide HD wr (unhide hrel).bel
      by_cases hlt : i < n
      · have hiC : i < C.length := by rw [← unhide HN]; exact hlt
        obtain ⟨b, off, e, hbl, hrr⟩ := ((unhide HLC).below (unhide hrel).bel).2 i hiC
        obtain ⟨c, hc⟩ : ∃ c, c = C[i] := ⟨_, rfl⟩
        have hst := fun j => pS_succ (C := C) (A := A) (k := s.data.toList) (t := t) hiC j
        rw [← hc] at hrr
        have hcC : c ∈ C := by rw [hc]; exact List.getElem_mem hiC
        have k1 : wr.cell? ⟨b, off + i * 5 + 1, none⟩ = some (.string c.acc) := hrr 1 _ rfl
        have k3 : wr.cell? ⟨b, off + i * 5 + 3, none⟩ = some (.int .i64 c.due) := hrr 3 _ rfl
        rw [← hc] at hst
        have HST2 := hide hst
        by_cases hac : c.acc = s
        · rw [hac] at k1
          have hbt : (s.toList == s.toList) = true := by simp
          have hok := (unhide HG).ok c hcC
          have hd1 := hok.d1; have hd2 := hok.d2; have hd3 := hok.d3
          have dG := hide (fun w => ageAt_any (due := c.due) (t := t) (by omega) (by omega) w)
          have hab := ageOf_bounds c.due t
          obtain ⟨s1, hs1⟩ : ∃ s1, s1 = ageOf c.due t := ⟨_, rfl⟩
          rw [← hs1] at dG hab
          obtain ⟨n1, hn1⟩ : ∃ n1, n1 = s1.toNat := ⟨_, rfl⟩
          have hs1t : s1.toNat = n1 := hn1.symm
          have hn14 : n1 ≤ 4 := by omega
          have hs10 : 0 ≤ s1 := hab.1
          have hs15 : s1 < 5 := by omega
          obtain ⟨V, hV⟩ : ∃ V, V = wr.drew := ⟨_, rfl⟩
          have hAV : RAtR W V (pS C A s.data.toList t i) := by rw [hV]; exact (unhide hrel).below ((Below.refl _ _).drew)
          have dO := hide (ropenAt_any (W := V) (ca := ca) (c := c) (unhide HM).symm (by omega) ((unhide HLA).below hAV.bel) t (fun k => (unhide HG).till hcC t k) hok.a2)
          obtain ⟨o, ho⟩ : ∃ o, o = (shr c (ptsOf A c.key.data.toList) t).2 := ⟨_, rfl⟩
          rw [← ho] at dO
          obtain ⟨x0, hx0⟩ : ∃ x0, x0 = pS C A s.data.toList t i n1 := ⟨_, rfl⟩
          have HCI : Hid (∃ h : i < C.length, C[i] = c) := ⟨hiC, hc.symm⟩
          have HW : Hid (∀ w', RAtR W w' (pS C A s.data.toList t i) → w'.cell? ⟨W.heap.size + 1, n1, none⟩ = some (.int .i64 x0) ∧ w'.cell? ⟨d, 0, none⟩ = some (.slice (some ⟨b, off, none⟩) n cc) ∧ w'.cell? ⟨d, 1, none⟩ = some (.slice pa m ca) ∧ (ld37 (.pointer (some ⟨b, off + i * 5, none⟩))).run Tryz.prog w' = .ok (.agg #[.string c.key, .string c.acc, .int .i64 c.day, .int .i64 c.due, .int .i64 c.amt]) w') := fun w' h => by
            obtain ⟨q0, q1⟩ := unhide HD w' h.bel
            rw [e] at q0
            refine ⟨by rw [hx0]; exact cell5 h.a hn14, q0, q1, run_ld37 (c := c) (fun j v hv => ?_)⟩
            obtain ⟨h1, h2⟩ := unhide HCI
            obtain ⟨b', off', e', _, hr'⟩ := ((unhide HLC).below h.bel).2 i h1
            rw [e] at e'
            cases e'
            rw [h2] at hr'
            exact hr' j v hv
          have hps := pS_bounds (unhide HG) s.data.toList t n1 i (by omega)
          have hps2 := pS_bounds (unhide HG) s.data.toList t n1 (i + 1) (by omega)
          have hsp := sumC_part (C := C) (fun x hx => by have := ((unhide HG).ok x hx).a1; omega) (i + 1)
          have htot := (unhide HG).tot
          have hcon : ∀ j, pS C A s.data.toList t (i + 1) j = if j = n1 then x0 + o else pS C A s.data.toList t i j := fun j => by
            rw [hst j, if_pos (by rw [hac]), ← con_at hd3, ← hs1, ← hn1, ← ho]
            by_cases ej : j = n1
            · rw [if_pos ej, if_pos ej, hx0, ej]
            · rw [if_neg ej, if_neg ej, Int.add_zero]
          have hn1b := hcon n1
          rw [if_pos rfl] at hn1b
          have hwr : IntKind.i64.wrap (x0 + o) = x0 + o := by rw [IntKind.wrap_i64]; omega
          have HNX : Hid (∀ w', RAtR W w' (pS C A s.data.toList t i) → RAtR W (w'.setCell ⟨W.heap.size + 1, n1, none⟩ (.int .i64 (x0 + o))) (pS C A s.data.toList t (i + 1)) ∧ w'.frozen? ⟨W.heap.size + 1, n1, none⟩ = false) := fun w' h => by
            refine ⟨⟨h.bel.setCell (by show W.heap.size ≤ W.heap.size + 1; omega) _, ?_, ?_⟩, froz5 h.a⟩
            · rw [Below.heap_setCell _ _ _ _ (by show W.heap.size ≠ W.heap.size + 1; omega)]; exact h.r
            · rw [upd5 h.a hn14]
              exact congrArg (fun g => some (obj5 g)) (funext fun j => (hcon j).symm)
          have HAV := hide hAV
          have hq := unhide HW V hAV
          subst e
          have HV := hide hV
          clear hrr hbl hiC hc hst hrel HST2 hok hd1 hd2 hd3 hs1 hn1 hAV ho hx0 hps hps2 hsp htot hcon hn1b hV hab hac
          go_wp2_with fail
          refine (unhide dG _).mono ?_
          rintro e w2 ⟨rfl, hw⟩
          rw [hw]
          clear hw w2 dG
          go_upto_region 9 with fail
          refine wp_region_last (n := 19) (S := fun W' => W'.cell? ⟨W.heap.size + 1, n1, none⟩ = some (.int .i64 x0) ∧ W'.cell? ⟨d, 0, none⟩ = some (.slice (some ⟨b, off, none⟩) n cc) ∧ W'.cell? ⟨d, 1, none⟩ = some (.slice pa m ca) ∧ (ld37 (.pointer (some ⟨b, off + i * 5, none⟩))).run Tryz.prog W' = .ok (.agg #[.string c.key, .string c.acc, .int .i64 c.day, .int .i64 c.due, .int .i64 c.amt]) W') (by kernel_rfl) (by rw [← unhide HV]; exact hq) (fun hHeld => ?_)
          rw [← unhide HV] at hHeld ⊢
          clear hq
          refine tkW 0 ?_; refine tkW 1 ?_; refine tkW 2 ?_; refine tkS 3 ?_; refine tkW 4 ?_; refine tkW 5 ?_; refine tkW 6 ?_; refine tkS 7 ?_; refine tkW 8 ?_; refine tkW 9 ?_; refine tkS 10 ?_; refine tkW 11 ?_; refine tkW 12 ?_; refine tkW 13 ?_; refine tkS 14 ?_; refine tkW 15 ?_
          refine wpAnyL_one (i := 16) (by kernel_rfl) rfl (fun KK hK => ?_)
          go_simp
          go_wp2_with (first | (go_at_call 111; refine (unhide dO).mono ?_; rintro e w3 ⟨rfl, hb3⟩))
          have HA3 := hide ((unhide HAV).below hb3)
          clear hb3
          refine hK.out _ _ (by exact unhide HW _ (unhide HA3)) (fun hHeld => ?_)
          clear hK KK dO
          refine tkW 17 ?_; refine tkW 18 ?_
          obtain ⟨ka, _⟩ := hHeld
          obtain ⟨hnx, kf⟩ := unhide HNX _ (unhide HA3)
          have HNX2 := hide hnx
          clear hnx
          refine wpAnyL_past (i := 19) (by kernel_rfl) rfl (by kernel_rfl) (fun KK hK => ?_)
          go_simp
          refine hK.out _ _ ?_
          clear hK KK
          refine wpAnyL_done (by kernel_rfl) ?_
          go_wp2_with fail
          go_round
          case rel => exact ⟨i + 1, by push_cast; rfl, by omega, unhide HNX2⟩
          case measure => simp only [intOf]; omega
        · have hne := str_ne hac
          have HN2 : Hid (RAtR W wr (pS C A s.data.toList t (i + 1))) := by
            have e1 : pS C A s.data.toList t (i + 1) = pS C A s.data.toList t i := funext fun j => by
              rw [hst j, if_neg (fun h => hac (str_inj h)), Int.add_zero]
            show RAtR _ _ _
            rw [e1]
            exact unhide hrel
          subst e
          clear hrr hbl hiC hc hst hrel HST2
          go_wp2_with fail
          go_round
          case rel => exact ⟨i + 1, by push_cast; rfl, by omega, unhide HN2⟩
          case measure => simp only [intOf]; omega
      · have hin : i = n := by omega
        have hA0 := unhide hrel
        rw [hin, unhide HN, ← unhide HAT] at hA0
        obtain ⟨F, hF⟩ : ∃ F : Nat → Int, F = atS C A s.data.toList t := ⟨_, rfl⟩
        rw [← hF] at hA0
        have HFF : Hid (ag5 F = ag5 (atS C A s.data.toList t)) := by show _ = _; rw [hF]
        have hld := run_ld39 (w := wr) (b := W.heap.size + 1) (o := 0) (f := F) (fun i v hv => by
          have ha := hA0.a
          unfold obj5 at ha
          rw [Nat.zero_add, cell_at ha]; simpa [five] using hv)
        have hst := run_st39 (there5 hA0.r) F
        obtain ⟨Y, hY⟩ : ∃ Y, Y = wr.setCells W.heap.size 0 (five F) := ⟨_, rfl⟩
        rw [← hY] at hst
        have hr5 : Y.heap[W.heap.size]? = some (obj5 F) := by rw [hY]; exact set5 hA0.r F
        have HB5 : Hid (Below W.heap.size W Y) := by show Below _ _ _; rw [hY]; exact below5 (w := wr) (Nat.le_refl _) (five F) 0 W wr hA0.bel
        have y0 := cell5 (n := 0) hr5 (by omega); have y1 := cell5 (n := 1) hr5 (by omega); have y2 := cell5 (n := 2) hr5 (by omega); have y3 := cell5 (n := 3) hr5 (by omega); have y4 := cell5 (n := 4) hr5 (by omega)
        unfold ag5 at hld hst
        clear hA0 hr5 hY hF hrel hin
        go_wp2_with fail
        refine bodyPost_ret (v := .agg #[.int .i64 (F 0), .int .i64 (F 1), .int .i64 (F 2), .int .i64 (F 3), .int .i64 (F 4)]) (by simp [results, Tryz.results25, go_sem, *]) rfl ⟨congrArg Ending.returned (unhide HFF), unhide HB5⟩
end Go.Proofs.YtfclknlpdcanpaaGreatDoor
/- The document's Ahead (190). -/
namespace Go.Proofs.YtfclknlpdcanpaaGreatDoor
open Go Go.Shelf Go.ChangeShapes Go.WideShapes Go.ChangeAt Go.RowKit Go.Maps
set_option linter.unusedVariables false
set_option maxRecDepth 100000 in
set_option maxHeartbeats 8000000 in
theorem rahead_any (x y : Cl) (W : World) :
    Calls Tryz.prog 194 #[.agg #[.string x.key, .string x.acc, .int .i64 x.day, .int .i64 x.due, .int .i64 x.amt], .agg #[.string y.key, .string y.acc, .int .i64 y.day, .int .i64 y.due, .int .i64 y.amt]] W fun e w' => ∃ bb : Bool, e = .returned (.bool bb) ∧ (bb = true ↔ Lt3 x y) ∧ Below W.heap.size W w' := by
  obtain ⟨X, hX⟩ : ∃ X, X = (W.alloc (.cells #[.string x.key, .string x.acc, .int .i64 x.day, .int .i64 x.due, .int .i64 x.amt] 56)).alloc (.cells #[.string y.key, .string y.acc, .int .i64 y.day, .int .i64 y.due, .int .i64 y.amt] 56) := ⟨_, rfl⟩
  have hbX : Below W.heap.size W X := by rw [hX]; exact ((Below.refl _ _).alloc (Nat.le_refl _) _).alloc (by simp) _
  have hb1 : X.heap[W.heap.size]? = some (.cells #[.string x.key, .string x.acc, .int .i64 x.day, .int .i64 x.due, .int .i64 x.amt] 56 (0, 0)) := by rw [hX, Below.heap_alloc _ _ _ (by simp)]; exact heap_new _ _
  have hb2 : X.heap[W.heap.size + 1]? = some (.cells #[.string y.key, .string y.acc, .int .i64 y.day, .int .i64 y.due, .int .i64 y.amt] 56 (0, 0)) := by rw [hX]; exact heap_at (by simp)
  have x0 : X.cell? ⟨W.heap.size, 0, none⟩ = some (.string x.key) := by rw [cell_at hb1]; rfl
  have x2 : X.cell? ⟨W.heap.size, 2, none⟩ = some (.int .i64 x.day) := by rw [cell_at hb1]; rfl
  have x3 : X.cell? ⟨W.heap.size, 3, none⟩ = some (.int .i64 x.due) := by rw [cell_at hb1]; rfl
  have y0 : X.cell? ⟨W.heap.size + 1, 0, none⟩ = some (.string y.key) := by rw [cell_at hb2]; rfl
  have y2 : X.cell? ⟨W.heap.size + 1, 2, none⟩ = some (.int .i64 y.day) := by rw [cell_at hb2]; rfl
  have y3 : X.cell? ⟨W.heap.size + 1, 3, none⟩ = some (.int .i64 y.due) := by rw [cell_at hb2]; rfl
  have HX := hide hX; have HB := hide hbX
  have e1 : Op.bytesLess x.key.toList y.key.toList = decide (x.key.data.toList < y.key.data.toList) := by rw [bytesLess_eq, ByteArray.toList_eq, ByteArray.toList_eq]
  clear hX hbX hb1 hb2
  by_cases h1 : x.due = y.due
  · have hd1 : (x.due == y.due) = true := by rw [beq_iff_eq]; exact h1
    have hd1' : (x.due != y.due) = false := by simp [h1]
    by_cases h2 : x.day = y.day
    · have hd2 : (x.day == y.day) = true := by rw [beq_iff_eq]; exact h2
      by_cases h3 : x.key.data.toList < y.key.data.toList
      · rw [decide_eq_true h3] at e1
        have HL : Hid (Lt3 x y) := .inr ⟨h1, .inr ⟨h2, h3⟩⟩
        rw [h1] at x3
        rw [h2] at x2
        clear h1 h2 h3 hd1 hd1' hd2
        go_enter Tryz.func194, Tryz.ntmps194
        go_upto_region 1 with fail
        rw [← unhide HX]
        go_wp2_with fail
        go_ret
        exact ⟨true, rfl, ⟨fun _ => unhide HL, fun _ => rfl⟩, unhide HB⟩
      · rw [decide_eq_false h3] at e1
        have HL : Hid (¬ Lt3 x y) := fun h => by
          rcases h with h | ⟨_, h | ⟨_, h⟩⟩
          · omega
          · omega
          · exact h3 h
        rw [h1] at x3
        rw [h2] at x2
        clear h1 h2 h3 hd1 hd1' hd2
        go_enter Tryz.func194, Tryz.ntmps194
        go_upto_region 1 with fail
        rw [← unhide HX]
        go_wp2_with fail
        go_ret
        exact ⟨false, rfl, ⟨fun h => (by cases h), fun h => absurd h (unhide HL)⟩, unhide HB⟩
    · have hd2 : (x.day == y.day) = false := by rw [beq_eq_false_iff_ne]; exact h2
      by_cases h3 : x.day < y.day
      · have HL : Hid (Lt3 x y) := .inr ⟨h1, .inl h3⟩
        have g := decide_eq_true h3
        rw [h1] at x3
        clear h1 h2 hd1 hd1' e1
        go_enter Tryz.func194, Tryz.ntmps194
        go_upto_region 1 with fail
        rw [← unhide HX]
        go_wp2_with fail
        go_ret
        exact ⟨true, (by first | rfl | simp [g]), ⟨fun _ => unhide HL, fun _ => rfl⟩, unhide HB⟩
      · have HL : Hid (¬ Lt3 x y) := fun h => by
          rcases h with h | ⟨_, h | ⟨h, _⟩⟩ <;> omega
        have g := decide_eq_false h3
        rw [h1] at x3
        clear h1 h2 hd1 hd1' e1
        go_enter Tryz.func194, Tryz.ntmps194
        go_upto_region 1 with fail
        rw [← unhide HX]
        go_wp2_with fail
        go_ret
        first | exact ⟨false, (by first | rfl | simp [g]), ⟨fun h => (by cases h), fun h => absurd h (unhide HL)⟩, unhide HB⟩ | exact .inl ⟨rfl, unhide HL, unhide HB⟩
  · have hd1 : (x.due == y.due) = false := by rw [beq_eq_false_iff_ne]; exact h1
    by_cases h3 : x.due < y.due
    · have HL : Hid (Lt3 x y) := .inl h3
      have g := decide_eq_true h3
      clear h1 e1
      go_enter Tryz.func194, Tryz.ntmps194
      go_upto_region 1 with fail
      rw [← unhide HX]
      go_wp2_with fail
      go_ret
      exact ⟨true, (by first | rfl | simp [g]), ⟨fun _ => unhide HL, fun _ => rfl⟩, unhide HB⟩
    · have HL : Hid (¬ Lt3 x y) := fun h => by
        rcases h with h | ⟨h, _⟩ <;> omega
      have g := decide_eq_false h3
      clear h1 e1
      go_enter Tryz.func194, Tryz.ntmps194
      go_upto_region 1 with fail
      rw [← unhide HX]
      go_wp2_with fail
      go_ret
      first | exact ⟨false, (by first | rfl | simp [g]), ⟨fun h => (by cases h), fun h => absurd h (unhide HL)⟩, unhide HB⟩ | exact .inl ⟨rfl, unhide HL, unhide HB⟩
end Go.Proofs.YtfclknlpdcanpaaGreatDoor
/- The document's Open (112), in plain words. -/
namespace Go.Proofs.YtfclknlpdcanpaaGreatDoor
open Go Go.Shelf Go.ChangeShapes Go.WideShapes Go.ChangeAt Go.RowKit Go.Maps
set_option linter.unusedVariables false
/-- what is open of the first invoices -/
def opP (C : List Cl) (A : List Al) (k : List UInt8) (t : Int) (i : Nat) : List Cl := (ofC (C.take i) k).filterMap (tel A t)
theorem opP_succ {C : List Cl} {A : List Al} {k : List UInt8} {t : Int} {i : Nat} (h : i < C.length) : opP C A k t (i + 1) = opP C A k t i ++ (if C[i].acc.data.toList = k ∧ (shr C[i] (ptsOf A C[i].key.data.toList) t).2 > 0 then [{ C[i] with amt := (shr C[i] (ptsOf A C[i].key.data.toList) t).2 }] else []) := by
  unfold opP ofC
  rw [List.take_succ_eq_append_getElem h, List.filter_append, List.filterMap_append]
  congr 1
  by_cases e : C[i].acc.data.toList = k
  · rw [List.filter_cons, if_pos (by simpa using e)]
    unfold tel
    by_cases h2 : (shr C[i] (ptsOf A C[i].key.data.toList) t).2 > 0
    · rw [if_pos ⟨e, h2⟩, List.filterMap_cons, if_pos h2]
      rfl
    · rw [if_neg (fun h => h2 h.2), List.filterMap_cons, if_neg h2]
      rfl
  · rw [List.filter_cons, if_neg (by simpa using e), if_neg (fun h => e h.1)]
    rfl
theorem opP_len (C : List Cl) (A : List Al) (k : List UInt8) (t : Int) (i : Nat) : (opP C A k t i).length ≤ i :=
  Nat.le_trans (List.length_filterMap_le _ _) (Nat.le_trans (List.length_filter_le _ _) (by rw [List.length_take]; omega))
def Srt3 (R : List Cl) : Prop := R.Pairwise fun a b => ¬ Lt3 b a
theorem ins_sorted {R : List Cl} {x : Cl} {q : Nat} (hs : Srt3 R) (hq : q ≤ R.length) (h1 : ∀ j (hj : j < R.length), j < q → ¬ Lt3 x R[j]) (h2 : ∀ h : q < R.length, Lt3 x R[q]) : Srt3 (R.take q ++ x :: R.drop q) := by
  have hs' := hs
  unfold Srt3 at hs' ⊢
  rw [← List.take_append_drop q R, List.pairwise_append] at hs'
  obtain ⟨s1, s2, s3⟩ := hs'
  rw [List.pairwise_append]
  refine ⟨s1, List.pairwise_cons.2 ⟨fun b hb hlt => ?_, s2⟩, fun a ha b hb => ?_⟩
  · rcases Nat.lt_or_ge q R.length with hq' | hq'
    · have hx := h2 hq'
      have e : R.drop q = R[q] :: R.drop (q + 1) := List.drop_eq_getElem_cons hq'
      rw [e] at hb s2
      rcases List.mem_cons.1 hb with rfl | hb
      · exact Lt3.irrefl _ (Lt3.trans hx hlt)
      · exact (List.pairwise_cons.1 s2).1 b hb (Lt3.trans hlt hx)
    · rw [List.drop_of_length_le hq'] at hb
      cases hb
  · rcases List.mem_cons.1 hb with rfl | hb
    · obtain ⟨j, hj, ej⟩ := List.mem_iff_getElem.1 ha
      rw [List.length_take] at hj
      rw [List.getElem_take] at ej
      rw [← ej]
      exact h1 j (by omega) (by omega)
    · exact s3 a ha b hb
theorem ins_perm (R : List Cl) (x : Cl) (q : Nat) : (R.take q ++ x :: R.drop q).Perm (R ++ [x]) := by
  have h1 : (R.take q ++ x :: R.drop q).Perm (x :: (R.take q ++ R.drop q)) := List.perm_middle
  rw [List.take_append_drop] at h1
  exact h1.trans (List.perm_append_comm (l₁ := [x]) (l₂ := R))
/-- the list that is being made: out up to k, the invoice put in once its place is found -/
def InL (R : List Cl) (x : Cl) (k : Nat) (dn : Bool) (M : List Cl) : Prop :=
  (dn = false → M = R.take k ∧ ∀ j (hj : j < R.length), j < k → ¬ Lt3 x R[j]) ∧
  (dn = true → ∃ q, ∃ h : q < R.length, q < k ∧ Lt3 x R[q] ∧ (∀ j (hj : j < R.length), j < q → ¬ Lt3 x R[j]) ∧ M = R.take q ++ x :: (R.drop q).take (k - q))
theorem InL.len {R : List Cl} {x : Cl} {k : Nat} {dn : Bool} {M : List Cl} (h : InL R x k dn M) : M.length ≤ k + 1 := by
  cases dn with
  | false =>
    rw [(h.1 rfl).1, List.length_take]
    omega
  | true =>
    obtain ⟨q, hq, hk, _, _, e⟩ := h.2 rfl
    rw [e, List.length_append, List.length_take, List.length_cons, List.length_take]
    omega
theorem InL.zero (R : List Cl) (x : Cl) : InL R x 0 false [] := ⟨fun _ => ⟨rfl, fun j _ h => by omega⟩, fun h => by cases h⟩
/-- not yet -/
theorem InL.past {R : List Cl} {x : Cl} {k : Nat} {M : List Cl} (h : InL R x k false M) (hk : k < R.length) (hn : ¬ Lt3 x R[k]) : InL R x (k + 1) false (M ++ [R[k]]) :=
  ⟨fun _ => ⟨by rw [(h.1 rfl).1, List.take_succ_eq_append_getElem hk], fun j hj hl => by
    rcases Nat.lt_or_ge j k with h' | h'
    · exact (h.1 rfl).2 j hj h'
    · obtain rfl : j = k := by omega
      exact hn⟩, fun h => by cases h⟩
/-- here -/
theorem InL.here {R : List Cl} {x : Cl} {k : Nat} {M : List Cl} (h : InL R x k false M) (hk : k < R.length) (hn : Lt3 x R[k]) : InL R x (k + 1) true (M ++ [x] ++ [R[k]]) :=
  ⟨fun h => (by cases h), fun _ => ⟨k, hk, by omega, hn, (h.1 rfl).2, by
    have e : k + 1 - k = 1 := by omega
    have e4 : (R.drop k).take 1 = [R[k]] := by rw [List.drop_eq_getElem_cons hk]; rfl
    rw [(h.1 rfl).1, e, e4]
    simp⟩⟩
/-- behind it -/
theorem InL.on {R : List Cl} {x : Cl} {k : Nat} {M : List Cl} (h : InL R x k true M) (hk : k < R.length) : InL R x (k + 1) true (M ++ [R[k]]) := by
  obtain ⟨q, hq, hqk, h1, h2, e⟩ := h.2 rfl
  refine ⟨fun h => (by cases h), fun _ => ⟨q, hq, by omega, h1, h2, ?_⟩⟩
  have e2 : k + 1 - q = (k - q) + 1 := by omega
  have hl : k - q < (R.drop q).length := by rw [List.length_drop]; omega
  rw [e, e2, List.take_succ_eq_append_getElem hl]
  have e3 : (R.drop q)[k - q] = R[k] := by
    rw [List.getElem_drop]
    congr 1
    omega
  rw [e3]
  simp
theorem InL.done {R : List Cl} {x : Cl} {M : List Cl} (hs : Srt3 R) (h : InL R x R.length true M) : Srt3 M ∧ M.Perm (R ++ [x]) := by
  obtain ⟨q, hq, hqk, h1, h2, e⟩ := h.2 rfl
  have e2 : (R.drop q).take (R.length - q) = R.drop q := List.take_of_length_le (by rw [List.length_drop]; omega)
  rw [e2] at e
  rw [e]
  exact ⟨ins_sorted hs (by omega) h2 (fun _ => h1), ins_perm R x q⟩
theorem InL.last {R : List Cl} {x : Cl} {M : List Cl} (hs : Srt3 R) (h : InL R x R.length false M) : Srt3 (M ++ [x]) ∧ (M ++ [x]).Perm (R ++ [x]) := by
  obtain ⟨e, h2⟩ := h.1 rfl
  rw [List.take_length] at e
  rw [e]
  refine ⟨?_, List.Perm.refl _⟩
  have h3 := ins_sorted (x := x) (q := R.length) hs (Nat.le_refl _) h2 (fun h => by omega)
  rw [List.take_length, List.drop_length] at h3
  exact h3
end Go.Proofs.YtfclknlpdcanpaaGreatDoor
