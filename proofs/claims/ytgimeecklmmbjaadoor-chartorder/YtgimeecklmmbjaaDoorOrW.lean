/- ChartOrder (4): the walk. -/
import Derived.Test.YtgimeecklmmbjaaDoorOrA
import Derived.Test.YtgimeecklmmbjaaDoorOpB
import Derived.Deep.DeepCutAuto
namespace Go.Proofs.YtgimeecklmmbjaaDoor
open Go Go.Shelf Go.ChangeShapes Go.WideShapes Go.ChangeAt Go.RowKit Go.Maps Go.Sort
set_option linter.unusedVariables false
theorem lf_zero {X3 X4 : World} {d ca nl : Nat} {L : List Ac} {pa : Option Addr} (h : New X3 d [] X4) (hl : Lies kA X3 pa L) (hca : pa = none → ca = 0) (hn : L.length = nl) (h100 : nl ≤ 100) :
    ∃ p c w5, (Builtin.append_ #[29, 29] 29 #[.slice (some ⟨X4.heap.size, 0, none⟩) 0 0, .slice pa nl ca]).run Tryd.prog (X4.alloc (.cells #[] 41)) = .ok (.slice p nl c) w5 ∧ Lf X3 d [] L (.slice p nl c) nl w5 := by
  obtain ⟨S, g, a1, a2, a3⟩ := h
  have hrow : (X4.alloc (.cells #[] 41)).ownsRow X3.heap.size 41 4 (.slice (some ⟨X4.heap.size, 0, none⟩) 0 0) 0 (kA.flat []) := ⟨rfl, .inr ⟨X4.heap.size, 0, #[], rfl, a3.size, World.alloc_heap_new X4 _, Nat.le_refl _, Nat.zero_le _, rfl, rfl⟩⟩
  have hb4 : Below X4.heap.size X4 (X4.alloc (.cells #[] 41)) := (Below.refl _ X4).alloc (Nat.le_refl _) _
  have hl4 := (hl.below a3).below (W' := X4.alloc (.cells #[] 41)) hb4
  obtain ⟨p, c, w5, hr, ho, hb, hk, hat⟩ := run_app kA_ok (L := []) (M := L) (n := 0) 29 hrow (by rw [World.size_alloc]; have := a3.size; omega) pa ca hca hl4 (by omega)
  rw [Nat.zero_add, hn] at hr ho hat
  rw [List.nil_append] at ho
  have hs : X4.heap.size + 1 ≤ w5.heap.size := by
    rcases Nat.lt_or_ge w5.heap.size (X4.heap.size + 1) with h1 | h1
    · exfalso
      by_cases h3 : w5.heap.size = X4.heap.size
      · have h5 := ho
        rcases hat with h7 | h7
        · have h8 : X4.heap.size < w5.heap.size := (row_block ho h7).2.1
          omega
        · have h8 := (row_block ho h7).2.1
          rw [World.size_alloc] at h8
          omega
      · have h4 := hk w5.heap.size (by rw [World.size_alloc]; omega) (fun e => h3 (Option.some.inj e).symm)
        have h6 : w5.heap.size < (X4.alloc (.cells #[] 41)).heap.size := by rw [World.size_alloc]; omega
        rw [Array.getElem?_eq_none (by omega), Array.getElem?_eq_getElem h6] at h4
        cases h4
    · exact h1
  refine ⟨p, c, w5, hr, S, g, ⟨a1.ch.keep (fun k hk' => (hk k (by rw [World.size_alloc]; have := a1.inh k hk'; omega) (fun e => ?_)).trans (Below.heap_alloc _ _ _ (a1.inh k hk'))), a1.good, fun k hk' => ?_⟩, a2, (a3.alloc a3.size _).trans hb, ho, fun k hk' hs' => ?_⟩
  · have := a1.inh k hk'
    have e2 : X4.heap.size = k := Option.some.inj e
    omega
  · have := a1.inh k hk'
    omega
  · have h1 := a1.inh k hs'
    rcases hat with h7 | h7
    · rw [h7] at hk'
      have e2 : X4.heap.size = k := Option.some.inj hk'
      omega
    · rw [h7] at hk'
      have e2 := Option.some.inj hk'
      rw [World.size_alloc] at e2
      omega
/-- accounts that lie there, read in a later world -/
theorem acc_cells4 {X3 : World} {b off : Nat} {L : List Ac} (h : Lies kA X3 (some ⟨b, off, none⟩) L) {k : Nat} (hk : k < L.length) {Y : World} (hb : Below X3.heap.size X3 Y) :
    Y.cell? ⟨b, off + k * 4, none⟩ = some (.string (txN L[k].nm)) ∧ Y.cell? ⟨b, off + k * 4 + 1, none⟩ = some (.int .i64 L[k].ty) ∧ Y.cell? ⟨b, off + k * 4 + 2, none⟩ = some (.int .i64 L[k].dy) ∧ Y.cell? ⟨b, off + k * 4 + 3, none⟩ = some (.bool L[k].cl) := by
  obtain ⟨b', off', hp, hlt, hr⟩ := lies_acc h hk
  cases hp
  have h2 : ∀ j v, (vals4 L[k])[j]? = some v → Y.cell? ⟨b, off + k * 4 + j, none⟩ = some v := fun j v hv => (hb.cell (p := ⟨b, off + k * 4 + j, none⟩) hlt).trans (hr j v hv)
  exact ⟨h2 0 _ rfl, h2 1 _ rfl, h2 2 _ rfl, h2 3 _ rfl⟩
/-- whether one's parent is there, as the two calls tell it -/
theorem rdy_iff {D : List Ac} (hD : Good D) {a : Ac} {p : Nm} (e : ups a.nm = p :: ups p) : rdy D a ↔ (fnd D p).isSome = true := by
  constructor
  · rintro (h | ⟨d, hd, hdp⟩)
    · rw [e] at h; cases h
    · have hdp2 : d.nm = p := by rw [hdp, par, e]; rfl
      rw [(fnd_iff hD).2 ⟨hd, hdp2⟩]
      rfl
  · intro h
    cases hf : fnd D p with
    | none => rw [hf] at h; cases h
    | some d =>
      obtain ⟨h1, h2⟩ := fnd_some hf
      exact .inr ⟨d, h1, by rw [par, e]; exact h2⟩
theorem fnd_empty {D : List Ac} (hD : Good D) : fnd D [] = none := by
  cases hf : fnd D [] with
  | none => rfl
  | some d =>
    obtain ⟨h1, h2⟩ := fnd_some hf
    exact absurd h2 (name_ne (hD.name d h1))
/-- from any place on round the list, all are met -/
theorem all_met {a m : Nat} (ha : a < m) {j : Nat} (hj : j < m) : ∃ k, k < m ∧ (a + k) % m = j := by
  by_cases h : a ≤ j
  · refine ⟨j - a, by omega, ?_⟩
    rw [show a + (j - a) = j by omega, Nat.mod_eq_of_lt hj]
  · refine ⟨m + j - a, by omega, ?_⟩
    rw [show a + (m + j - a) = m + j by omega, Nat.add_mod_left, Nat.mod_eq_of_lt hj]
section
attribute [local go_sem ↓] ld33_is
set_option maxRecDepth 100000 in
set_option maxHeartbeats 16000000 in
theorem order_walk {W : World} {p1 pm : Option Addr} {n1 c1 nm cm : Nat} {A : List Av} {M : List Int} {u v : Av} (hA : A.length = n1) (hn1 : n1 ≤ 2305843009213693951) (hL1 : ActsAt W p1 A) (hok1 : ∀ v ∈ A, v.ok)
    (hM : M.length = nm) (hnm : nm ≤ 17592186043904) (hLM : NumsAt W pm M) (hu : u.ok) (hv : v.ok) :
    Calls Tryd.prog 4 #[.slice p1 n1 c1, .slice pm nm cm, u.val, v.val] W fun e w' => e = .returned (.bool true) ∧ Below W.heap.size W w' := by
  have HW0 : Hid (∀ X, Below (W.heap.size + 2) ((W.alloc (.cells #[.int .i64 u.who, .int .i64 u.kind, .int .i64 u.typ, .int .i64 u.day, .string u.nam, .string u.ask] 33)).alloc (.cells #[.int .i64 v.who, .int .i64 v.kind, .int .i64 v.typ, .int .i64 v.day, .string v.nam, .string v.ask] 33)) X → X.rangeAt W.heap.size 0 u.vals ∧ X.rangeAt (W.heap.size + 1) 0 v.vals ∧ Below W.heap.size W X ∧ W.heap.size + 2 ≤ X.heap.size) := fun X hb => by
    have e1 := (hb.block W.heap.size (by omega)).trans ((Below.heap_alloc _ _ _ (by simp)).trans (World.alloc_heap_new W _))
    have e20 := World.alloc_heap_new (W.alloc (.cells #[.int .i64 u.who, .int .i64 u.kind, .int .i64 u.typ, .int .i64 u.day, .string u.nam, .string u.ask] 33)) (.cells #[.int .i64 v.who, .int .i64 v.kind, .int .i64 v.typ, .int .i64 v.day, .string v.nam, .string v.ask] 33)
    rw [World.size_alloc] at e20
    have e2 := (hb.block (W.heap.size + 1) (by omega)).trans e20
    refine ⟨fun j x hx => cell_of e1 (by rw [Nat.zero_add]; simpa [Av.vals] using hx), fun j x hx => cell_of e2 (by rw [Nat.zero_add]; simpa [Av.vals] using hx), (((Below.refl _ W).alloc (Nat.le_refl _) _).alloc (by simp) _).trans (hb.mono (by omega)), ?_⟩
    have := hb.size
    rw [World.size_alloc, World.size_alloc] at this
    exact this
  have d6 := hide first_any
  have HL1 := hide hL1; have HA := hide hA; have HOK1 := hide hok1; have HM := hide hM; have HLM := hide hLM; have HU := hide hu; have HV := hide hv
  clear hL1 hA hok1 hM hLM hu hv
  unfold Av.val
  go_enter Tryd.func4, Tryd.ntmps4
  go_upto_region 2 with (go_at_call 6; refine (unhide d6 _).mono ?_; rintro e X1 ⟨rfl, hb⟩; have h0 := unhide HW0 X1 (by rw [World.size_alloc, World.size_alloc] at hb; exact hb); have H0 := hide h0; clear hb h0)
  have d7 := hide (played_any (c := c1) (unhide HA) hn1 ((unhide HL1).below (unhide H0).2.2.1) (unhide HOK1))
  obtain ⟨L, hL⟩ : ∃ L, L = playL [] A := ⟨_, rfl⟩
  rw [← hL] at d7
  obtain ⟨d1, hd1⟩ : ∃ d1, d1 = X1.heap.size := ⟨_, rfl⟩
  rw [← hd1] at d7
  clear hL hd1 d6 HW0
  go_upto_region 3 with (go_at_call 7; refine (unhide d7).mono ?_; rintro e X2 ⟨rfl, hn⟩; have N2 := hide hn; clear hn)
  go_upto_region 4 with (go_at_call 9; refine (new_accounts (unhide N2)).mono ?_; rintro e X3 ⟨ho, hn⟩; obtain ⟨pa, ca, rfl, hlies, _, hpc, _⟩ := ho; have N3 := hide hn; have L3 := hide hlies; have HPC := hide hpc; clear hn hlies hpc)
  have HG := hide (unhide N3).good
  obtain ⟨nl, hnl⟩ : ∃ nl, nl = L.length := ⟨_, rfl⟩
  have HNL := hide hnl
  have hnl1 : nl ≤ 100 := by rw [hnl]; exact (unhide HG).len
  rw [← hnl]
  obtain ⟨d2, hd2⟩ : ∃ d2, d2 = X3.heap.size := ⟨_, rfl⟩
  have dN := hide (new_new X3)
  rw [← hd2] at dN
  have HB3 : Hid (Below W.heap.size W X3) := (unhide H0).2.2.1.trans ((unhide N3).bel.mono (unhide H0).2.2.1.size)
  obtain ⟨b6, hb6⟩ : ∃ b6, b6 = W.heap.size := ⟨_, rfl⟩
  obtain ⟨b7, hb7⟩ : ∃ b7, b7 = W.heap.size + 1 := ⟨_, rfl⟩
  have HBX : Hid (∀ Y, Below X3.heap.size X3 Y → Y.rangeAt b6 0 u.vals ∧ Y.rangeAt b7 0 v.vals) := fun Y hY => by
    have h1 := (unhide N3).bel.trans (hY.mono (unhide N3).bel.size)
    have h2 := (unhide H0).2.2.2
    rw [hb6, hb7]
    exact ⟨fun j x hx => (h1.cell (p := ⟨W.heap.size, 0 + j, none⟩) (show W.heap.size < _ by omega)).trans ((unhide H0).1 j x hx), fun j x hx => (h1.cell (p := ⟨W.heap.size + 1, 0 + j, none⟩) (show W.heap.size + 1 < _ by omega)).trans ((unhide H0).2.1 j x hx)⟩
  have H1X : Hid (∀ Z, Below X1.heap.size X1 Z → Z.rangeAt b6 0 u.vals ∧ Z.rangeAt b7 0 v.vals ∧ Below W.heap.size W Z) := fun Z hZ => by
    have h2 := (unhide H0).2.2.2
    rw [hb6, hb7]
    exact ⟨fun j x hx => (hZ.cell (p := ⟨W.heap.size, 0 + j, none⟩) (show W.heap.size < _ by omega)).trans ((unhide H0).1 j x hx), fun j x hx => (hZ.cell (p := ⟨W.heap.size + 1, 0 + j, none⟩) (show W.heap.size + 1 < _ by omega)).trans ((unhide H0).2.1 j x hx), (unhide H0).2.2.1.trans (hZ.mono (unhide H0).2.2.1.size)⟩
  have HWB : Hid (∀ Y, Below X3.heap.size X3 Y → Below W.heap.size W Y) := fun Y hY => (unhide HB3).trans (hY.mono (unhide HB3).size)
  rw [← hb7, ← hb6]
  clear d7 N2 hnl hd2 hb6 hb7
  go_upto_region 5 with (go_at_call 12; refine (unhide dN).mono ?_; rintro e X4 ⟨rfl, hn⟩; have N4 := hide hn; clear hn)
  obtain ⟨p5, c5, w5, hr5, hl5⟩ := lf_zero (unhide N4) (unhide L3) (unhide HPC) (unhide HNL).symm hnl1
  have HR5 := hide hr5; have HL5 := hide hl5
  clear hr5 hl5 dN
  go_upto_region 6 with (at_builtin; refine wpList_append_run rfl _ _ 29 rfl _ _ _ _ rfl rfl (unhide HR5) ?_)
  have Z5 : Hid (∃ R D, R.length = nl ∧ Od L R D ∧ Lf X3 d2 D R (.slice p5 nl c5) nl w5) := ⟨L, [], (unhide HNL).symm, od_zero (unhide HG), unhide HL5⟩
  clear HR5 HL5 N4 HPC
  go_wp2_with fail
  go_loopw [13, 14] (fun v13 v14 wr => ∃ (i m c : Nat) (p : Option Addr), v13 = .slice p m c ∧ v14 = .int .i64 i ∧ i + m = nl ∧ Hid (∃ R D, R.length = m ∧ Od L R D ∧ Lf X3 d2 D R (.slice p m c) m wr)) (fun _ v14 _ => nl - (intOf' v14).toNat)
  case atStart => exact ⟨0, nl, c5, p5, rfl, rfl, by omega, unhide Z5⟩
  case round =>
    obtain ⟨i, m, c, p, rfl, rfl, him, hrel⟩ := hrel
    obtain ⟨w7, hw7⟩ : ∃ w7, w7 = wr := ⟨_, rfl⟩
    rw [← hw7] at hrel ⊢
    clear hw7 Z5
    by_cases hm0 : 0 < m
    · obtain ⟨R, D, hRm, hOd, hLf⟩ := unhide hrel
      obtain ⟨q, hq⟩ : ∃ q, p = some ⟨q, 0, none⟩ := by
        obtain ⟨S, g, h⟩ := hLf
        rcases h.row.2 with ⟨e, h2⟩ | ⟨g, cap, cur, e, h1, h2, h3, _⟩
        · omega
        · injection e with e _ _
          exact ⟨g, e⟩
      subst hq
      have HRM := hide hRm; have HOD := hide hOd; have HLF := hide hLf
      have HNM : Hid (NumsAt w7 pm M) := (unhide HLM).below (unhide HWB _ hLf.bel)
      clear hRm hOd hLf hrel
      go_upto_region 10 with fail
      go_cut [54] (fun v54 wx => ∃ bb : Bool, v54 = .bool bb ∧ Hid (wx = w7) ∧ Hid (bb = true → ∃ h : i < M.length, 0 ≤ M[i]))
      case first =>
        by_cases hi : i < nm
        · have hiM : i < M.length := by rw [unhide HM]; exact hi
          obtain ⟨bC, oC, hpC, hltC, hcC⟩ := unhide HNM i hiM
          obtain ⟨Z, hZ⟩ : ∃ Z, M[i] = Z := ⟨_, rfl⟩
          rw [hZ] at hcC
          subst hpC
          by_cases hz : Z ≥ 0
          · as_aux_lemma =>
              go_wp2_with fail
              go_meet
              exact ⟨true, by simp, rfl, fun _ => ⟨hiM, by omega⟩⟩
          · as_aux_lemma =>
              go_wp2_with fail
              go_meet
              exact ⟨false, by simp, rfl, fun h => by cases h⟩
        · as_aux_lemma =>
            go_wp2_with fail
            go_meet
            exact ⟨false, by simp, rfl, fun h => by cases h⟩
      obtain ⟨bb, rfl, hwc, hbb⟩ := hcut
      rw [unhide hwc]
      clear hwc wc
      go_upto_if 54 with fail
      go_cut [15] (fun v15 wx => ∃ a : Nat, v15 = .int .i64 a ∧ a < m ∧ Hid (wx = w7))
      case first =>
        cases bb
        · as_aux_lemma =>
            go_wp2_with fail
            go_meet
            exact ⟨0, rfl, by omega, rfl⟩
        · obtain ⟨hiM, hz⟩ := unhide hbb rfl
          obtain ⟨bC, oC, hpC, hltC, hcC⟩ := unhide HNM i hiM
          obtain ⟨Z, hZ⟩ : ∃ Z, M[i] = Z := ⟨_, rfl⟩
          rw [hZ] at hcC hz
          have hi : i < nm := by rw [← unhide HM]; exact hiM
          subst hpC
          as_aux_lemma =>
            go_wp2_with fail
            go_meet
            have hz1 := Int.emod_nonneg Z (show (m : Int) ≠ 0 by omega)
            have hz2 := Int.emod_lt_of_pos Z (show (0 : Int) < m by omega)
            exact ⟨(Z % (m : Int)).toNat, by rw [Int.toNat_of_nonneg hz1], by omega, rfl⟩
      clear hbb bb HNM
      obtain ⟨a, rfl, ha, hwc⟩ := hcut
      rw [unhide hwc]
      clear hwc wc
      go_wp2_with fail
      go_loopw [13, 16] (fun v13 v16 wr => ∃ k : Nat, k ≤ m ∧ v13 = .slice (some ⟨q, 0, none⟩) m c ∧ v16 = .int .i64 k ∧ Hid (Below w7.heap.size w7 wr) ∧ Hid (∀ j, j < k → ∀ h : (a + j) % m < R.length, ¬ rdy D R[(a + j) % m])) (fun _ v16 _ => m - (intOf' v16).toNat)
      case atStart => exact ⟨0, Nat.zero_le _, rfl, rfl, Below.refl _ _, fun j hj => by omega⟩
      case round =>
        obtain ⟨k, hk, rfl, rfl, hbk, hnr⟩ := hrel
        obtain ⟨w8, hw8⟩ : ∃ w8, w8 = wr := ⟨_, rfl⟩
        rw [← hw8] at hbk ⊢
        clear hw8
        by_cases hkm : k < m
        · obtain ⟨j, hj⟩ : ∃ j, j = (a + k) % m := ⟨_, rfl⟩
          have hjm : j < m := by rw [hj]; exact Nat.mod_lt _ hm0
          have hjR : j < R.length := by rw [unhide HRM]; exact hjm
          have HJ := hide hj
          have hwk : IntKind.i64.wrap ((a : Int) + (k : Int)) = (a : Int) + (k : Int) := wrapI (by omega) (by omega)
          clear hj
          go_upto_region 15 with fail
          go_cut [17] (fun v17 wx => v17 = .int .i64 (j : Nat) ∧ Hid (wx = w8))
          case first =>
            as_aux_lemma =>
              go_wp2_with fail
              go_meet
              exact ⟨by rw [unhide HJ]; simp, rfl⟩
          obtain ⟨rfl, hwc⟩ := hcut
          rw [unhide hwc]
          clear hwc wc hwk
          obtain ⟨b, hb⟩ : ∃ b, b = R[j] := ⟨_, rfl⟩
          have hbR : b ∈ R := by rw [hb]; exact List.getElem_mem hjR
          have hbL := (unhide HOD).sub b hbR
          have hbN := (unhide HG).name b hbL
          have hLf8 := (unhide HLF).below (unhide hbk)
          have HC8 : Hid (∀ Y, Below w8.heap.size w8 Y → Y.cell? ⟨q, j * 4, none⟩ = some (.string (txN b.nm)) ∧ Y.cell? ⟨q, j * 4 + 1, none⟩ = some (.int .i64 b.ty) ∧ Y.cell? ⟨q, j * 4 + 2, none⟩ = some (.int .i64 b.dy)) := fun Y hY => by
            have h1 := acc_cells4 (hLf8.lies (unhide HRM)) hjR hY
            rw [← hb, Nat.zero_add] at h1
            exact ⟨h1.1, h1.2.1, h1.2.2.1⟩
          have hGD := (unhide HOD).good
          have dP := hide (parent_any (txN b.nm) (name_size hbN))
          rw [txN_list] at dP
          have dF : Hid (∀ (x : Nm) (Y : World), x.length ≤ 4611686018427387 → Below w8.heap.size w8 Y → Calls Tryd.prog 14 #[ptr d2, .string (txN x)] Y fun e w' => e = .returned (.tuple #[.agg #[.string (txN (findA D x).nm), .int .i64 (findA D x).ty, .int .i64 (findA D x).dy, .bool (findA D x).cl], .bool (fnd D x).isSome]) ∧ Below Y.heap.size Y w') := fun x Y hx hY => by
            have h1 := new_find ((hLf8.below hY).isNew) (txN x) (by show x.toArray.size < _; simp; omega)
            rw [txN_list] at h1
            exact h1.mono fun e w' h => ⟨h.1, h.2.2⟩
          have c8 := (unhide HC8 w8 (Below.refl _ _)).1
          have HBR := hide hbR; have HBL := hide hbL; have HB := hide hb; have HGD := hide hGD; have HBN := hide hbN; have HL8 := hide hLf8
          clear hbR hbL hbN hLf8 hGD hb
          have hszN : Hid (b.nm.length ≤ 4611686018427387) := by
            have h1 := name_short (unhide HBN)
            show _ ≤ _
            omega
          obtain ⟨T, hT⟩ : ∃ T, T = txN b.nm := ⟨_, rfl⟩
          rw [← hT] at dP HC8 c8
          have HT := hide hT
          clear hT
          -- what happens where it is opened: t the type that is handed in
          have dO : Hid (rdy D b → ∀ (t : Int) (Y : World), (t = if ups b.nm = [] then b.ty else 0) → Below w8.heap.size w8 Y → Calls Tryd.prog 15 #[ptr d2, .string T, .int .i64 t, .int .i64 b.dy] Y fun e w' => e = .returned (.int .i64 0) ∧ Hid (Lf X3 d2 (insA D (opn b)) R (.slice (some ⟨q, 0, none⟩) m c) m w')) := fun hr t Y ht hY => by
            obtain ⟨h1, h2⟩ := (unhide HOD).opens (unhide HG) (unhide HBR) hr ht
            have hty := (unhide HG).typ b (unhide HBL)
            have h3 := ((unhide HL8).below hY).opens T (by rw [unhide HT]; exact name_size (unhide HBN)) t b.dy (by
              rw [ht]
              split <;> omega)
            rw [unhide HT, txN_list, h1, h2] at h3
            rw [unhide HT]
            exact h3
          have dD : Hid (rdy D b → ∀ Y, Lf X3 d2 (insA D (opn b)) R (.slice (some ⟨q, 0, none⟩) m c) m Y → ∃ p3 c3 w3, (Builtin.append_ #[29, 29] 29 #[.slice (some ⟨q, 0, none⟩) j c, .slice (if c = j + 1 then some ⟨q, 0, none⟩ else some ⟨q, (j + 1) * 4, none⟩) (m - (j + 1)) (c - (j + 1))]).run Tryd.prog Y = .ok (.slice p3 (m - 1) c3) w3 ∧ Hid (∃ R' D', R'.length = m - 1 ∧ Od L R' D' ∧ Lf X3 d2 D' R' (.slice p3 (m - 1) c3) (m - 1) w3)) := fun hr Y hY => by
            obtain ⟨p3, c3, w3, h1, h2⟩ := hY.drop (unhide HRM) hjm (by omega)
            have h3 := less_len hjR
            rw [unhide HRM] at h3
            have h4 := (unhide HOD).step (unhide HG) hjR (by rw [← unhide HB]; exact hr)
            rw [← unhide HB] at h4
            exact ⟨p3, c3, w3, h1, _, _, by omega, h4, h2⟩
          have hmc : m ≤ c := by
            obtain ⟨S, g, h⟩ := unhide HL8
            rcases h.row.2 with ⟨e, h2⟩ | ⟨g', cap, cur, e, h1, h2, h3, _⟩
            · cases e
            · cases e; exact h3
          rcases ups_cases b.nm with e | ⟨p2, e, hp2, _⟩
          · have hr : rdy D b := .inl e
            have dO2 := hide (fun Y hY => unhide dO hr b.ty Y (by rw [if_pos e]) hY)
            have dD2 := hide (unhide dD hr)
            have hps : parS b.nm = (⟨#[]⟩, false) := by rw [parS, if_pos (unhide HBN), e]
            rw [hps] at dP
            have dF2 := hide (fun Y hY => unhide dF [] Y (by simp) hY)
            rw [fnd_empty (unhide HGD)] at dF2
            have et : txN [] = ⟨#[]⟩ := rfl
            rw [et] at dF2
            obtain ⟨z, hz⟩ : ∃ z, z = findA D [] := ⟨_, rfl⟩
            rw [← hz] at dF2
            clear e hr hps et hz dO dD dF
            go_upto_region 17 with (go_at_call 13; refine (unhide dP _).mono ?_; rintro e Y1 ⟨rfl, hb1⟩; have B1 := hide hb1; clear hb1)
            go_upto_region 18 with (go_at_call 14; refine (unhide dF2 _ (unhide B1)).mono ?_; rintro e Y2 ⟨rfl, hb2⟩; have B2 := hide hb2; clear hb2)
            have BA : Hid (∀ (o : Obj), Below w8.heap.size w8 (Y2.alloc o)) := fun o => ((unhide B1).trans ((unhide B2).mono (unhide B1).size)).alloc (Nat.le_trans (unhide B1).size (unhide B2).size) o
            obtain ⟨Y3, hY3⟩ : ∃ Y3, Y3 = Y2.alloc (.cells #[.string (txN z.nm), .int .i64 z.ty, .int .i64 z.dy, .bool z.cl] 41) := ⟨_, rfl⟩
            rw [← hY3]
            have BY : Hid (Below w8.heap.size w8 Y3) := by rw [hY3]; exact unhide BA _
            have BZ : Hid (Below w8.heap.size w8 Y3.drew) := below_drewN (unhide BY) 1
            have ky := unhide HC8 _ (unhide BY)
            have kz := unhide HC8 _ (unhide BZ)
            have ky1 := ky.2.1
            have kz0 := kz.1
            have kz2 := kz.2.2
            clear ky kz hY3 dP dF2 c8 BA
          
            have hac : j + 1 ≤ c := by omega
            have ham : j + 1 ≤ m := by omega
            have hacl : j ≤ c := by omega
            have hwa : IntKind.i64.wrap ((j : Int) + 1) = ((j + 1 : Nat) : Int) := by rw [IntKind.wrap_i64]; omega
            have hwb : (0 : Int) ≤ (j : Int) + 1 := by omega
            have hwd : (j : Int) + 1 ≤ (m : Int) := by omega
            have hwi : IntKind.i64.wrap ((i : Int) + 1) = (i : Int) + 1 := wrapI (by omega) (by omega)
            have hil : ¬ (nl : Int) < (i : Int) := by omega
            go_upto_region 22 with fail
            refine wp_region_last (n := 12) (S := fun W' => W'.cell? ⟨q, j * 4, none⟩ = some (.string T) ∧ W'.cell? ⟨q, j * 4 + 2, none⟩ = some (.int .i64 b.dy)) (by kernel_rfl) (by exact ⟨kz0, kz2⟩) (fun hHeld => ?_)
            refine tkW 0 ?_; refine tkW 1 ?_; refine tkW 2 ?_; refine tkW 3 ?_; refine tkW 4 ?_; refine tkS 5 ?_; refine tkW 6 ?_; refine tkW 7 ?_; refine tkW 8 ?_; refine tkW 9 ?_; refine tkW 10 ?_; refine tkS 11 ?_
            clear hHeld
            refine wpAnyL_past (i := 12) (by kernel_rfl) rfl (by kernel_rfl) (fun KK hK => ?_)
            go_simp
            go_wp2_with (first | (go_at_call 15; refine (unhide dO2 _ (unhide BZ)).mono ?_; rintro e Y5 ⟨rfl, hl5⟩))
            refine hK.out _ _ ?_
            clear hK KK
            refine wpAnyL_past (i := 13) (by kernel_rfl) rfl (by kernel_rfl) (fun KK hK => ?_)
            go_simp
            refine hK.out _ _ ?_
            clear hK KK
            refine wpAnyL_done (by kernel_rfl) ?_
            go_upto_region 24 with fail
            obtain ⟨p3, c3, w3, hr3, hf3⟩ := unhide dD2 Y5.drew ((unhide hl5).below (below_drewN (Below.refl _ _) 1))
            have HR3 := hide hr3
            clear hr3
            go_region_held3 (fun W => True) (trivial) ((refine step_append_run _ rfl _ _ _ rfl _ _ _ _ rfl rfl (unhide HR3) ?_))
            all_goals go_wp2_with fail
            all_goals first
              | exact ⟨⟨i + 1, m - 1, c3, p3, rfl, by simp, by omega, hf3⟩, by show nl - ((i : Int) + 1).toNat < nl - ((i : Int)).toNat; omega⟩
          · have hps : parS b.nm = (txN p2, true) := by rw [parS, if_pos (unhide HBN), e]
            rw [hps] at dP
            have dF2 := hide (fun Y hY => unhide dF p2 Y (by have := unhide hszN; omega) hY)
            have hiff := rdy_iff (unhide HGD) e
            obtain ⟨z, hz⟩ : ∃ z, z = findA D p2 := ⟨_, rfl⟩
            rw [← hz] at dF2
            obtain ⟨T2, hT2⟩ : ∃ T2, T2 = txN p2 := ⟨_, rfl⟩
            rw [← hT2] at dP dF2
            clear hps hz hT2 dF
            cases hfs : (fnd D p2).isSome with
            | true =>
              rw [hfs] at dF2
              have hr : rdy D b := hiff.2 hfs
              have dO2 := hide (fun Y hY => unhide dO hr 0 Y (by rw [if_neg (by rw [e]; simp)]) hY)
              have dD2 := hide (unhide dD hr)
              clear e hr hiff hfs dO dD
              go_upto_region 17 with (go_at_call 13; refine (unhide dP _).mono ?_; rintro e Y1 ⟨rfl, hb1⟩; have B1 := hide hb1; clear hb1)
              go_upto_region 18 with (go_at_call 14; refine (unhide dF2 _ (unhide B1)).mono ?_; rintro e Y2 ⟨rfl, hb2⟩; have B2 := hide hb2; clear hb2)
              have BA : Hid (∀ (o : Obj), Below w8.heap.size w8 (Y2.alloc o)) := fun o => ((unhide B1).trans ((unhide B2).mono (unhide B1).size)).alloc (Nat.le_trans (unhide B1).size (unhide B2).size) o
              obtain ⟨Y3, hY3⟩ : ∃ Y3, Y3 = Y2.alloc (.cells #[.string (txN z.nm), .int .i64 z.ty, .int .i64 z.dy, .bool z.cl] 41) := ⟨_, rfl⟩
              rw [← hY3]
              have BY : Hid (Below w8.heap.size w8 Y3) := by rw [hY3]; exact unhide BA _
              have BZ : Hid (Below w8.heap.size w8 Y3.drew) := below_drewN (unhide BY) 1
              have ky := unhide HC8 _ (unhide BY)
              have kz := unhide HC8 _ (unhide BZ)
              have ky1 := ky.2.1
              have kz0 := kz.1
              have kz2 := kz.2.2
              clear ky kz hY3 dP dF2 c8 BA
              have hac : j + 1 ≤ c := by omega
              have ham : j + 1 ≤ m := by omega
              have hacl : j ≤ c := by omega
              have hwa : IntKind.i64.wrap ((j : Int) + 1) = ((j + 1 : Nat) : Int) := by rw [IntKind.wrap_i64]; omega
              have hwb : (0 : Int) ≤ (j : Int) + 1 := by omega
              have hwd : (j : Int) + 1 ≤ (m : Int) := by omega
              have hwi : IntKind.i64.wrap ((i : Int) + 1) = (i : Int) + 1 := wrapI (by omega) (by omega)
              have hil : ¬ (nl : Int) < (i : Int) := by omega
              go_upto_region 22 with fail
              refine wp_region_last (n := 12) (S := fun W' => W'.cell? ⟨q, j * 4, none⟩ = some (.string T) ∧ W'.cell? ⟨q, j * 4 + 2, none⟩ = some (.int .i64 b.dy)) (by kernel_rfl) (by exact ⟨kz0, kz2⟩) (fun hHeld => ?_)
              refine tkW 0 ?_; refine tkW 1 ?_; refine tkW 2 ?_; refine tkW 3 ?_; refine tkW 4 ?_; refine tkS 5 ?_; refine tkW 6 ?_; refine tkW 7 ?_; refine tkW 8 ?_; refine tkW 9 ?_; refine tkW 10 ?_; refine tkS 11 ?_
              clear hHeld
              refine wpAnyL_past (i := 12) (by kernel_rfl) rfl (by kernel_rfl) (fun KK hK => ?_)
              go_simp
              go_wp2_with (first | (go_at_call 15; refine (unhide dO2 _ (unhide BZ)).mono ?_; rintro e Y5 ⟨rfl, hl5⟩))
              refine hK.out _ _ ?_
              clear hK KK
              refine wpAnyL_past (i := 13) (by kernel_rfl) rfl (by kernel_rfl) (fun KK hK => ?_)
              go_simp
              refine hK.out _ _ ?_
              clear hK KK
              refine wpAnyL_done (by kernel_rfl) ?_
              go_upto_region 24 with fail
              obtain ⟨p3, c3, w3, hr3, hf3⟩ := unhide dD2 Y5.drew ((unhide hl5).below (below_drewN (Below.refl _ _) 1))
              have HR3 := hide hr3
              clear hr3
              go_region_held3 (fun W => True) (trivial) ((refine step_append_run _ rfl _ _ _ rfl _ _ _ _ rfl rfl (unhide HR3) ?_))
              all_goals go_wp2_with fail
              all_goals first
                | exact ⟨⟨i + 1, m - 1, c3, p3, rfl, by simp, by omega, hf3⟩, by show nl - ((i : Int) + 1).toNat < nl - ((i : Int)).toNat; omega⟩
            | false =>
              rw [hfs] at dF2
              have hnr2 : ¬ rdy D b := fun h => by rw [hiff.1 h] at hfs; cases hfs
              have HNR : Hid (∀ x, x < k + 1 → ∀ h : (a + x) % m < R.length, ¬ rdy D R[(a + x) % m]) := fun x hx h => by
                by_cases hxk : x = k
                · subst hxk
                  rw [unhide HB] at hnr2
                  simp only [unhide HJ] at hnr2
                  exact hnr2
                · exact unhide hnr x (by omega) h
              have hwk : IntKind.i64.wrap ((k : Int) + 1) = (k : Int) + 1 := wrapI (by omega) (by omega)
              clear e hnr2 hiff hfs dO dD
              go_upto_region 17 with (go_at_call 13; refine (unhide dP _).mono ?_; rintro e Y1 ⟨rfl, hb1⟩; have B1 := hide hb1; clear hb1)
              go_upto_region 18 with (go_at_call 14; refine (unhide dF2 _ (unhide B1)).mono ?_; rintro e Y2 ⟨rfl, hb2⟩; have B2 := hide hb2; clear hb2)
              have BA : Hid (∀ (o : Obj), Below w8.heap.size w8 (Y2.alloc o)) := fun o => ((unhide B1).trans ((unhide B2).mono (unhide B1).size)).alloc (Nat.le_trans (unhide B1).size (unhide B2).size) o
              obtain ⟨Y3, hY3⟩ : ∃ Y3, Y3 = Y2.alloc (.cells #[.string (txN z.nm), .int .i64 z.ty, .int .i64 z.dy, .bool z.cl] 41) := ⟨_, rfl⟩
              rw [← hY3]
              have BY : Hid (Below w8.heap.size w8 Y3) := by rw [hY3]; exact unhide BA _
              have BF := hide ((unhide hbk).trans ((unhide BY).mono (unhide hbk).size))
              clear hY3 dP dF2 c8 BA
              go_wp2_with fail
              refine ⟨⟨k + 1, by omega, rfl, by simp, unhide BF, unhide HNR⟩, ?_⟩
              show m - ((k : Int) + 1).toNat < m - ((k : Int)).toNat
              omega
        · exfalso
          have hkm2 : k = m := by omega
          subst hkm2
          have hR0 : 0 < R.length := by rw [unhide HRM]; exact hm0
          obtain ⟨b, hb, hr⟩ := (unhide HOD).some_rdy (unhide HG) _ R[0] (List.getElem_mem hR0) (Nat.le_refl _)
          obtain ⟨j, hj, rfl⟩ := List.mem_iff_getElem.1 hb
          obtain ⟨k2, hk2, hk3⟩ := all_met ha (show j < k by rw [← unhide HRM]; exact hj)
          subst hk3
          exact unhide hnr k2 hk2 hj hr
    · have hm1 : m = 0 := by omega
      subst hm1
      obtain ⟨R, D, hRm, hOd, hLf⟩ := unhide hrel
      have hR0 : R = [] := List.eq_nil_of_length_eq_zero hRm
      subst hR0
      have hD := hOd.done (unhide HG)
      subst hD
      have N9 : Hid (New X3 d2 (half L nl) w7) := by rw [unhide HNL]; exact hLf.isNew
      clear hRm hOd hLf hrel
      have hin : i = nl := by omega
      subst hin
      have hwn : IntKind.i64.wrap ((i : Int) - 1) = (i : Int) - 1 := wrapI (by omega) (by omega)
      go_wp2_with fail
      go_loopw [23] (fun v23 wr => ∃ (z : Int) (j : Nat), v23 = .int .i64 z ∧ z + 1 = (j : Int) ∧ j ≤ i ∧ Hid (New X3 d2 (half L j) wr)) (fun v23 _ => (intOf' v23 + 1).toNat)
      case atStart => exact ⟨(i : Int) - 1, i, rfl, by omega, Nat.le_refl _, unhide N9⟩
      case round =>
        obtain ⟨z, j, rfl, hzj, hji, hrel⟩ := hrel
        obtain ⟨w9, hw9⟩ : ∃ w9, w9 = wr := ⟨_, rfl⟩
        rw [← hw9] at hrel ⊢
        clear hw9 N9
        by_cases hz0 : 0 ≤ z
        · obtain ⟨k, hk⟩ : ∃ k : Nat, z = (k : Int) := ⟨z.toNat, by omega⟩
          subst hk
          have hjk : j = k + 1 := by omega
          subst hjk
          have hkL : k < L.length := by rw [← unhide HNL]; omega
          obtain ⟨b, off, hp, _, _⟩ := lies_acc (unhide L3) hkL
          subst hp
          have hki : k < i := by omega
          have hc := acc_cells4 (unhide L3) hkL (unhide hrel).bel
          have c0 := hc.1
          have c3 := hc.2.2.2
          have hwk : IntKind.i64.wrap ((k : Int) - 1) = (k : Int) - 1 := wrapI (by omega) (by omega)
          clear hc
          cases hcl : L[k].cl with
          | false =>
            rw [hcl] at c3
            have NK : Hid (New X3 d2 (half L k) w9) := by rw [← half_open hkL hcl]; exact unhide hrel
            clear hrel hcl c0
            as_aux_lemma =>
              go_wp2_with fail
              refine ⟨⟨(k : Int) - 1, k, rfl, by omega, by omega, unhide NK⟩, ?_⟩
              show ((k : Int) - 1 + 1).toNat < ((k : Int) + 1).toNat
              omega
          | true =>
            rw [hcl] at c3
            obtain ⟨g1, g2⟩ := half_close (unhide HG) hkL hcl (unhide hrel).good
            have dC0 := new_close (unhide hrel) (txN L[k].nm) (name_size ((unhide HG).name _ (List.getElem_mem hkL)))
            rw [txN_list, g1, if_pos rfl, g2] at dC0
            have dC := hide dC0
            obtain ⟨T, hT⟩ : ∃ T, T = txN L[k].nm := ⟨_, rfl⟩
            rw [← hT] at dC c0
            clear hrel hcl hT g1 g2 dC0
            as_aux_lemma =>
              go_upto_region 29 with (go_at_call 16; refine (unhide dC).mono ?_; rintro e Y1 ⟨rfl, hn1⟩; have NK := hide hn1; clear hn1)
              go_wp2_with fail
              refine ⟨⟨(k : Int) - 1, k, rfl, by omega, by omega, unhide NK⟩, ?_⟩
              show ((k : Int) - 1 + 1).toNat < ((k : Int) + 1).toNat
              omega
        · have hj0 : j = 0 := by omega
          subst hj0
          have NF : Hid (New X3 d2 L w9) := by have h1 := unhide hrel; rw [half_zero] at h1; exact h1
          have LF := hide ((unhide L3).below (unhide NF).bel)
          clear hrel hzj
          go_upto_region 33 with first
            | (go_at_call 9; refine (new_accounts (unhide NF)).mono ?_; rintro e Y1 ⟨ho, hn⟩; obtain ⟨p9, c9, rfl, hl9, _, _, hb9⟩ := ho; have NF1 := hide hn; have L9 := hide hl9; have LF1 := hide ((unhide LF).below hb9); clear hn hl9 hb9)
            | (go_at_call 11; refine (same_any (unhide HNL).symm rfl (by omega) (unhide LF1) (unhide L9)).mono ?_; rintro e Y2 ⟨rfl, nd2, hY2⟩; have NF2 := hide ((unhide NF1).below (below_drewN (Below.refl _ _) nd2)); rw [← hY2] at NF2; clear hY2; rw [sameB_self])
          clear NF NF1 L9 LF LF1 L3
          have HT2 := hide (two_new (unhide N3) (unhide NF2))
          have B2 := hide (unhide NF2).bel
          have hbx := unhide HBX _ (unhide B2)
          have g6 : Y2.cell? ⟨b6, 4, none⟩ = some (.string u.nam) := by have := hbx.1 4 _ rfl; rwa [Nat.zero_add] at this
          have g7 : Y2.cell? ⟨b7, 4, none⟩ = some (.string v.nam) := by have := hbx.2 4 _ rfl; rwa [Nat.zero_add] at this
          have HG6 : Hid (∀ Z, Below Y2.heap.size Y2 Z → Z.cell? ⟨b6, 4, none⟩ = some (.string u.nam) ∧ Z.cell? ⟨b7, 4, none⟩ = some (.string v.nam)) := fun Z hZ => ⟨(hZ.cell (p := ⟨b6, 4, none⟩) (World.block_lt_of_cell? Y2 _ g6)).trans g6, (hZ.cell (p := ⟨b7, 4, none⟩) (World.block_lt_of_cell? Y2 _ g7)).trans g7⟩
          have dU1 := hide (under_any u.nam v.nam (unhide HU).nam)
          have dU2 := hide (under_any v.nam u.nam (unhide HV).nam)
          obtain ⟨q1, hq1⟩ : ∃ q1, q1 = undS u.nam v.nam := ⟨_, rfl⟩
          obtain ⟨q2, hq2⟩ : ∃ q2, q2 = undS v.nam u.nam := ⟨_, rfl⟩
          rw [← hq1] at dU1
          rw [← hq2] at dU2
          have HQ1 := hide hq1; have HQ2 := hide hq2
          clear hbx NF2 hq1 hq2
          have HW2 : Hid (∀ Z, Below Y2.heap.size Y2 Z → Below W.heap.size W Z) := fun Z hZ => unhide HWB Z ((unhide B2).trans (hZ.mono (unhide B2).size))
          cases q1 with
          | true =>
            clear dU2
            as_aux_lemma =>
              go_upto_region 36 with (go_at_call 17; with_reducible refine (unhide dU1 _).mono ?_; rintro e Y3 ⟨rfl, hb3⟩; have BF := hide (unhide HW2 _ hb3); clear hb3)
              go_wp2_with fail
              go_ret
              exact ⟨rfl, unhide BF⟩
          | false =>
            go_upto_region 36 with first
              | (go_at_call 17; with_reducible refine (unhide dU1 _).mono ?_; rintro e Y3 ⟨rfl, hb3⟩; have h6 := (unhide HG6 _ hb3).1; have h7 := (unhide HG6 _ hb3).2; have B3 := hide hb3; clear hb3)
              | (go_at_call 17; with_reducible refine (unhide dU2 _).mono ?_; rintro e Y4 ⟨rfl, hb4⟩; have B4 := hide ((unhide B3).trans (hb4.mono (unhide B3).size)); clear hb4)
            clear g6 g7 h6 h7
            have BF := hide (unhide HW2 _ (unhide B4))
            cases q2 with
            | true =>
              as_aux_lemma =>
                go_wp2_with fail
                go_ret
                exact ⟨rfl, unhide BF⟩
            | false =>
              by_cases h98 : (98 : Int) < (i : Int)
              · as_aux_lemma =>
                  go_wp2_with fail
                  go_ret
                  exact ⟨rfl, unhide BF⟩
              · have hL98 : L.length ≤ 98 := by rw [← unhide HNL]; omega
                have hx1 : v.x ∉ pathL u.x := of_decide_eq_false (unhide HQ1).symm
                have hx2 : u.x ∉ pathL v.x := of_decide_eq_false (unhide HQ2).symm
                have P0 := hide ((unhide HT2).below (unhide B4))
                have e1 := ans_same (unhide HG) hL98 hx2 hx1
                have e2 := ans_same (unhide HG) hL98 hx1 hx2
                have e3 := nxt_swap (unhide HG) hL98 hx2 hx1
                have dA1 := hide ((unhide P0).answer u (unhide HU))
                obtain ⟨E, hE⟩ : ∃ E, E = ansE L u := ⟨_, rfl⟩
                obtain ⟨F, hF⟩ : ∃ F, F = ansE L v := ⟨_, rfl⟩
                obtain ⟨M1, hM1⟩ : ∃ M1, M1 = nxtL L u := ⟨_, rfl⟩
                obtain ⟨M2, hM2⟩ : ∃ M2, M2 = nxtL L v := ⟨_, rfl⟩
                rw [← hM1, ← hF] at e1
                rw [← hM2, ← hE] at e2
                rw [← hM1, ← hM2] at e3
                obtain ⟨M3, hM3⟩ : ∃ M3, M3 = nxtL M1 v := ⟨_, rfl⟩
                rw [← hM3] at e3
                have dA2 : Hid (∀ Z, TwoP X1 d1 M1 d2 L none [] Z → Calls Tryd.prog 10 #[ptr d1, v.val] Z fun e w' => e = .returned (.int .i64 F) ∧ TwoP X1 d1 M3 d2 L none [] w') := fun Z hZ => by
                  have h1 := hZ.answer v (unhide HV)
                  rw [e1, ← hM3] at h1
                  exact h1
                have dA3 : Hid (∀ Z, TwoP X1 d1 M3 d2 L none [] Z → Calls Tryd.prog 10 #[ptr d2, v.val] Z fun e w' => e = .returned (.int .i64 F) ∧ TwoP X1 d1 M3 d2 M2 none [] w') := fun Z hZ => by
                  have h1 := hZ.answer2 v (unhide HV)
                  rw [← hF, ← hM2] at h1
                  exact h1
                have dA4 : Hid (∀ Z, TwoP X1 d1 M3 d2 M2 none [] Z → Calls Tryd.prog 10 #[ptr d2, u.val] Z fun e w' => e = .returned (.int .i64 E) ∧ TwoP X1 d1 M3 d2 M3 none [] w') := fun Z hZ => by
                  have h1 := hZ.answer2 u (unhide HU)
                  rw [e2, ← e3] at h1
                  exact h1
                rw [← hE, ← hM1] at dA1
                obtain ⟨U, hU⟩ : ∃ U, U = u.val := ⟨_, rfl⟩
                obtain ⟨V, hV⟩ : ∃ V, V = v.val := ⟨_, rfl⟩
                have HLU : Hid (∀ Z, Below X1.heap.size X1 Z → (ld33 (.pointer (some ⟨b6, 0, none⟩))).run Tryd.prog Z = .ok U Z ∧ (ld33 (.pointer (some ⟨b7, 0, none⟩))).run Tryd.prog Z = .ok V Z) := fun Z hZ => by
                  rw [hU, hV]
                  exact ⟨run_ld33 (unhide H1X Z hZ).1, run_ld33 (unhide H1X Z hZ).2.1⟩
                rw [← hU] at dA1 dA4
                rw [← hV] at dA2 dA3
                clear e1 e2 e3 hE hF hM1 hM2 hM3 hx1 hx2 dU1 dU2 hU hV HQ1 HQ2
                have l1 := (unhide HLU _ (unhide P0).bel).1
                go_upto_region 39 with (go_at_call 10; refine (unhide dA1).mono ?_; rintro e Z1 ⟨rfl, ht⟩; have P1 := hide ht; clear ht)
                clear l1 dA1
                have l2 := (unhide HLU _ (unhide P1).bel).2
                go_upto_region 40 with (go_at_call 10; refine (unhide dA2 _ (unhide P1)).mono ?_; rintro e Z2 ⟨rfl, ht⟩; have P2 := hide ht; clear ht)
                clear l2 dA2
                have l3 := (unhide HLU _ (unhide P2).bel).2
                go_upto_region 41 with (go_at_call 10; refine (unhide dA3 _ (unhide P2)).mono ?_; rintro e Z3 ⟨rfl, ht⟩; have P3 := hide ht; clear ht)
                clear l3 dA3
                have l4 := (unhide HLU _ (unhide P3).bel).1
                go_upto_region 42 with (go_at_call 10; refine (unhide dA4 _ (unhide P3)).mono ?_; rintro e Z4 ⟨rfl, ht⟩; have P4 := hide ht; clear ht)
                clear l4 dA4
                have h100 : Hid (M3.length ≤ 2305843009213693951) := by have := (unhide P4).good.len; show _ ≤ _; omega
                go_wp2_with first
                  | (go_at_call 9; with_reducible refine (unhide P4).accounts.mono ?_; rintro e Z5 ⟨q12, c12, rfl, hl, ht, _⟩; have P5 := hide ht; have L5 := hide hl.lies; clear ht hl)
                  | (go_at_call 9; with_reducible refine (unhide P5).accounts2.mono ?_; rintro e Z6 ⟨q13, c13, rfl, hl, ht, hb⟩; have P6 := hide ht; have L6 := hide hl.lies; have L56 := hide ((unhide L5).below hb); clear ht hl hb)
                  | (go_at_call 11; refine (same_any rfl rfl (unhide h100) (unhide L56) (unhide L6)).mono ?_; rintro e Z7 ⟨rfl, nd7, hZ7⟩; have P7 := hide ((unhide P6).below (below_drewN (Below.refl _ _) nd7)); rw [← hZ7] at P7; clear hZ7; rw [sameB_self])
                have BZ := hide (unhide H1X _ (unhide P7).bel).2.2
                go_ret
                exact ⟨rfl, unhide BZ⟩
end
end Go.Proofs.YtgimeecklmmbjaaDoor
