import Derived.Test.YtcafhmlpmbkhkaaGreatDoorV03
import Derived.Test.YtcafhmlpmbkhkaaGreatDoorV01
import Derived.Test.YtcafhmlpmbkhkaaGreatDoorW10
import Derived.Laws.StructEq
/- The document's Table (17). -/
namespace Go.Proofs.YtcafhmlpmbkhkaaGreatDoor
open Go Go.Shelf Go.ChangeShapes Go.WideShapes Go.ChangeAt Go.RowKit Go.Maps
set_option linter.unusedVariables false
set_option linter.unusedSimpArgs false
attribute [local go_sem ↓] ldC_is
set_option maxRecDepth 100000 in
set_option maxHeartbeats 32000000 in
theorem rtable_good {w : World} {pt : Option Addr} {nt ct : Nat} {T : List Int} (hT : T.length = nt) (hLT : Lies kI w pt T) {pr : Option Addr} {nr cr : Nat} {X : List Rw} (hX : X.length = nr) (hLX : Lies kW w pr X) (hR : RwAt w X)
    (hok : ∀ r ∈ X, ∀ x ∈ r.x, CeOk x) (hnt : nt ≤ 1048576) (hnr : nr ≤ 1048576) (hsum : (X.map fun r => r.x.length + 1).sum ≤ 1048576) (d : Nat) (hd : d ≤ 6) :
    Calls Tryz.prog 17 #[.agg #[.slice pt nt ct, .slice pr nr cr], .int .i64 (d : Int)] w (TriOut w (ansB (d : Int) T X)) := by
  obtain ⟨w1, hw1⟩ : ∃ W, W = w.alloc (.cells #[.slice pt nt ct, .slice pr nr cr] 36) := ⟨_, rfl⟩
  have b1 : Below w.heap.size w w1 := by rw [hw1]; exact bal (Below.refl _ _) _
  have hh1 : w1.heap[w.heap.size]? = some (.cells #[.slice pt nt ct, .slice pr nr cr] 36) := by rw [hw1]; exact heap_new _ _
  have HH : Hid (∀ W, Below w1.heap.size w1 W → W.cell? ⟨w.heap.size, 0, none⟩ = some (.slice pt nt ct) ∧ W.cell? ⟨w.heap.size, 1, none⟩ = some (.slice pr nr cr)) := fun W hb => by
    have h := (hb.block _ (Array.getElem?_eq_some_iff.1 hh1).1).trans hh1
    exact ⟨by rw [cell_at h]; rfl, by rw [cell_at h]; rfl⟩
  have HB1 := hide b1
  have hw1' := hw1.symm
  have D := hide (rdig_yes (d : Int) w1 (by omega) (by omega))
  have HX := hide hX; have HT := hide hT; have HLT := hide (hLT.below b1); have HLX := hide (hLX.below b1); have HR := hide (hR.below b1); have HOK := hide hok; have HSUM := hide hsum
  clear hw1 b1 hh1 hX hT hLT hLX hR hok hsum
  go_enter Tryz.func17, Tryz.ntmps17
  go_wp2_with (go_at_call 52; refine (unhide D).mono ?_; rintro e wz ⟨rfl, hwz⟩; rw [hwz]; clear hwz wz)
  go_loopw [6, 7] (fun rv iv wr => ∃ (k : Nat) (K : Int), k ≤ nt ∧ iv = .int .i64 K ∧ K = (k : Int) ∧ (∃ p1 c1, rv = .slice p1 k c1) ∧ Hid (wr.ownsRow w1.heap.size 4 1 rv k (kZ.flat ((T.take k).map sdB)) ∧ Below w1.heap.size w1 wr ∧ fstG faultT T = fstG faultT (T.drop k))) (fun _ iv _ => ((nt : Int) - intOf iv).toNat)
  case atStart => exact ⟨0, 0, by omega, rfl, rfl, ⟨_, _, rfl⟩, World.ownsRow_nil _ _ _ _, Below.refl _ _, by simp⟩
  case round =>
    clear hw1' D
    obtain ⟨wo, rfl⟩ : ∃ x, x = wr := ⟨wr, rfl⟩
    obtain ⟨k, K, hk, rfl, hK, ⟨pb, cb, rfl⟩, HA⟩ := hrel
    obtain ⟨l0, l1⟩ := unhide HH wo (unhide HA).2.1
    by_cases hlt : k < nt
    · have hI : K < (nt : Int) := by omega
      have hK0 : 0 ≤ K := by omega
      have hKt : K.toNat = k := by omega
      have hkT : k < T.length := by have := unhide HT; omega
      obtain ⟨b, o, ep, hb, hr⟩ := ((unhide HLT).below (unhide HA).2.1).2 k hkT
      obtain ⟨x, hx⟩ : ∃ x, T[k]? = some x := ⟨T[k], List.getElem?_eq_getElem hkT⟩
      have hc : wo.cell? ⟨b, o + k, none⟩ = some (.int .i64 x) := by
        have := hr 0 (.int .i64 x) (by rw [(List.getElem?_eq_some_iff.1 hx).2.symm]; rfl)
        simpa [kI] using this
      have HXK := hide hx
      have HK := hide hK
      subst ep
      clear hr hb hkT hx hK hlt
      by_cases hz : 1 ≤ x ∧ x ≤ 5
      · have hf : faultT x = 0 := if_pos hz
        have HN : Hid (fstG faultT T = fstG faultT (T.drop (k + 1))) := by show _ = _; rw [(unhide HA).2.2, fstG_cons (unhide HXK), if_pos hf]
        have i1 : ¬ x < 1 := by omega
        have i2 : ¬ 5 < x := by omega
        have HAPP : Hid (∀ z : Bool, sdB x = z → ∃ p' c' w', (Builtin.append_ #[99, 99] 99 #[.slice pb k cb, .slice (some ⟨wo.heap.size, 0, none⟩) 1 1]).run Tryz.prog (wo.alloc (.cells #[.bool z] 4)) = .ok (.slice p' (k + 1) c') w' ∧
            Hid (w'.ownsRow w1.heap.size 4 1 (.slice p' (k + 1) c') (k + 1) (kZ.flat ((T.take (k + 1)).map sdB)) ∧ Below w1.heap.size w1 w' ∧ fstG faultT T = fstG faultT (T.drop (k + 1)))) := fun z hz => by
          obtain ⟨p', c', w', r, o, b⟩ := bool_app (unhide HA).1 (unhide HA).2.1.size z (by omega)
          refine ⟨p', c', w', r, ?_, (unhide HA).2.1.trans b, unhide HN⟩
          rw [take_up (unhide HXK), List.map_append, List.map_cons, List.map_nil, hz]
          exact o
        by_cases h1 : x = 1
        · subst h1
          obtain ⟨p', c', w', r, HE⟩ := unhide HAPP true rfl
          have HR1 := hide r
          clear r HAPP hf hz
          go_wp2_with (at_builtin; refine wpList_append_run rfl _ _ 99 rfl _ _ _ _ rfl rfl (unhide HR1) ?_)
          exact ⟨⟨k + 1, K + 1, by omega, by go_num, by have := unhide HK; omega, ⟨_, _, rfl⟩, unhide HE⟩, by have := unhide HK; simp [intOf]; omega⟩
        · by_cases h5 : x = 5
          · subst h5
            obtain ⟨p', c', w', r, HE⟩ := unhide HAPP true rfl
            have HR1 := hide r
            clear r HAPP hf hz
            go_wp2_with (at_builtin; refine wpList_append_run rfl _ _ 99 rfl _ _ _ _ rfl rfl (unhide HR1) ?_)
            exact ⟨⟨k + 1, K + 1, by omega, by go_num, by have := unhide HK; omega, ⟨_, _, rfl⟩, unhide HE⟩, by have := unhide HK; simp [intOf]; omega⟩
          · obtain ⟨p', c', w', r, HE⟩ := unhide HAPP false (by simp [sdB, h1, h5])
            have q1 : (x == 1) = false := beq_eq_false_iff_ne.2 h1
            have q5 : (x == 5) = false := beq_eq_false_iff_ne.2 h5
            have HR1 := hide r
            clear r HAPP hf hz h1 h5
            go_wp2_with (at_builtin; refine wpList_append_run rfl _ _ 99 rfl _ _ _ _ rfl rfl (unhide HR1) ?_)
            exact ⟨⟨k + 1, K + 1, by omega, by go_num, by have := unhide HK; omega, ⟨_, _, rfl⟩, unhide HE⟩, by have := unhide HK; simp [intOf]; omega⟩
      · have hf : faultT x = 140 := if_neg hz
        have HE : Hid (ansB (d : Int) T X = ([], 140)) := err1 hd (by rw [(unhide HA).2.2, fstG_cons (unhide HXK), hf, if_neg (by decide)]) (by decide)
        have HBW : Hid (Below w.heap.size w wo) := (unhide HB1).trans ((unhide HA).2.1.mono (unhide HB1).size)
        by_cases i1 : x < 1
        · clear hf hz
          go_wp2_with fail
          go_ret2
          exact ⟨by rw [unhide HE]; rfl, unhide HBW⟩
        · have i2 : 5 < x := by omega
          clear hf hz
          go_wp2_with fail
          go_ret2
          exact ⟨by rw [unhide HE]; rfl, unhide HBW⟩
    · have hI : ¬ K < (nt : Int) := by omega
      have hkn : k = nt := by omega
      subst hkn
      have hT0 : fstG faultT T = 0 := by
        rw [(unhide HA).2.2, List.drop_eq_nil_of_le (by have := unhide HT; omega)]
        rfl
      have HT0 := hide hT0
      have hob := (unhide HA).1
      rw [List.take_of_length_le (by have := unhide HT; omega)] at hob
      have HOB := hide hob
      have HBA := hide (unhide HA).2.1
      clear hT0 hob HA hK
      go_wp2_with fail
      clear hI l0 l1
      go_loopw [8, 9] (fun sv iv W => ∃ (m : Nat) (M : Int), m ≤ nr ∧ iv = .int .i64 M ∧ M = (m : Int) ∧ (∃ p1 c1, sv = .slice p1 m c1) ∧ Hid (Rl wo.heap.size W sv ((rowsB d X).take m) ∧ Below wo.heap.size wo W ∧ fstG (fun r => faultR T r.x) X = fstG (fun r => faultR T r.x) (X.drop m) ∧ ∀ r ∈ X.take m, faultR T r.x = 0)) (fun _ iv _ => ((nr : Int) - intOf iv).toNat)
      case atStart => exact ⟨0, 0, by omega, rfl, rfl, ⟨_, _, rfl⟩, by rw [List.take_zero]; exact Rl.nil _ _, Below.refl _ _, by simp, fun r hr => by simp at hr⟩
      case round =>
        obtain ⟨wa, rfl⟩ : ∃ x, x = wr := ⟨wr, rfl⟩
        obtain ⟨m, M, hm, rfl, hM, ⟨ps, cs, rfl⟩, HA⟩ := hrel
        have hbA : Below w1.heap.size w1 wa := (unhide HBA).trans ((unhide HA).2.1.mono (unhide HBA).size)
        have HBW1 := hide hbA
        obtain ⟨l0, l1⟩ := unhide HH wa hbA
        by_cases hlt2 : m < nr
        · have hI : M < (nr : Int) := by omega
          have hM0 : 0 ≤ M := by omega
          have hMt : M.toNat = m := by omega
          have hmX : m < X.length := by have := unhide HX; omega
          obtain ⟨b, o, ep, hb, hr⟩ := ((unhide HLX).below hbA).2 m hmX
          obtain ⟨x, hx⟩ : ∃ x, X[m]? = some x := ⟨X[m], List.getElem?_eq_getElem hmX⟩
          have hc : wa.cell? ⟨b, o + m, none⟩ = some (.slice x.p x.n x.c) := by
            have := hr 0 (.slice x.p x.n x.c) (by rw [(List.getElem?_eq_some_iff.1 hx).2.symm]; rfl)
            simpa [kW] using this
          have hxm := List.mem_of_getElem? hx
          have HXK := hide hx; have HXM := hide hxm
          have HMM := hide hM
          have hlx : x.x.length = x.n := (unhide HR x hxm).1
          have HLXN := hide hlx
          have hcb : ∀ W, Below wa.heap.size wa W → W.cell? ⟨b, o + m, none⟩ = some (.slice x.p x.n x.c) := fun W hW => keep1 hW hb hc
          have HCB := hide hcb
          have hbl : b < wa.heap.size := hb
          subst ep
          clear hr hb hmX hx hM hlt2 hxm hlx hcb hbl
          by_cases hnn : x.n = k
          · have hq1 : ((x.n : Int) != (k : Int)) = false := by rw [hnn]; simp
            have hq2 : ((x.n : Int) == (k : Int)) = true := by rw [hnn]; simp
            have HNN := hide hnn
            clear hnn
            go_upto_region 14 with fail
            go_quiet (fail)
            clear hq1 hq2 hc l0 l1
            go_wp2_with fail
            obtain ⟨wb, hwb⟩ : ∃ W, W = wa.drewN nq := ⟨_, rfl⟩
            rw [← hwb]
            have hab : Below wa.heap.size wa wb := by rw [hwb]; exact below_drewN (Below.refl _ _) nq
            have HAB := hide hab
            have hMr : M < (nr : Int) := hI
            clear hwb hab hI hbA
            obtain ⟨RW, hRW⟩ : ∃ R, R = rowB d x := ⟨_, rfl⟩
            have HRW := hide hRW
            go_loopw [10, 11] (fun wv iv V => ∃ (j : Nat) (J : Int), j ≤ k ∧ iv = .int .i64 J ∧ J = (j : Int) ∧ (∃ p1 c1, wv = .slice p1 j c1) ∧ Hid (V.ownsRow wb.heap.size 9 1 wv j (kT.flat (RW.take j)) ∧ Below wb.heap.size wb V ∧ fltZ x.x T = fltZ (x.x.drop j) (T.drop j))) (fun _ iv _ => ((k : Int) - intOf iv).toNat)
            case atStart => exact ⟨0, 0, by omega, rfl, rfl, ⟨_, _, rfl⟩, World.ownsRow_nil _ _ _ _, Below.refl _ _, by simp⟩
            case round =>
              obtain ⟨wv, rfl⟩ : ∃ x, x = wr := ⟨wr, rfl⟩
              obtain ⟨j, J, hj, rfl, hJ, ⟨pw, cw, rfl⟩, HC⟩ := hrel
              have hbV : Below wa.heap.size wa wv := (unhide HAB).trans ((unhide HC).2.1.mono (unhide HAB).size)
              have hbV1 : Below w1.heap.size w1 wv := (unhide HBW1).trans (hbV.mono (unhide HBW1).size)
              obtain ⟨l0, l1⟩ := unhide HH wv hbV1
              have l2 := unhide HCB wv hbV
              have HBV := hide hbV; have HBV1 := hide hbV1
              by_cases hlt3 : j < k
              · have hI : J < (k : Int) := by omega
                have hJ0 : 0 ≤ J := by omega
                have hJt : J.toNat = j := by omega
                have hJn : J < (x.n : Int) := by have := unhide HNN; omega
                have hjx : j < x.x.length := by have := unhide HNN; have := unhide HLXN; omega
                have hjT : j < T.length := by have := unhide HT; omega
                obtain ⟨y, hy⟩ : ∃ y, x.x[j]? = some y := ⟨x.x[j], List.getElem?_eq_getElem hjx⟩
                obtain ⟨t, ht⟩ : ∃ t, T[j]? = some t := ⟨T[j], List.getElem?_eq_getElem hjT⟩
                obtain ⟨b3, o3, ep3, hb3, hr3⟩ := ((unhide HR x (unhide HXM)).2.below hbV1).2 j hjx
                obtain ⟨b4, o4, ep4, hb4, hr4⟩ := ((unhide HLT).below hbV1).2 j hjT
                rw [(List.getElem?_eq_some_iff.1 hy).2] at hr3
                have x0 : ∀ P : Kg.Bel wv, P.W.cell? ⟨w.heap.size, 0, none⟩ = some (.slice pt k ct) := fun P => (unhide HH P.W (hbV1.trans (P.h.mono hbV1.size))).1
                have x1 : ∀ P : Kg.Bel wv, P.W.cell? ⟨w.heap.size, 1, none⟩ = some (.slice (some ⟨b, o, none⟩) nr cr) := fun P => (unhide HH P.W (hbV1.trans (P.h.mono hbV1.size))).2
                have x2 : ∀ P : Kg.Bel wv, P.W.cell? ⟨b, o + m, none⟩ = some (.slice x.p x.n x.c) := fun P => unhide HCB P.W (hbV.trans (P.h.mono hbV.size))
                have x3 : ∀ P : Kg.Bel wv, (ldC (.pointer (some ⟨b3, o3 + j * 3, none⟩))).run Tryz.prog P.W = .ok (cvC y) P.W := fun P => run_ldC (fun i u hu => keep1 P.h hb3 (hr3 i u hu))
                have x4 : ∀ P : Kg.Bel wv, P.W.cell? ⟨b4, o4 + j, none⟩ = some (.int .i64 t) := fun P => by
                  have := keep1 P.h hb4 (hr4 0 (.int .i64 t) (by rw [(List.getElem?_eq_some_iff.1 ht).2.symm]; rfl))
                  simpa [kI] using this
                obtain ⟨S, hS⟩ : ∃ S, S = txB (ansC d y t).1 := ⟨_, rfl⟩
                obtain ⟨E, hE⟩ : ∃ E, E = (ansC d y t).2 := ⟨_, rfl⟩
                have DD : Hid (∀ P : Kg.Bel wv, Calls Tryz.prog 70 #[cvC y, .int .i64 t, .int .i64 (d : Int)] P.W fun e w' => e = .returned (.tuple #[.string S, .int .i64 E]) ∧ ∃ q : Kg.Bel wv, w' = q.W) := fun P => by
                  rw [hS, hE]
                  exact (rcell_any y t (fstG_zero (unhide HT0) t (List.mem_of_getElem? ht)) d hd (unhide HOK x (unhide HXM) y (List.mem_of_getElem? hy)) P.W).mono fun e w' ⟨h1, h2⟩ => ⟨h1, ⟨w', P.h.trans (h2.mono P.h.size)⟩, rfl⟩
                obtain ⟨xp, hxp⟩ : ∃ q, q = x.p := ⟨_, rfl⟩
                rw [← hxp] at ep3 x2
                subst ep3 ep4
                obtain ⟨vy, hvy⟩ : ∃ v, v = cvC y := ⟨_, rfl⟩
                rw [← hvy] at x3 DD
                have HY := hide hy; have HTJ := hide ht; have HSE := hide hS; have HEE := hide hE; have HJ := hide hJ
                clear hr3 hr4 hb3 hb4 hjx hjT hy ht hS hE hxp hvy hbV hbV1 l1 l2 hJ hlt3
                go_upto_region 20 with fail
                refine Kg.wp_region_quiet_below (by kernel_rfl) (by kernel_rfl) ?_
                repeat (go_big_quiet_step (first | (go_at_call 70; refine unhide DD _)))
                refine wpQuiet_nil ?_
                rintro _ ⟨P, rfl⟩
                have HBP : Hid (Below wb.heap.size wb P.W) := (unhide HC).2.1.trans (P.h.mono (unhide HC).2.1.size)
                have HOW : Hid (P.W.ownsRow wb.heap.size 9 1 (.slice pw j cw) j (kT.flat (RW.take j))) := own_below (unhide HC).1 P.h
                clear x0 x1 x2 x3 x4 DD
                by_cases hz : faultC y t = 0
                · have hE0 : E = 0 := by rw [unhide HEE]; unfold ansC; rw [if_pos hz]
                  have hS0 : S = txB (cTx d y) := by rw [unhide HSE]; unfold ansC; rw [if_pos hz]
                  subst hE0
                  obtain ⟨p', c', w', r, o', b'⟩ := text_app (unhide HOW) (unhide HBP).size (cTx d y) (by omega)
                  rw [← hS0] at r
                  have HN : Hid (w'.ownsRow wb.heap.size 9 1 (.slice p' (j + 1) c') (j + 1) (kT.flat (RW.take (j + 1))) ∧ Below wb.heap.size wb w' ∧ fltZ x.x T = fltZ (x.x.drop (j + 1)) (T.drop (j + 1))) := by
                    refine ⟨?_, (unhide HBP).trans b', ?_⟩
                    · have e : RW.take (j + 1) = RW.take j ++ [cTx d y] := by
                        rw [unhide HRW]
                        exact take_succ_map (unhide HY)
                      rw [e]
                      exact o'
                    · rw [(unhide HC).2.2, fltZ_cons (unhide HY) (unhide HTJ), if_pos hz]
                  have HR1 := hide r
                  clear r o' b' hz hS0
                  go_wp2_with (at_builtin; refine wpList_append_run rfl _ _ 93 rfl _ _ _ _ rfl rfl (unhide HR1) ?_)
                  exact ⟨⟨j + 1, J + 1, by omega, by go_num, by have := unhide HJ; omega, ⟨_, _, rfl⟩, unhide HN⟩, by have := unhide HJ; simp [intOf]; omega⟩
                · have hE1 : E = faultC y t := by rw [unhide HEE]; unfold ansC; rw [if_neg hz]
                  have hEb : (E != 0) = true := by rw [bne_iff_ne, hE1]; exact hz
                  have hEq : (E == 0) = false := beq_eq_false_iff_ne.2 (by rw [hE1]; exact hz)
                  have hfr : faultR T x.x = E := by
                    unfold faultR
                    rw [if_pos (by have := unhide HNN; have := unhide HLXN; have := unhide HT; omega), (unhide HC).2.2, fltZ_cons (unhide HY) (unhide HTJ), if_neg hz, hE1]
                  have hE2 : E ≠ 0 := by rw [hE1]; exact hz
                  have HE : Hid (ansB (d : Int) T X = ([], E)) := err2 hd (unhide HT0) (by rw [(unhide HA).2.2.1, fstG_cons (unhide HXK), hfr, if_neg hE2]) hE2
                  have HBW : Hid (Below w.heap.size w P.W) := (unhide HB1).trans (((unhide HBV1).trans (P.h.mono (unhide HBV1).size)).mono (unhide HB1).size)
                  clear hE1 hfr hE2 hz
                  go_wp2_with fail
                  go_ret2
                  exact ⟨by rw [unhide HE]; rfl, unhide HBW⟩
              · have hI : ¬ J < (k : Int) := by omega
                have hjk : j = k := by omega
                subst hjk
                have hRl : RW.length = j := by rw [unhide HRW, rowB, List.length_map, unhide HLXN, unhide HNN]
                have how := (unhide HC).1
                rw [List.take_of_length_le (by omega)] at how
                have hri : RowIs wv ⟨pw, j, cw⟩ RW := row_is hRl how
                have hrlv : Rl wo.heap.size wv (.slice ps m cs) ((rowsB d X).take m) := (unhide HA).1.below hbV
                have hml : ((rowsB d X).take m).length = m := by rw [List.length_take, rowsB, List.length_map, unhide HX]; omega
                obtain ⟨p', c', w', r, rl', bl', _⟩ := hrlv.app (Nat.le_trans (unhide HA).2.1.size hbV.size) hri (by rw [hml]; omega)
                rw [hml] at r rl'
                have HN : Hid (Rl wo.heap.size w' (.slice p' (m + 1) c') ((rowsB d X).take (m + 1)) ∧ Below wo.heap.size wo w' ∧ fstG (fun r => faultR T r.x) X = fstG (fun r => faultR T r.x) (X.drop (m + 1)) ∧ ∀ r ∈ X.take (m + 1), faultR T r.x = 0) := by
                  have hf0 : faultR T x.x = 0 := by
                    unfold faultR
                    rw [if_pos (by have := unhide HNN; have := unhide HLXN; have := unhide HT; omega), (unhide HC).2.2, List.drop_eq_nil_of_le (by have := unhide HNN; have := unhide HLXN; omega)]
                    rfl
                  refine ⟨?_, ((unhide HA).2.1.trans (hbV.mono (unhide HA).2.1.size)).trans bl', ?_, fun q hq => ?_⟩
                  · have e : (rowsB d X).take (m + 1) = (rowsB d X).take m ++ [RW] := by
                      rw [unhide HRW]
                      exact take_succ_map (unhide HXK)
                    rw [e]
                    exact rl'
                  · rw [(unhide HA).2.2.1, fstG_cons (unhide HXK), if_pos hf0]
                  · rw [take_up (unhide HXK), List.mem_append, List.mem_singleton] at hq
                    rcases hq with hq | rfl
                    · exact (unhide HA).2.2.2 q hq
                    · exact hf0
                have HR1 := hide r
                clear r rl' bl' hml hrlv hri how hRl hJ hlt3 hbV hbV1 l2 l1
                go_wp2_with (at_builtin; refine wpList_append_run rfl _ _ 94 rfl _ _ _ _ rfl rfl (unhide HR1) ?_)
                exact ⟨⟨m + 1, M + 1, by omega, by go_num, by have := unhide HMM; omega, ⟨_, _, rfl⟩, unhide HN⟩, by have := unhide HMM; simp [intOf]; omega⟩
          · have hf : faultR T x.x = 140 := if_neg (by have := unhide HLXN; have := unhide HT; omega)
            have HE : Hid (ansB (d : Int) T X = ([], 140)) := err2 hd (unhide HT0) (by rw [(unhide HA).2.2.1, fstG_cons (unhide HXK), hf, if_neg (by decide)]) (by decide)
            have HBW : Hid (∀ q, Below w.heap.size w (wa.drewN q)) := fun q => (unhide HB1).trans (below_drewN (hbA.mono (unhide HB1).size) q)
            have hq1 : ((x.n : Int) != (k : Int)) = true := by rw [bne_iff_ne]; omega
            have hq2 : ((x.n : Int) == (k : Int)) = false := beq_eq_false_iff_ne.2 (by omega)
            clear hf hbA hnn
            go_upto_region 14 with fail
            go_quiet (fail)
            go_wp2_with fail
            go_ret2
            exact ⟨by rw [unhide HE]; rfl, unhide HBW _⟩
        · have hI : ¬ M < (nr : Int) := by omega
          have hmn : m = nr := by omega
          subst hmn
          have hall : ∀ r ∈ X, faultR T r.x = 0 := by
            have h := (unhide HA).2.2.2
            rwa [List.take_of_length_le (by have := unhide HX; omega)] at h
          have hlen : ∀ r ∈ X, r.x.length = k := fun r hr => by rw [frow_len (hall r hr), unhide HT]
          have hfine : ∀ r ∈ X, ∀ x ∈ r.x, CeFine x := fun r hr => frow_fine (hall r hr) (unhide HOK r hr)
          have hsz : m * (k + 1) ≤ 1048576 := by rw [← unhide HX, ← sum_rows hlen]; exact unhide HSUM
          have HEQ : Hid (ansB (d : Int) T X = (gridT (rgt (sdL T)) (rowsB d X), 0)) := by
            have e : errB (d : Int) T X = 0 := by
              unfold errB
              rw [if_neg (by omega), unhide HT0, if_neg (by simp), (unhide HA).2.2.1, List.drop_eq_nil_of_le (by have := unhide HX; omega)]
              rfl
            show _ = _
            unfold ansB
            rw [if_pos e]
            rfl
          have hrl := (unhide HA).1
          have hrows : (rowsB d X).length = m := by rw [rowsB, List.length_map, unhide HX]
          rw [List.take_of_length_le (by omega)] at hrl
          have hob := own_below (unhide HOB) (unhide HA).2.1
          have DG := rgrid_opt (cr := cs) (cb := cb) hrows.symm hrl.rd (B := T.map sdB) (nb := k) (pb := pb) (by rw [List.length_map, unhide HT]) (fun c q hq => by
            have hc : c < k := by
              have := (List.getElem?_eq_some_iff.1 hq).1
              rw [List.length_map, unhide HT] at this
              exact this
            obtain ⟨g, c9, e9⟩ := own_open hob (by omega)
            injection e9 with e8 _ e7
            subst e8
            refine ⟨g, rfl, ?_⟩
            rw [hob.cellAt c (by omega), kZ_flat, List.getElem?_map, hq]
            rfl) (N := k) (fun r hr => by
            obtain ⟨x, hx, rfl⟩ := List.mem_map.1 hr
            show (x.x.map (cTx d)).length ≤ k
            rw [List.length_map, hlen x hx]
            exact Nat.le_refl _) (by omega) (by omega) (M := 1048676) (fun r hr t ht => by
            obtain ⟨x, hx, rfl⟩ := List.mem_map.1 hr
            obtain ⟨y, hy, rfl⟩ := List.mem_map.1 ht
            exact cTx_len hd (hfine x hx y hy)) (by decide) (by rw [hrows]; exact tab_size hsz (by omega)) (by omega)
          rw [sdB_rgt] at DG
          have DG := hide DG
          have HBW : Hid (Below w.heap.size w wa) := (unhide HB1).trans (hbA.mono (unhide HB1).size)
          clear hall hlen hfine hsz hrl hrows hob hbA HA hM
          go_wp2_with fail
          refine (unhide DG).mono ?_
          rintro e wz ⟨rfl, hwz⟩
          rw [hwz]
          clear hwz DG
          go_wp2_with fail
          go_ret2
          exact ⟨by rw [unhide HEQ]; rfl, unhide HBW⟩
theorem rtable_any {w : World} {pt : Option Addr} {nt ct : Nat} {T : List Int} (hT : T.length = nt) (hLT : Lies kI w pt T) {pr : Option Addr} {nr cr : Nat} {X : List Rw} (hX : X.length = nr) (hLX : Lies kW w pr X) (hR : RwAt w X)
    (hok : ∀ r ∈ X, ∀ x ∈ r.x, CeOk x) (hnt : nt ≤ 1048576) (hnr : nr ≤ 1048576) (hsum : (X.map fun r => r.x.length + 1).sum ≤ 1048576) (dg : Int) :
    Calls Tryz.prog 17 #[.agg #[.slice pt nt ct, .slice pr nr cr], .int .i64 dg] w (TriOut w (ansB dg T X)) := by
  by_cases hbad : dg < 0 ∨ 6 < dg
  · have HE : Hid (ansB dg T X = ([], 1)) := by
      have e : errB dg T X = 1 := by unfold errB; rw [if_pos hbad]
      show _ = _
      unfold ansB
      rw [e, if_neg (by decide)]
    obtain ⟨w1, hw1⟩ : ∃ W, W = w.alloc (.cells #[.slice pt nt ct, .slice pr nr cr] 36) := ⟨_, rfl⟩
    have HB1 : Hid (Below w.heap.size w w1) := by show Below _ _ _; rw [hw1]; exact bal (Below.refl _ _) _
    have hw1' := hw1.symm
    have D := hide (rdig_no dg w1 hbad)
    clear hw1 hbad hX hT hLT hLX hR hok hsum
    go_enter Tryz.func17, Tryz.ntmps17
    go_wp2_with (go_at_call 52; refine (unhide D).mono ?_; rintro e wz ⟨rfl, hwz⟩; rw [hwz]; clear hwz wz)
    go_ret2
    exact ⟨by rw [unhide HE]; rfl, unhide HB1⟩
  · obtain ⟨d, rfl⟩ : ∃ d : Nat, dg = (d : Int) := ⟨dg.toNat, by omega⟩
    exact rtable_good hT hLT hX hLX hR hok hnt hnr hsum d (by omega)
end Go.Proofs.YtcafhmlpmbkhkaaGreatDoor
/- The keeper's cells: mark 152, same 160, Room 60, Kept 73. -/
namespace Go.Proofs.YtcafhmlpmbkhkaaGreatDoor.Kg
open Go Go.Shelf Go.ChangeShapes Go.WideShapes Go.ChangeAt Go.RowKit Go.Maps
set_option linter.unusedVariables false
set_option linter.unusedSimpArgs false
def mkC (id k : Nat) : Ce := ⟨-(id : Int) - 1, -(k : Int) - 1, ⟨#[]⟩⟩
def mklC (id n : Nat) : List Ce := (List.range n).map (mkC id)
theorem mklC_len (id n : Nat) : (mklC id n).length = n := by simp [mklC]
theorem mklC_get (id n k : Nat) (h : k < (mklC id n).length) : (mklC id n)[k] = mkC id k := by simp [mklC]
theorem mklC_succ (id n : Nat) : mklC id (n + 1) = mklC id n ++ [mkC id n] := by simp [mklC, List.range_succ]
theorem retC {tmps : Array Value} {w : World} {b : Nat} {x : Ce} (hp : tmps[4]?.getD undef = .pointer (some ⟨b, 0, none⟩)) (h : w.heap[b]? = some (.cells #[.int .i64 x.ty, .int .i64 x.num, .string x.str] 43 (0, 0))) :
    (results Tryz.f152 tmps).run Tryz.prog w = .ok (cvC x) w := by
  have q0 : w.cell? ⟨b, 0, none⟩ = some (.int .i64 x.ty) := by rw [cell_at h]; rfl
  have q1 : w.cell? ⟨b, 1, none⟩ = some (.int .i64 x.num) := by rw [cell_at h]; rfl
  have q2 : w.cell? ⟨b, 2, none⟩ = some (.string x.str) := by rw [cell_at h]; rfl
  simp [results, hp, asAddr, go_sem, q0, q1, q2, cvC]
set_option maxRecDepth 100000 in
set_option maxHeartbeats 2000000 in
theorem markC (id k : Nat) (hid : id < 1000000) (hk : k < 1000000) (w : World) : Calls Tryz.prog 152 #[.int .i64 (id : Int), .int .i64 (k : Int)] w fun e w' => e = .returned (cvC (mkC id k)) ∧ Below w.heap.size w w' := by
  obtain ⟨w1, hw1⟩ : ∃ w1, w1 = w.alloc (.cells #[.int .i64 0, .int .i64 0, .string ⟨#[]⟩] 43) := ⟨_, rfl⟩
  have b1 : Below w.heap.size w w1 := by rw [hw1]; exact bal (Below.refl _ _) _
  have hR2 : w1.heap[w.heap.size]? = some (.cells #[.int .i64 0, .int .i64 0, .string ⟨#[]⟩] 43 (0, 0)) := by rw [hw1]; exact heap_new _ _
  have q0 : w1.cell? ⟨w.heap.size, 0, none⟩ = some (.int .i64 0) := by rw [cell_at hR2]; rfl
  have f0 : w1.frozen? ⟨w.heap.size, 0, none⟩ = false := froz_at hR2
  have q1 : w1.cell? ⟨w.heap.size, 1, none⟩ = some (.int .i64 0) := by rw [cell_at hR2]; rfl
  have f1 : w1.frozen? ⟨w.heap.size, 1, none⟩ = false := froz_at hR2
  have q2 : w1.cell? ⟨w.heap.size, 2, none⟩ = some (.string ⟨#[]⟩) := by rw [cell_at hR2]; rfl
  have f2 : w1.frozen? ⟨w.heap.size, 2, none⟩ = false := froz_at hR2
  have HR2 := hide hR2
  have B2 := hide b1
  have s0 : -9223372036854775808 ≤ -(k : Int) := by omega
  have s1 : -(k : Int) ≤ 9223372036854775807 := by omega
  have s2 : -9223372036854775808 ≤ -(k : Int) - 1 := by omega
  have s3 : -(k : Int) - 1 ≤ 9223372036854775807 := by omega
  have t0 : -9223372036854775808 ≤ -(id : Int) := by omega
  have t1 : -(id : Int) ≤ 9223372036854775807 := by omega
  have t2 : -9223372036854775808 ≤ -(id : Int) - 1 := by omega
  have t3 : -(id : Int) - 1 ≤ 9223372036854775807 := by omega
  have hw1' := hw1.symm
  clear hw1 b1 hR2
  go_enter Tryz.func152, Tryz.ntmps152
  go_wp2_with fail
  refine bodyPost_ret (retC (b := w.heap.size) (x := mkC id k) (by rfl) ?_) rfl ⟨rfl, ?_⟩
  · rw [(Go.heap_setCell_same _ _ _ _ _ _ (Go.heap_setCell_same _ _ _ _ _ _ (Go.heap_setCell_same _ _ _ _ _ _ (unhide HR2))))]
    rfl
  · exact ((((unhide B2).setCell (p := ⟨w.heap.size, 0, none⟩) (Nat.le_refl _) _).setCell (p := ⟨w.heap.size, 1, none⟩) (Nat.le_refl _) _).setCell (p := ⟨w.heap.size, 2, none⟩) (Nat.le_refl _) _)
set_option maxRecDepth 100000 in
set_option maxHeartbeats 2000000 in
theorem eqkC (x : Ce) (w : World) : Calls Tryz.prog 160 #[cvC x, cvC x] w fun e w' => e = .returned (.bool true) ∧ Below w.heap.size w w' := by
  have sd : Tryz.prog.underlying 43 = some (.struct (Tryz.prog.fieldsOf 43)) := by kernel_rfl
  have sh : Tryz.prog.stoodInHeld 43 = false := by kernel_rfl
  have eg : Tryz.prog.eqGuardType Tryz.prog.depth 43 = false := by kernel_rfl
  have heq : ∀ w, (Op.equalIn 10000 43 (.agg #[.int .i64 x.ty, .int .i64 x.num, .string x.str]) (.agg #[.int .i64 x.ty, .int .i64 x.num, .string x.str])).run Tryz.prog w = .ok true w := fun w => by
    rw [run_equalIn_agg w 9999 43 _ _ sd sh]
    have fl : (Tryz.prog.fieldsOf 43).toList.map (fun f => (f.type, f.offset, f.name == "_")) = [(3, 0, false), (2, 1, false), (9, 2, false)] := by kernel_rfl
    obtain ⟨f0, f1, f2, hf⟩ : ∃ f0 f1 f2, (Tryz.prog.fieldsOf 43).toList = [f0, f1, f2] := by
      have h := congrArg List.length fl
      rw [List.length_map] at h
      match hq : (Tryz.prog.fieldsOf 43).toList, h with
      | [f0, f1, f2], _ => exact ⟨f0, f1, f2, rfl⟩
    have h := fl
    rw [hf] at h ⊢
    simp at h
    simp [Op.eqFields, go_sem, h, Tryz.underlying9, Tryz.underlying2, Tryz.underlying3, Tryz.underlying4]
  unfold cvC
  go_enter Tryz.func160, Tryz.ntmps160
  go_wp2_with fail
  go_ret
  exact ⟨rfl, bal (bal (Below.refl _ _) _) _⟩
/-- what Room hands back -/
def RoomOutC (X : List Ce) (n : Nat) (w : World) (e : Ending) (w' : World) : Prop :=
  ∃ g c, e = .returned (.slice (some ⟨g, 0, none⟩) (n + 64) c) ∧ w'.ownsRow w.heap.size 43 3 (.slice (some ⟨g, 0, none⟩) (n + 64) c) (n + 64) (kC.flat (X ++ mklC 700000 64)) ∧ Below w.heap.size w w'
/-- the copy while marks are put behind it -/
structure RoomAtC (X : List Ce) (n : Nat) (w : World) (j : Nat) (v : Value) (wr : World) : Prop where
  own : wr.ownsRow w.heap.size 43 3 v (n + j) (kC.flat (X ++ mklC 700000 j))
  bel : Below w.heap.size w wr
theorem own_lit0C (w : World) : (w.alloc (.cells #[] 43)).ownsRow w.heap.size 43 3 (.slice (some ⟨w.heap.size, 0, none⟩) 0 0) 0 (kC.flat []) := by
  refine ⟨by simp [Kd.flat], .inr ⟨w.heap.size, 0, #[], rfl, Nat.le_refl _, ?_, Nat.le_refl _, Nat.zero_le _, by simp, by simp [Kd.flat]⟩⟩
  exact heap_new w _
set_option maxRecDepth 100000 in
set_option maxHeartbeats 4000000 in
theorem roomC (X : List Ce) (pp : Option Addr) (n cc : Nat) (hX : X.length = n) (hcc : pp = none → cc = 0) (hn : n ≤ 1048576) (w : World) (hP : Pw w) (hL : Lies kC w pp X) :
    Calls Tryz.prog 60 #[.slice pp n cc] w fun e w' => RoomOutC X n w e w' := by
  have b0 : Below w.heap.size w (w.alloc (.cells #[] 43)) := bal (Below.refl _ w) _
  obtain ⟨p5, c5, w5, r5, o5, b5, _⟩ := run_app (K := kC) kC_ok (L := []) (M := X) 41 (own_lit0C w) b0.size pp cc hcc (hL.below b0) (by rw [hX]; omega)
  rw [hX, Nat.zero_add] at r5 o5
  rw [List.nil_append] at o5
  have HS : Hid (RoomAtC X n w 0 (.slice p5 n c5) w5) := ⟨by rw [show mklC 700000 0 = [] from rfl, List.append_nil]; exact o5, b0.trans (b5.mono (Nat.le_refl _))⟩
  have HR5 := hide r5; have HPW := hide hP
  clear r5 o5 b5 b0 hP hL hcc hX
  go_enter Tryz.func60, Tryz.ntmps60
  go_wp2_with (at_builtin; refine wpList_append_run rfl _ _ 41 rfl _ _ _ _ rfl rfl (unhide HR5) ?_)
  go_loopw [3, 4] (fun v i wr => ∃ j : Nat, j ≤ 64 ∧ i = .int .i64 (j : Int) ∧ (∃ p' c', v = .slice p' (n + j) c') ∧ Hid (RoomAtC X n w j v wr)) (fun _ i _ => 64 - (intOf i).toNat)
  case atStart => exact ⟨0, by omega, rfl, ⟨_, _, rfl⟩, unhide HS⟩
  case round =>
    obtain ⟨j, hj, rfl, ⟨p7, c7, rfl⟩, HA⟩ := hrel
    have hA := unhide HA
    by_cases hlt : j < 64
    · have hI : (j : Int) < 64 := by omega
      have hmk := hide (markC 700000 j (by omega) (by omega) wr)
      obtain ⟨O, hO⟩ : ∃ O, O = Obj.cells #[.int .i64 (-((700000 : Nat) : Int) - 1), .int .i64 (-(j : Int) - 1), .string ⟨#[]⟩] 43 := ⟨_, rfl⟩
      have HSTEP : Hid (∀ w2, Below wr.heap.size wr w2 → ∃ p' c' w', (Builtin.append_ #[41, 41] 41 #[.slice p7 (n + j) c7, .slice (some ⟨w2.heap.size, 0, none⟩) 1 1]).run Tryz.prog (w2.alloc O) = .ok (.slice p' (n + j + 1) c') w' ∧ RoomAtC X n w (j + 1) (.slice p' (n + j + 1) c') w') := fun w2 hb => by
        have hba := bal hb O
        obtain ⟨p', c', w', r, o, b, _⟩ := run_app (K := kC) kC_ok (M := [mkC 700000 j]) 41 (W := w2.alloc O) (row_keep hA.own fun q hq => hba.block q (hA.own.lt q hq).2) (Nat.le_trans hA.bel.size hba.size) (some ⟨w2.heap.size, 0, none⟩) 1 (fun h => by cases h) (by rw [hO]; exact one_lies w2 (mkC 700000 j) 43 _ rfl) (by rw [List.length_singleton]; omega)
        simp only [List.length_singleton] at r o
        refine ⟨p', c', w', r, ⟨?_, (hA.bel.trans (hba.mono hA.bel.size)).trans b⟩⟩
        rw [mklC_succ, ← List.append_assoc]
        exact o
      clear hA
      unfold cvC at hmk
      simp only [mkC] at hmk
      subst hO
      go_wp2_with fail
      refine (unhide hmk).mono ?_
      rintro e w2 ⟨rfl, hb⟩
      obtain ⟨p', c', w', r, hrel⟩ := unhide HSTEP w2 hb
      have HREL := hide hrel
      clear hb hrel HSTEP
      go_wp2_with (at_builtin; refine wpList_append_run rfl _ _ 41 rfl _ _ _ _ rfl rfl r ?_)
      exact ⟨⟨j + 1, by omega, by go_num, ⟨_, _, rfl⟩, unhide HREL⟩, by simp [intOf]; omega⟩
    · have hj64 : j = 64 := by omega
      subst hj64
      have HF : Hid (∀ e, e = Ending.returned (.slice p7 (n + 64) c7) → RoomOutC X n w e wr) := fun e he => by
        obtain ⟨g, c, hv⟩ := own_open hA.own (by omega)
        injection hv with h1 _ h2
        subst h1 h2
        exact ⟨g, c7, he, hA.own, hA.bel⟩
      clear hA
      go_wp2_with fail
      go_ret
      exact unhide HF _ rfl
attribute [local go_sem ↓] ldC_is
theorem ldBC {w : World} {p : Option Addr} {L : List Ce} (h : Lies kC w p L) {k : Nat} (hk : k < L.length) : ∃ b o, p = some ⟨b, o, none⟩ ∧ ∀ W, Below w.heap.size w W → (ldC (.pointer (some ⟨b, o + k * 3, none⟩))).run Tryz.prog W = .ok (cvC L[k]) W := by
  obtain ⟨b, o, e, hb, hr⟩ := h.2 k hk
  exact ⟨b, o, e, fun W hW => run_ldC (fun j u hu => keep1 hW hb (hr j u hu))⟩
set_option maxRecDepth 100000 in
set_option maxHeartbeats 8000000 in
theorem keptC (X : List Ce) (pp pg : Option Addr) (n cc c : Nat) (hX : X.length = n) (hn : n ≤ 4611686018427387904) (w : World) (hP : Pw w) (hL : Lies kC w pp X) (hG : Lies kC w pg (X ++ mklC 700000 64)) :
    Calls Tryz.prog 73 #[.slice pg (n + 64) c, .slice pp n cc] w fun e w' => e = .returned (.bool true) ∧ Below w.heap.size w w' := by
  have HP := hide hP; have HL := hide hL; have HG := hide hG; have HX := hide hX
  clear hP hL hG hX
  go_enter Tryz.func73, Tryz.ntmps73
  go_wp2_with fail
  go_loopw [5] (fun i wr => ∃ (k : Nat) (K : Int), k ≤ n + 64 ∧ i = .int .i64 K ∧ K = (k : Int) ∧ Hid (Below w.heap.size w wr)) (fun i _ => ((n : Int) + 64 - intOf i).toNat)
  case atStart => exact ⟨0, 0, by omega, rfl, rfl, Below.refl _ _⟩
  case round =>
    obtain ⟨k, K, hk, rfl, hK, HB⟩ := hrel
    have hb := unhide HB
    have HK := hide hK
    have hK0 : 0 ≤ K := by omega
    have hKt : K.toNat = k := by omega
    by_cases hlt : k < n + 64
    · have hI : K < (n : Int) + 64 := by omega
      obtain ⟨b1, o1, e1, r1⟩ := ldBC ((unhide HG).below hb) (k := k) (by rw [List.length_append, unhide HX, mklC_len]; exact hlt)
      subst e1
      by_cases hkn : k < n
      · obtain ⟨b2, o2, e2, r2⟩ := ldBC ((unhide HL).below hb) (k := k) (by rw [unhide HX]; exact hkn)
        subst e2
        rw [List.getElem_append_left (by rw [unhide HX]; exact hkn)] at r1
        obtain ⟨vx, hvx⟩ : ∃ vx, vx = cvC (X[k]'(by rw [unhide HX]; exact hkn)) := ⟨_, rfl⟩
        rw [← hvx] at r1 r2
        have x0 : ∀ P : Bel wr, (ldC (.pointer (some ⟨b1, o1 + k * 3, none⟩))).run Tryz.prog P.W = .ok vx P.W := fun P => r1 P.W P.h
        have y0 : ∀ P : Bel wr, (ldC (.pointer (some ⟨b2, o2 + k * 3, none⟩))).run Tryz.prog P.W = .ok vx P.W := fun P => r2 P.W P.h
        have HSM : Hid (∀ P : Bel wr, Calls Tryz.prog 160 #[vx, vx] P.W fun e w'' => e = .returned (.bool true) ∧ ∃ q : Bel wr, w'' = q.W) := fun P => by
          rw [hvx]
          exact (eqkC _ P.W).mono (fun e w' ⟨h1, h2⟩ => ⟨h1, ⟨w', P.h.trans (h2.mono P.h.size)⟩, rfl⟩)
        subst hK
        have hI1 : (k : Int) < (n : Int) := by omega
        have hI2 : ¬ (n : Int) ≤ (k : Int) := by omega
        have hN2 : ¬ n ≤ k := by omega
        have hD2 : decide (n ≤ k) = false := decide_eq_false hN2
        clear r1 r2 hvx hb hk HK hKt
        go_wp2_with fail
        refine wp_region_quiet_below (by kernel_rfl) (by kernel_rfl) ?_
        repeat (go_big_quiet_step (first | (go_at_call 160; refine unhide HSM _)))
        refine wpQuiet_nil ?_
        rintro _ ⟨P, rfl⟩
        clear x0 y0
        go_wp2_with fail
        exact ⟨⟨k + 1, (k : Int) + 1, by omega, by go_num, by omega, (unhide HB).trans (P.h.mono (unhide HB).size)⟩, by simp [intOf]; omega⟩
      · obtain ⟨j, hjk⟩ : ∃ j, k = n + j := ⟨k - n, by omega⟩
        have ej : ∀ h, (X ++ mklC 700000 64)[k]'h = mkC 700000 j := fun h => by
          have e9 : (X ++ mklC 700000 64)[k]? = some (mkC 700000 j) := by
            rw [List.getElem?_append_right (by rw [unhide HX]; omega), unhide HX, show k - n = j by omega, List.getElem?_eq_getElem (by rw [mklC_len]; omega), mklC_get]
          rw [List.getElem?_eq_getElem h] at e9
          exact Option.some.inj e9
        rw [ej] at r1
        obtain ⟨vx, hvx⟩ : ∃ vx, vx = cvC (mkC 700000 j) := ⟨_, rfl⟩
        rw [← hvx] at r1
        have x0 : ∀ P : Bel wr, (ldC (.pointer (some ⟨b1, o1 + k * 3, none⟩))).run Tryz.prog P.W = .ok vx P.W := fun P => r1 P.W P.h
        have hI1 : ¬ K < (n : Int) := by omega
        have hI2 : (n : Int) ≤ K := by omega
        have hI3 : K - (n : Int) = (j : Int) := by omega
        have hwj : IntKind.i64.wrap (j : Int) = (j : Int) := by rw [IntKind.wrap_i64]; omega
        have hwK : IntKind.i64.wrap (K - (n : Int)) = (j : Int) := by rw [hI3, hwj]
        have hD1 : decide (K < (n : Int)) = false := decide_eq_false hI1
        have hD2 : decide ((n : Int) ≤ K) = true := decide_eq_true hI2
        have HMK : Hid (∀ P : Bel wr, Calls Tryz.prog 152 #[.int .i64 700000, .int .i64 (j : Int)] P.W fun e w'' => e = .returned vx ∧ ∃ q : Bel wr, w'' = q.W) := fun P => by
          rw [hvx]
          exact (markC 700000 j (by omega) (by omega) P.W).mono (fun e w' ⟨h1, h2⟩ => ⟨h1, ⟨w', P.h.trans (h2.mono P.h.size)⟩, rfl⟩)
        have HSM : Hid (∀ P : Bel wr, Calls Tryz.prog 160 #[vx, vx] P.W fun e w'' => e = .returned (.bool true) ∧ ∃ q : Bel wr, w'' = q.W) := fun P => by
          rw [hvx]
          exact (eqkC _ P.W).mono (fun e w' ⟨h1, h2⟩ => ⟨h1, ⟨w', P.h.trans (h2.mono P.h.size)⟩, rfl⟩)
        clear r1 hvx hb hK hlt hk hkn hjk ej
        go_wp2_with fail
        refine wp_region_quiet_below (by kernel_rfl) (by kernel_rfl) ?_
        repeat (go_big_quiet_step (first | (go_at_call 160; refine unhide HSM _) | (go_at_call 152; refine unhide HMK _)))
        refine wpQuiet_nil ?_
        rintro _ ⟨P, rfl⟩
        clear x0
        go_wp2_with fail
        exact ⟨⟨k + 1, K + 1, by have := unhide HK; omega, by go_num, by have := unhide HK; omega, (unhide HB).trans (P.h.mono (unhide HB).size)⟩, by have := unhide HK; simp [intOf]; omega⟩
    · have hI : ¬ K < (n : Int) + 64 := by omega
      clear hb hK
      go_wp2_with fail
      go_ret
      exact ⟨rfl, unhide HB⟩
end Go.Proofs.YtcafhmlpmbkhkaaGreatDoor.Kg
