import Derived.Test.YtpeefmbdhkfhmaaGreatDoorW23
import Derived.Test.YtpeefmbdhkfhmaaGreatDoorW22
import Derived.Test.YtpeefmbdhkfhmaaGreatDoorW17
import Derived.Laws.StructEq
/- The document's sums: State (20). -/
namespace Go.Proofs.YtpeefmbdhkfhmaaGreatDoor.Kg
open Go Go.RowKit Go.Shelf Go.ChangeShapes Go.WideShapes Go.ChangeAt Go.Maps
set_option linter.unusedVariables false
set_option linter.unusedSimpArgs false
set_option maxRecDepth 100000
set_option maxHeartbeats 8000000
/-- few rows with short names -/
structure Sml (Ns : List ByteArray) : Prop where
  few : Ns.length ≤ 1000000
  short : ∀ x ∈ Ns, x.size ≤ 1048576
theorem rstate_any {W : World} {d : Nat} {S : Nat → Prop} {Ns : List ByteArray} {As : List Int} (hR : Rd W d S Ns As) (hS : Sml Ns) :
    Calls Tryz.prog 20 #[.pointer (some ⟨d, 0, none⟩)] W fun e w' => ∃ p' c', e = .returned (.slice p' (stB Ns As (stN Ns As (accs Ns))).length c') ∧ Ml kB W w' (.slice p' (stB Ns As (stN Ns As (accs Ns))).length c') (stB Ns As (stN Ns As (accs Ns))) := by
  have HR := hide hR
  have hdA := hide (accounts_any hR)
  have hsz : ∀ s ∈ accs Ns, s.size ≤ 1048576 := fun s hs => hS.short s (accs_mem' Ns s hs)
  have hfew : (accs Ns).length ≤ 1000000 := Nat.le_trans (accs_len Ns) hS.few
  obtain ⟨A, hA⟩ : ∃ A, A = accs Ns := ⟨_, rfl⟩
  obtain ⟨n, hn⟩ : ∃ n, n = A.length := ⟨_, rfl⟩
  rw [← hA] at hdA hfew hsz
  rw [← hA]
  rw [← hn] at hdA hfew
  have HN := hide hn; have HSZ := hide hsz
  have HLN : Hid (∀ i, i ≤ n → (stN Ns As (A.take i)).length ≤ i * 1048577) := fun i hi => stN_len (Ns := Ns) (As := As) hsz i (by omega)
  have HZ2 : Hid (∀ z ∈ stN Ns As A, z.size ≤ 1048576) := stN_size hsz
  clear hR hA hn hS hsz
  go_enter Tryz.func20, Tryz.ntmps20
  go_wp2_with fail
  refine (unhide hdA).mono ?_
  rintro e w1 ⟨pl, cl, rfl, hml⟩
  have HLA : Hid (Lies kS w1 pl A) := own_lies kS_ok (unhide HN).symm (by have h := hml.row; rw [← unhide HN] at h; exact h)
  have HB1 := hide hml.bel
  clear hml hdA
  go_upto_region 4 with fail
  go_loopw [3, 5] (fun v3 v5 wr => ∃ (i m : Nat) (p3 : Option Addr) (c3 : Nat), v5 = .int .i64 i ∧ v3 = .slice p3 m c3 ∧ i ≤ n ∧ Hid ((stN Ns As (A.take i)).length = m ∧ Ml kS w1 wr v3 (stN Ns As (A.take i)))) (fun _ v5 _ => n - (intOf v5).toNat)
  case atStart => exact ⟨0, 0, none, 0, rfl, rfl, by omega, rfl, Ml.nil _ (Below.refl _ _)⟩
  case round =>
    obtain ⟨i, m, p3, c3, rfl, rfl, hi, hrel⟩ := hrel
    obtain ⟨hm, hml⟩ := unhide hrel
    by_cases hlt : i < n
    · have hiA : i < A.length := by rw [← unhide HN]; exact hlt
      obtain ⟨b, off, e, hbl, hr⟩ := (unhide HLA).2 i hiA
      obtain ⟨x, hx⟩ : ∃ x, x = A[i] := ⟨_, rfl⟩
      have hst := stN_succ (Ns := Ns) (As := As) hiA
      rw [← hx] at hst hr
      have hxs : x.size ≤ 1048576 := by rw [hx]; exact unhide HSZ _ (List.getElem_mem hiA)
      have kW : w1.cell? ⟨b, off + i, none⟩ = some (.string x) := by
        have := hr 0 _ rfl
        simpa [kS] using this
      have k0 : wr.cell? ⟨b, off + i, none⟩ = some (.string x) := keep1 hml.bel hbl kW
      subst e
      have hI : (i : Int) < (n : Int) := by omega
      have hI0 : (0 : Int) ≤ (i : Int) := by omega
      have hbW : Below W.heap.size W wr := (unhide HB1).trans (hml.bel.mono (unhide HB1).size)
      have hd := hide (rown_L ((unhide HR).below hbW) x)
      obtain ⟨v, hv⟩ : ∃ v, v = (sumL (amtsOf Ns As x)).1 := ⟨_, rfl⟩
      obtain ⟨er, hre⟩ : ∃ er, er = (sumL (amtsOf Ns As x)).2 := ⟨_, rfl⟩
      rw [← hv, ← hre] at hd
      have hlm := unhide HLN i hi
      rw [hm] at hlm
      have HML := hide hml; have HM := hide hm; have HST := hide hst; have HKW := hide kW; have HBL := hide hbl; have HV := hide hv
      clear hr hbl hiA hx hst hrel hml hbW hm hv hre kW
      go_upto_region 7 with (first | (go_at_call 92; refine (unhide hd).mono ?_; rintro e w2 ⟨rfl, hb2⟩))
      have hm2 := (unhide HML).below hb2
      have k2 : w2.cell? ⟨b, off + i, none⟩ = some (.string x) := keep1 hm2.bel (unhide HBL) (unhide HKW)
      have ha := hide (above_any w2 x (by omega))
      obtain ⟨U, hU⟩ : ∃ U, U = abvL x := ⟨_, rfl⟩
      obtain ⟨u, hu⟩ : ∃ u, u = U.length := ⟨_, rfl⟩
      have hul : u ≤ 1048577 := by rw [hu, hU]; have := abvL_len x; omega
      rw [← hU, ← hu] at ha
      have HU := hide hU; have HUL := hide hu
      have HM2 := hide hm2
      clear hb2 hd k0 hm2 hU hu
      go_upto_region 8 with (first | (go_at_call 93; refine (unhide ha).mono ?_; rintro e w3 ⟨pu, cu, rfl, hmu⟩))
      have HLU : Hid (Lies kS w3 pu U) := own_lies kS_ok (unhide HUL).symm (by have h := hmu.row; rw [← unhide HUL] at h; exact h)
      have HM3 := hide ((unhide HM2).below hmu.bel)
      clear hmu ha k2
      go_upto_region 9 with fail
      by_cases hv0 : v = 0
      · have hn0 : (v != 0) = false := by simp [hv0]
        have HFIN : Hid ((stN Ns As (A.take (i + 1))).length = m ∧ Ml kS w1 w3 (.slice p3 m c3) (stN Ns As (A.take (i + 1)))) := by
          rw [unhide HST]
          unfold stS
          rw [← unhide HV, if_pos hv0]
          exact ⟨unhide HM, unhide HM3⟩
        go_loopw [3, 9] (fun v3 v9 wq => v3 = .slice p3 m c3 ∧ v9 = .int .i64 0 ∧ wq = w3) (fun _ _ _ => 0)
        case atStart => exact ⟨rfl, rfl, rfl⟩
        case round =>
          obtain ⟨rfl, rfl, rfl⟩ := hrel
          by_cases h0u : (0 : Int) < (u : Int)
          · go_wp2_with fail
            exact ⟨⟨i + 1, m, p3, c3, by go_num, rfl, by omega, HFIN⟩, by simp [intOf]; omega⟩
          · go_wp2_with fail
            exact ⟨⟨i + 1, m, p3, c3, by go_num, rfl, by omega, HFIN⟩, by simp [intOf]; omega⟩
      · have hn0 : (v != 0) = true := by simp [hv0]
        obtain ⟨M0, hM0⟩ : ∃ M0, M0 = stN Ns As (A.take i) := ⟨_, rfl⟩
        rw [← hM0] at HM HM3 HST
        clear hM0
        go_loopw [3, 9] (fun v3 v9 wq => ∃ (k m' : Nat) (p' : Option Addr) (c' : Nat), v9 = .int .i64 k ∧ v3 = .slice p' m' c' ∧ k ≤ u ∧ Hid (((U.take k).foldl insL M0).length = m' ∧ Ml kS w1 wq v3 ((U.take k).foldl insL M0) ∧ Below w3.heap.size w3 wq)) (fun _ v9 _ => u - (intOf v9).toNat)
        case atStart => exact ⟨0, m, p3, c3, rfl, rfl, by omega, unhide HM, unhide HM3, Below.refl _ _⟩
        case round =>
          obtain ⟨k, m', p', c', rfl, rfl, hk, hrel⟩ := hrel
          obtain ⟨hm', hml', hb'⟩ := unhide hrel
          by_cases hku : k < u
          · have hkU : k < U.length := by rw [← unhide HUL]; exact hku
            obtain ⟨bu, ou, eu, hblu, hru⟩ := (unhide HLU).2 k hkU
            obtain ⟨y, hy⟩ : ∃ y, y = U[k] := ⟨_, rfl⟩
            rw [← hy] at hru
            have ku : wr.cell? ⟨bu, ou + k, none⟩ = some (.string y) := by
              have := (hb'.cell (p := ⟨bu, ou + k * 1 + 0, none⟩) hblu).trans (hru 0 _ rfl)
              simpa [kS] using this
            subst eu
            have hIk : (k : Int) < (u : Int) := by omega
            have hfl := foldl_ins_len (U.take k) M0
            rw [hm', List.length_take] at hfl
            have hmm := unhide HM
            have hq := hide (ins_any (c := c') hm' (by omega) (own_lies kS_ok hm' (by have h := hml'.row; rw [hm'] at h; exact h)) y)
            have tk : (U.take (k + 1)).foldl insL M0 = insL ((U.take k).foldl insL M0) y := by rw [List.take_succ_eq_append_getElem hkU, List.foldl_append, hy]; rfl
            have HB' := hide hb'; have HBM := hide hml'.bel
            rw [← tk] at hq
            clear hrel hm' hml' hb' hru hblu hkU hy tk
            go_wp2_with (first | (go_at_call 94; refine (unhide hq).mono ?_; rintro e w5 ⟨p5, c5, rfl, hm5⟩))
            have HFI : Hid (((U.take (k + 1)).foldl insL M0).length = ((U.take (k + 1)).foldl insL M0).length ∧ Ml kS w1 w5 (.slice p5 ((U.take (k + 1)).foldl insL M0).length c5) ((U.take (k + 1)).foldl insL M0) ∧ Below w3.heap.size w3 w5) := ⟨rfl, ⟨row_le hm5.row (unhide HBM).size, (unhide HBM).trans (hm5.bel.mono (unhide HBM).size)⟩, (unhide HB').trans (hm5.bel.mono (unhide HB').size)⟩
            exact ⟨⟨k + 1, _, p5, c5, by go_num, rfl, by omega, HFI⟩, by simp [intOf]; omega⟩
          · have hku' : ¬ (k : Int) < (u : Int) := by omega
            have hkeq : k = u := by omega
            have eU : U.take k = U := by rw [hkeq, unhide HUL, List.take_length]
            rw [eU] at hm' hml'
            have HFIN : Hid ((stN Ns As (A.take (i + 1))).length = m' ∧ Ml kS w1 wr (.slice p' m' c') (stN Ns As (A.take (i + 1)))) := by
              rw [unhide HST]
              unfold stS
              rw [← unhide HV, if_neg hv0, ← unhide HU]
              exact ⟨hm', hml'⟩
            clear hrel hm' hml' hb' eU
            go_wp2_with fail
            exact ⟨⟨i + 1, m', p', c', by go_num, rfl, by omega, HFIN⟩, by simp [intOf]; omega⟩
    · have hin : i = n := by omega
      have hI : ¬ (i : Int) < (n : Int) := by omega
      have e1 : A.take i = A := by rw [hin, unhide HN, List.take_length]
      have hlm := unhide HLN i hi
      rw [e1] at hm hml hlm
      obtain ⟨B, hB⟩ : ∃ B, B = stN Ns As A := ⟨_, rfl⟩
      rw [← hB] at hm hml hlm HZ2
      have HBB := hide hB
      have HLB : Hid (Lies kS wr p3 B) := own_lies kS_ok hm (by have h := hml.row; rw [hm] at h; exact h)
      have HBW : Hid (Below W.heap.size W wr) := (unhide HB1).trans (hml.bel.mono (unhide HB1).size)
      have HM := hide hm
      have hmb : m ≤ 1048577000000 := by rw [← hm]; have := Nat.mul_le_mul_right 1048577 (show i ≤ 1000000 by omega); omega
      clear hrel hm hml e1 hB HLN HLA hlm
      obtain ⟨w4, rfl⟩ : ∃ w, w = wr := ⟨wr, rfl⟩
      go_upto_region 14 with fail
      go_loopw [10, 11] (fun v10 v11 wq => ∃ (k : Nat) (p' : Option Addr) (c' : Nat), v11 = .int .i64 k ∧ v10 = .slice p' k c' ∧ k ≤ m ∧ Hid (Ml kB w4 wq v10 (stB Ns As (B.take k)))) (fun _ v11 _ => m - (intOf v11).toNat)
      case atStart => exact ⟨0, none, 0, rfl, rfl, by omega, Ml.nil _ (Below.refl _ _)⟩
      case round =>
        obtain ⟨k, p', c', rfl, rfl, hk, hrel⟩ := hrel
        have hml := unhide hrel
        have hlk : (stB Ns As (B.take k)).length = k := by unfold stB; rw [List.length_map, List.length_take, unhide HM]; omega
        by_cases hkm : k < m
        · have hkB : k < B.length := by rw [unhide HM]; exact hkm
          obtain ⟨b, off, e, hbl, hr⟩ := (unhide HLB).2 k hkB
          obtain ⟨x, hx⟩ : ∃ x, x = B[k] := ⟨_, rfl⟩
          have hst := stB_succ (Ns := Ns) (As := As) hkB
          rw [← hx] at hst hr
          have hxs : x.size ≤ 1048576 := by rw [hx]; exact unhide HZ2 _ (List.getElem_mem hkB)
          have kW : w4.cell? ⟨b, off + k, none⟩ = some (.string x) := by
            have := hr 0 _ rfl
            simpa [kS] using this
          subst e
          have k0 : wr.cell? ⟨b, off + k, none⟩ = some (.string x) := keep1 hml.bel hbl kW
          have hI : (k : Int) < (m : Int) := by omega
          have hbW : Below W.heap.size W wr := (unhide HBW).trans (hml.bel.mono (unhide HBW).size)
          have hd := hide (rown_L ((unhide HR).below hbW) x)
          obtain ⟨v, hv⟩ : ∃ v, v = (sumL (amtsOf Ns As x)).1 := ⟨_, rfl⟩
          obtain ⟨er, hre⟩ : ∃ er, er = (sumL (amtsOf Ns As x)).2 := ⟨_, rfl⟩
          obtain ⟨t, ht⟩ : ∃ t, t = (sumL (selOf (rolB x) Ns As)).1 := ⟨_, rfl⟩
          rw [← hv, ← hre] at hd
          rw [← hv, ← ht] at hst
          have HML := hide hml; have HST := hide hst; have HKW := hide kW; have HBL := hide hbl; have HT := hide ht; have HBR := hide hbW; have HLK := hide hlk
          clear hr hbl hkB hx hst hrel hml hbW hv hre kW ht hlk
          go_upto_region 17 with (first | (go_at_call 92; refine (unhide hd).mono ?_; rintro e w5 ⟨rfl, hb5⟩))
          obtain ⟨Y, hY⟩ : ∃ Y, Y = w5.drew := ⟨_, rfl⟩
          have bY : Below wr.heap.size wr Y := by rw [hY]; exact below_drewN hb5 1
          have mY := hide ((unhide HML).below bY)
          have yk : Y.cell? ⟨b, off + k, none⟩ = some (.string x) := keep1 (unhide mY).bel (unhide HBL) (unhide HKW)
          have hr29 := hide (rroll_any ((unhide HR).below ((unhide HBR).trans (bY.mono (unhide HBR).size))) x (by omega))
          rw [← unhide HT] at hr29
          clear hb5 hd k0
          refine wp_region_last (n := 15) (S := fun X => X.cell? ⟨b, off + k, none⟩ = some (.string x)) (by kernel_rfl) (by rw [← hY]; exact yk) (fun hHeld => ?_)
          rw [← hY] at hHeld ⊢
          clear hY
          refine tkW 0 ?_; refine tkW 1 ?_; refine tkW 2 ?_; refine tkW 3 ?_; refine tkS 4 ?_; refine tkW 5 ?_; refine tkW 6 ?_; refine tkW 7 ?_; refine tkW 8 ?_; refine tkW 9 ?_; refine tkS 10 ?_
          refine wpAnyL_one (i := 11) (by kernel_rfl) rfl (fun KK hK => ?_)
          go_simp
          refine (unhide hr29).mono ?_
          rintro e w6 ⟨rfl, hb6⟩
          have m6 := (unhide mY).below hb6
          have k6 : w6.cell? ⟨b, off + k, none⟩ = some (.string x) := keep1 m6.bel (unhide HBL) (unhide HKW)
          obtain ⟨p8, c8, w8, hr8, hm8⟩ := m6.more kB_ok (by rw [unhide HLK]; omega) ⟨x, v, t⟩ #[.string x, .int .i64 v, .int .i64 t] rfl 22 38
          rw [unhide HLK] at hr8 hm8
          have k7 : (w6.alloc (.cells #[.string x, .int .i64 v, .int .i64 t] 38)).cell? ⟨b, off + k, none⟩ = some (.string x) := keep1 (bal m6.bel _) (unhide HBL) (unhide HKW)
          have k8 : w8.cell? ⟨b, off + k, none⟩ = some (.string x) := keep1 hm8.bel (unhide HBL) (unhide HKW)
          have HN8 : Hid (Ml kB w4 w8 (.slice p8 (k + 1) c8) (stB Ns As (B.take (k + 1)))) := by rw [unhide HST]; exact hm8
          have HR8 := hide hr8
          clear hr8 hm8 m6 hb6 hr29
          go_simp
          refine hK.out _ _ k6 (fun hHeld => ?_)
          clear hK KK
          refine tkW 12 ?_
          refine wpAnyL_one (i := 13) (by kernel_rfl) rfl (fun KK hK => ?_)
          go_simp
          refine hK.out _ _ k7 (fun hHeld => ?_)
          clear hK KK
          refine wpAnyL_one (i := 14) (by kernel_rfl) rfl (fun KK hK => ?_)
          refine step_append_run _ (by rfl) _ _ 22 (by rfl) _ _ _ _ (by rfl) (by rfl) (unhide HR8) ?_
          simp only [Act.put, List.setIfInBounds_toArray]
          refine hK.out _ _ k8 (fun hHeld => ?_)
          clear hK KK hHeld
          refine wpAnyL_past (i := 15) (by kernel_rfl) rfl (by kernel_rfl) (fun KK hK => ?_)
          go_simp
          refine hK.out _ _ ?_
          clear hK KK
          refine wpAnyL_done (by kernel_rfl) ?_
          go_wp2_with fail
          exact ⟨⟨k + 1, p8, c8, by go_num, rfl, by omega, HN8⟩, by simp [intOf]; omega⟩
        · have hkeq : k = m := by omega
          have hI : ¬ (k : Int) < (m : Int) := by omega
          have eB : B.take k = B := by rw [hkeq, ← unhide HM, List.take_length]
          rw [eB] at hml hlk
          rw [hkeq] at hml hlk
          have HFI : Hid (∃ p'' c'', Ending.returned (.slice p' m c') = .returned (.slice p'' (stB Ns As B).length c'') ∧ Ml kB W wr (.slice p'' (stB Ns As B).length c'') (stB Ns As B)) := by
            rw [hlk]
            exact ⟨p', c', rfl, row_le hml.row (unhide HBW).size, (unhide HBW).trans (hml.bel.mono (unhide HBW).size)⟩
          clear hrel hml hlk eB
          rw [unhide HBB] at HFI
          go_wp2_with fail
          go_ret
          exact unhide HFI
end Go.Proofs.YtpeefmbdhkfhmaaGreatDoor.Kg
/- The document's sums: Trial (33). -/
namespace Go.Proofs.YtpeefmbdhkfhmaaGreatDoor.Kg
open Go Go.Shelf Go.ChangeShapes Go.WideShapes Go.ChangeAt Go.RowKit Go.Maps
set_option linter.unusedVariables false
set_option linter.unusedSimpArgs false
/-- an account's column, if it has one -/
def colOf (s : ByteArray) (v : Int) : List Cm := if 0 < v then [⟨s, v, 0⟩] else if v < 0 then [⟨s, 0, -v⟩] else []
def trL (Ns : List ByteArray) (As : List Int) (A : List ByteArray) : List Cm := A.flatMap fun s => colOf s (sumL (amtsOf Ns As s)).1
theorem trL_succ {Ns : List ByteArray} {As : List Int} {A : List ByteArray} {i : Nat} (hi : i < A.length) : trL Ns As (A.take (i + 1)) = trL Ns As (A.take i) ++ colOf A[i] (sumL (amtsOf Ns As A[i])).1 := by
  unfold trL
  rw [List.take_succ_eq_append_getElem hi, List.flatMap_append]
  simp
theorem colOf_len (s : ByteArray) (v : Int) : (colOf s v).length ≤ 1 := by
  unfold colOf
  split
  · simp
  · split <;> simp
theorem trL_len (Ns : List ByteArray) (As : List Int) (A : List ByteArray) : (trL Ns As A).length ≤ A.length := by
  induction A with
  | nil => simp [trL]
  | cons s A ih =>
    have e : trL Ns As (s :: A) = colOf s (sumL (amtsOf Ns As s)).1 ++ trL Ns As A := by simp [trL]
    have := colOf_len s (sumL (amtsOf Ns As s)).1
    rw [e, List.length_append, List.length_cons]
    omega
set_option maxRecDepth 100000 in
set_option maxHeartbeats 16000000 in
theorem rtrial_any {W : World} {d : Nat} {S : Nat → Prop} {Ns : List ByteArray} {As : List Int} (hR : Rd W d S Ns As) :
    Calls Tryz.prog 33 #[.pointer (some ⟨d, 0, none⟩)] W fun e w' => ∃ p' c', e = .returned (.slice p' (trL Ns As (accs Ns)).length c') ∧ Ml kM W w' (.slice p' (trL Ns As (accs Ns)).length c') (trL Ns As (accs Ns)) := by
  have HR := hide hR
  have hdA := hide (accounts_any hR)
  have hfew : (accs Ns).length < 1099511627000 := Nat.lt_of_le_of_lt (accs_len Ns) hR.few
  obtain ⟨A, hA⟩ : ∃ A, A = accs Ns := ⟨_, rfl⟩
  obtain ⟨n, hn⟩ : ∃ n, n = A.length := ⟨_, rfl⟩
  rw [← hA] at hdA hfew
  rw [← hA]
  rw [← hn] at hdA hfew
  have HN := hide hn
  clear hR hA hn
  go_enter Tryz.func33, Tryz.ntmps33
  go_wp2_with fail
  refine (unhide hdA).mono ?_
  rintro e w1 ⟨pl, cl, rfl, hml⟩
  have HLA : Hid (Lies kS w1 pl A) := own_lies kS_ok (unhide HN).symm (by have h := hml.row; rw [← unhide HN] at h; exact h)
  have HB1 := hide hml.bel
  clear hml hdA
  go_wp2_with fail
  go_loopw [3, 5] (fun v3 v5 wr => ∃ (i m : Nat) (p3 : Option Addr) (c3 : Nat), v5 = .int .i64 i ∧ v3 = .slice p3 m c3 ∧ i ≤ n ∧ Hid ((trL Ns As (A.take i)).length = m ∧ Ml kM w1 wr v3 (trL Ns As (A.take i)))) (fun _ v5 _ => n - (intOf v5).toNat)
  case atStart => exact ⟨0, 0, none, 0, rfl, rfl, by omega, rfl, Ml.nil _ (Below.refl _ _)⟩
  case round =>
    obtain ⟨i, m, p3, c3, rfl, rfl, hi, hrel⟩ := hrel
    obtain ⟨hm, hml⟩ := unhide hrel
    by_cases hlt : i < n
    · have hiA : i < A.length := by rw [← unhide HN]; exact hlt
      obtain ⟨b, off, e, hbl, hr⟩ := (unhide HLA).2 i hiA
      obtain ⟨x, hx⟩ : ∃ x, x = A[i] := ⟨_, rfl⟩
      have hst := trL_succ (Ns := Ns) (As := As) hiA
      rw [← hx] at hst hr
      have kW : w1.cell? ⟨b, off + i, none⟩ = some (.string x) := by
        have := hr 0 _ rfl
        simpa [kS] using this
      have k0 : wr.cell? ⟨b, off + i, none⟩ = some (.string x) := keep1 hml.bel hbl kW
      subst e
      have hI : (i : Int) < (n : Int) := by omega
      have hI0 : (0 : Int) ≤ (i : Int) := by omega
      have hbW : Below W.heap.size W wr := (unhide HB1).trans (hml.bel.mono (unhide HB1).size)
      have hd := hide (rown_L ((unhide HR).below hbW) x)
      have ham := sumL_am (amtsOf Ns As x)
      obtain ⟨v, hv⟩ : ∃ v, v = (sumL (amtsOf Ns As x)).1 := ⟨_, rfl⟩
      obtain ⟨er, hre⟩ : ∃ er, er = (sumL (amtsOf Ns As x)).2 := ⟨_, rfl⟩
      rw [← hv, ← hre] at hd
      rw [← hv] at ham hst
      have hneg : IntKind.i64.wrap (-v) = -v := by unfold isAm at ham; rw [IntKind.wrap_i64]; omega
      have hlm := trL_len Ns As (A.take i)
      rw [List.length_take, hm] at hlm
      have HML := hide hml; have HM := hide hm; have HST := hide hst; have HKW := hide kW; have HBL := hide hbl
      clear hr hbl hiA hx hst hrel hml hbW hm ham hv hre kW
      go_wp2_with fail
      refine (unhide hd).mono ?_
      rintro e w2 ⟨rfl, hb2⟩
      have hm2 := (unhide HML).below hb2
      have k2 : w2.cell? ⟨b, off + i, none⟩ = some (.string x) := keep1 hm2.bel (unhide HBL) (unhide HKW)
      by_cases hpos : 0 < v
      · have hg : v > 0 := hpos
        have hg2 : ¬ v < 0 := by omega
        obtain ⟨p', c', w8, hr8, hm8⟩ := hm2.more kM_ok (by rw [unhide HM]; omega) ⟨x, v, 0⟩ #[.string x, .int .i64 v, .int .i64 0] rfl 92 123
        have HN8 : Hid ((trL Ns As (A.take (i + 1))).length = m + 1 ∧ Ml kM w1 w8 (.slice p' (m + 1) c') (trL Ns As (A.take (i + 1)))) := by
          rw [unhide HST]
          unfold colOf
          rw [if_pos hpos]
          exact ⟨by rw [List.length_append, unhide HM]; rfl, by rw [← unhide HM]; exact hm8⟩
        rw [unhide HM] at hr8
        have HR8 := hide hr8
        clear hr8 hm8 hm2 hb2 k0 hd hneg hlm hpos
        go_wp2_with (first | (at_builtin; refine wpList_append_run rfl _ _ 92 rfl _ _ _ _ rfl rfl (unhide HR8) ?_))
        go_round
        case rel => exact ⟨i + 1, m + 1, p', c', by push_cast; rfl, rfl, by omega, unhide HN8⟩
        case measure => simp only [intOf]; omega
      · have hg : ¬ v > 0 := hpos
        by_cases hng : v < 0
        · obtain ⟨p', c', w8, hr8, hm8⟩ := hm2.more kM_ok (by rw [unhide HM]; omega) ⟨x, 0, -v⟩ #[.string x, .int .i64 0, .int .i64 (-v)] rfl 92 123
          have HN8 : Hid ((trL Ns As (A.take (i + 1))).length = m + 1 ∧ Ml kM w1 w8 (.slice p' (m + 1) c') (trL Ns As (A.take (i + 1)))) := by
            rw [unhide HST]
            unfold colOf
            rw [if_neg hpos, if_pos hng]
            exact ⟨by rw [List.length_append, unhide HM]; rfl, by rw [← unhide HM]; exact hm8⟩
          rw [unhide HM] at hr8
          have HR8 := hide hr8
          clear hr8 hm8 hm2 hb2 k0 hd hlm hpos
          go_wp2_with (first | (at_builtin; refine wpList_append_run rfl _ _ 92 rfl _ _ _ _ rfl rfl (unhide HR8) ?_))
          go_round
          case rel => exact ⟨i + 1, m + 1, p', c', by push_cast; rfl, rfl, by omega, unhide HN8⟩
          case measure => simp only [intOf]; omega
        · have HN8 : Hid ((trL Ns As (A.take (i + 1))).length = m ∧ Ml kM w1 w2 (.slice p3 m c3) (trL Ns As (A.take (i + 1)))) := by
            rw [unhide HST]
            unfold colOf
            rw [if_neg hpos, if_neg hng, List.append_nil]
            exact ⟨unhide HM, hm2⟩
          clear hm2 hb2 k0 hd hlm hpos hneg
          go_wp2_with fail
          go_round
          case rel => exact ⟨i + 1, m, p3, c3, by push_cast; rfl, rfl, by omega, unhide HN8⟩
          case measure => simp only [intOf]; omega
    · have hin : i = n := by omega
      have hI : ¬ (i : Int) < (n : Int) := by omega
      have e1 : A.take i = A := by rw [hin, unhide HN, List.take_length]
      rw [e1] at hm hml
      have HF : Hid (∃ p' c', Ending.returned (.slice p3 m c3) = .returned (.slice p' (trL Ns As A).length c') ∧ Ml kM W wr (.slice p' (trL Ns As A).length c') (trL Ns As A)) := by
        rw [hm]
        exact ⟨p3, c3, rfl, row_le hml.row (unhide HB1).size, (unhide HB1).trans (hml.bel.mono (unhide HB1).size)⟩
      clear hrel hm hml e1
      go_wp2_with fail
      go_ret
      exact unhide HF
end Go.Proofs.YtpeefmbdhkfhmaaGreatDoor.Kg
/- sameBalances (12). -/
namespace Go.Proofs.YtpeefmbdhkfhmaaGreatDoor
open Go Go.RowKit Go.Shelf Go.ChangeShapes Go.WideShapes Go.ChangeAt Go.Maps Go.Sort
set_option linter.unusedVariables false
def ld47 (x : Value) : Sem Value := Instr.loadAt 38 x
theorem ld47_is (x : Value) : Instr.loadAt 38 x = ld47 x := rfl
theorem size47 : (Tryz.prog.info? 38).map (·.size) = some 3 := by kernel_rfl
theorem st47 : Tryz.prog.underlying 38 = some (.struct (Tryz.prog.fieldsOf 38)) := by kernel_rfl
theorem sh47 : Tryz.prog.stoodInHeld 38 = false := by kernel_rfl
theorem eg47 : Tryz.prog.eqGuardType Tryz.prog.depth 38 = false := by kernel_rfl
theorem fl47 : (Tryz.prog.fieldsOf 38).toList.map (fun f => (f.type, f.offset, f.name == "_")) = [(9, 0, false), (2, 1, false), (2, 2, false)] := by kernel_rfl
theorem eq47_same (s : ByteArray) (x y : Int) (w : World) : (Op.equalIn 10000 38 (.agg #[.string s, .int .i64 x, .int .i64 y]) (.agg #[.string s, .int .i64 x, .int .i64 y])).run Tryz.prog w = .ok true w := by
  rw [run_equalIn_agg w 9999 38 _ _ st47 sh47]
  obtain ⟨f0, f1, f2, hf⟩ : ∃ f0 f1 f2, (Tryz.prog.fieldsOf 38).toList = [f0, f1, f2] := by
    have h := congrArg List.length fl47
    rw [List.length_map] at h
    match hq : (Tryz.prog.fieldsOf 38).toList, h with
    | [a, b, c], _ => exact ⟨a, b, c, rfl⟩
  have h := fl47
  rw [hf] at h ⊢
  simp at h
  simp [Op.eqFields, go_sem, h, Tryz.underlying9, Tryz.underlying2]
theorem bal_cells {W : World} {B : Nat} {v : Value} {f g : List UInt8 → Int} {l : List (List UInt8)} {n : Nat} (hn : l.length = n) (h : W.ownsRow B 38 3 v n (balC f g l)) {i : Nat} (hi : i < l.length) : ∃ q c, v = .slice (some ⟨q, 0, none⟩) n c ∧ W.rangeAt q (i * 3) [encStr l[i], .int .i64 (f l[i]), .int .i64 (g l[i])] := by
  rcases h.2 with ⟨_, h2⟩ | ⟨q, cap, cur, e, hB, hh, hc, hm, hcs, ht⟩
  · omega
  · refine ⟨q, cap, e, fun j u hu => ?_⟩
    have hj : j < 3 := by
      have := (List.getElem?_eq_some_iff.1 hu).1
      simpa using this
    have hgen : ∀ (l : List (List UInt8)) (i : Nat) (hi : i < l.length), (balC f g l)[i * 3 + j]? = ([encStr l[i], .int .i64 (f l[i]), .int .i64 (g l[i])] : List Value)[j]? := by
      intro l
      induction l with
      | nil => intro i hi; simp at hi
      | cons x l ih =>
        intro i hi
        have e0 : balC f g (x :: l) = [encStr x, .int .i64 (f x), .int .i64 (g x)] ++ balC f g l := by simp [balC]
        rw [e0]
        cases i with
        | zero =>
          rw [List.getElem?_append_left (by simp; omega)]
          simp
        | succ i =>
          rw [List.getElem?_append_right (by simp; omega)]
          have e1 : (i + 1) * 3 + j - ([encStr x, .int .i64 (f x), .int .i64 (g x)] : List Value).length = i * 3 + j := by simp; omega
          rw [e1, ih i (by simpa using hi)]
          simp
    have h3 := hgen l i hi
    rw [hu] at h3
    have hk2 : (cur.toList.take (n * 3))[i * 3 + j]? = some u := by rw [ht]; exact h3
    rw [List.getElem?_take_of_lt (by omega)] at hk2
    unfold World.cell?
    simp only [hh]
    simpa using hk2
attribute [local go_sem ↓] ld47_is
set_option maxRecDepth 100000 in
set_option maxHeartbeats 4000000 in
theorem same_any {W : World} {B B' : Nat} {v v' : Value} {f g : List UInt8 → Int} {l : List (List UInt8)} {n : Nat} (hn : l.length = n) (hn2 : n ≤ 549755813888) (h : W.ownsRow B 38 3 v n (balC f g l)) (h' : W.ownsRow B' 38 3 v' n (balC f g l)) :
    Calls Tryz.prog 31 #[v, v'] W fun e w' => e = .returned (.bool true) ∧ ∃ m, w' = W.drewN m := by
  obtain ⟨p1, c1, e1⟩ : ∃ p c, v = .slice p n c := by
    rcases h.2 with ⟨e, h2⟩ | ⟨g, cap, cur, e, _⟩
    · exact ⟨none, 0, by rw [e, h2]⟩
    · exact ⟨_, _, e⟩
  obtain ⟨p2, c2, e2⟩ : ∃ p c, v' = .slice p n c := by
    rcases h'.2 with ⟨e, h2⟩ | ⟨g, cap, cur, e, _⟩
    · exact ⟨none, 0, by rw [e, h2]⟩
    · exact ⟨_, _, e⟩
  subst e1 e2
  have H := hide h; have H' := hide h'
  clear h h'
  have hst := st47
  have hsh := sh47
  have heg := eg47
  have heq := eq47_same
  go_enter Tryz.func31, Tryz.ntmps31
  go_wp2_with fail
  go_loopw [5] (fun i wr => ∃ (k m : Nat), i = .int .i64 k ∧ k ≤ n ∧ Hid (wr = W.drewN m)) (fun i _ => n - (intOf i).toNat)
  case atStart => exact ⟨0, 0, rfl, by omega, rfl⟩
  case round =>
    obtain ⟨k, m, rfl, hk, hw⟩ := hrel
    by_cases hlt : k < n
    · have hkl : k < l.length := by omega
      obtain ⟨q1, d1, f1, r1⟩ := bal_cells hn (unhide H) hkl
      obtain ⟨q2, d2, f2, r2⟩ := bal_cells hn (unhide H') hkl
      have g1 : p1 = some ⟨q1, 0, none⟩ := by injection f1
      have g2 : p2 = some ⟨q2, 0, none⟩ := by injection f2
      subst g1 g2
      clear f1 f2
      obtain ⟨s, hs⟩ : ∃ s : ByteArray, s = ⟨(l[k]).toArray⟩ := ⟨_, rfl⟩
      have hse : encStr l[k] = .string s := by rw [hs]
      obtain ⟨x, hx⟩ : ∃ x, x = f l[k] := ⟨_, rfl⟩
      obtain ⟨y, hy⟩ : ∃ y, y = g l[k] := ⟨_, rfl⟩
      rw [hse, ← hx, ← hy] at r1 r2
      have l1 : ∀ d', (ld47 (.pointer (some ⟨q1, k * 3, none⟩))).run Tryz.prog (wr.drewN d') = .ok (.agg #[.string s, .int .i64 x, .int .i64 y]) (wr.drewN d') := fun d' => by
        rw [unhide hw]
        exact run_loadAt_mid (P := Tryz.prog) _ q1 (k * 3) 38 [.string s, .int .i64 x, .int .i64 y] _ r1 Tryz.underlying38 rfl size47
      have l2 : ∀ d', (ld47 (.pointer (some ⟨q2, k * 3, none⟩))).run Tryz.prog (wr.drewN d') = .ok (.agg #[.string s, .int .i64 x, .int .i64 y]) (wr.drewN d') := fun d' => by
        rw [unhide hw]
        exact run_loadAt_mid (P := Tryz.prog) _ q2 (k * 3) 38 [.string s, .int .i64 x, .int .i64 y] _ r2 Tryz.underlying38 rfl size47
      clear r1 r2 hse hs hx hy
      go_wp2_with fail
      go_quiet (fail)
      go_wp2_with fail
      refine ⟨⟨k + 1, m + nq, by simp, by omega, ?_⟩, by simp [intOf]; omega⟩
      show _ = _
      rw [unhide hw, drew_two]
    · have hkn : k = n := by omega
      subst hkn
      go_wp2_with fail
      go_ret
      exact ⟨rfl, m, unhide hw⟩
end Go.Proofs.YtpeefmbdhkfhmaaGreatDoor
