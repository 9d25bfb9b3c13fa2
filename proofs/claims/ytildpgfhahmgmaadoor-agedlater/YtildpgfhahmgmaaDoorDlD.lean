/- the law's own makers: taken (10). -/
import Derived.Test.YtildpgfhahmgmaaDoorFmA
import Derived.Test.YtildpgfhahmgmaaDoorAcA
namespace Go.Proofs.YtildpgfhahmgmaaDoor
open Go Go.Shelf Go.ChangeShapes Go.WideShapes Go.ChangeAt Go.RowKit Go.Maps
set_option linter.unusedVariables false
attribute [local go_sem ↓] ld37_is ld51_is
set_option maxRecDepth 100000 in
set_option maxHeartbeats 8000000 in
theorem taken_any {W : World} {C R : List Cl} {A : List Al} {t : Nat} (ht : t ≤ 49) (hG : Good R A 0) (hk : ∀ c ∈ R, c.key.size ≤ maxLen ∧ c.acc.size ≤ maxLen) (hi : ∀ a ∈ A, a.inv.size ≤ maxLen) (hS : Stp W) {pc pa : Option Addr} {cc ca n m : Nat} (hn : C.length = n) (hrn : R.length = n) (hrot : ∀ j (h : j < R.length) (h2 : (j + t) % n < C.length), R[j] = C[(j + t) % n]) (hm : A.length = m) (hC : Lies kC W pc C) (hA : Lies kA W pa A) :
    Calls Tryd.prog 10 #[.slice pc n cc, .slice pa m ca, .int .i64 t] W fun e w' => e = .returned (.tuple #[ptr W.heap.size, .bool true]) ∧ Made W w' R A 0 := by
  have dN := hide (new_vw (W := W) hS.lt)
  have dM := hide num_any
  have hnb : n ≤ 1000 := by rw [← hrn]; exact hG.l1
  have hmb : m ≤ 1000 := by rw [← hm]; exact hG.l2
  have HG := hide hG; have HK := hide hk; have HII := hide hi; have HS := hide hS; have HN := hide hn; have HM := hide hm; have HC := hide hC; have HA := hide hA; have HRN := hide hrn; have HROT := hide hrot
  unfold ptr at dN ⊢
  clear hG hk hi hS hn hm hC hA hrn hrot
  go_enter Tryd.func10, Tryd.ntmps10
  go_wp2_with fail
  refine (unhide dN).mono ?_
  rintro e w1 ⟨rfl, hv1, hb1⟩
  have HM2 : Hid (Made W w1 [] [] 0) := ⟨⟨_, hv1, fun b hb => by rw [hb]; exact Nat.le_refl _⟩, hb1⟩
  clear hv1 hb1 dN
  go_wp2_with fail
  go_loopw [9] (fun v9 wr => ∃ (j : Nat), v9 = .int .i64 j ∧ j ≤ n ∧ Hid (Made W wr (R.take j) [] 0)) (fun v9 _ => n - (intOf v9).toNat)
  case atStart => exact ⟨0, rfl, by omega, unhide HM2⟩
  case round =>
    obtain ⟨j, rfl, hj, hrel⟩ := hrel
    have hMd := unhide hrel
    by_cases hlt : j < n
    · have hjl : j < R.length := by rw [unhide HRN]; exact hlt
      obtain ⟨q, hq⟩ : ∃ q, q = (j + t) % n := ⟨_, rfl⟩
      have hqn : q < n := by rw [hq]; exact Nat.mod_lt _ (by omega)
      have hqC : q < C.length := by rw [unhide HN]; exact hqn
      obtain ⟨b, off, e, hbl, hr⟩ := (unhide HC).2 q hqC
      obtain ⟨c, hc⟩ : ∃ c, c = R[j] := ⟨_, rfl⟩
      have hcc : c = C[q] := by rw [hc, unhide HROT j hjl (by rw [← hq]; exact hqC)]; simp only [← hq]
      have hv0 := (unhide HG).inv0 j hjl
      rw [← hc] at hv0
      rw [← hcc] at hr
      have hcm : c ∈ R := by rw [hc]; exact List.getElem_mem hjl
      have hld := run_ld37 (w := wr) (b := b) (o := off + q * 5) (c := c) (fun i v hv => (hMd.bel.cell (p := ⟨b, off + q * 5 + i, none⟩) hbl).trans (hr i v hv))
      obtain ⟨S, hVX, hSX⟩ := hMd.vw
      have dI := hide (invoice_any hVX ((unhide HS).below hMd.bel) (c := c) (unhide HK c hcm).1 (unhide HK c hcm).2 ((unhide HG).ok c hcm).a2)
      rw [hv0] at dI
      have HREL : Hid (∀ w', InvOut wr w' W.heap.size S (R.take j) [] 0 c → Made W w' (R.take (j + 1)) [] 0) := fun w' ho => by
        have h := ho.2 hv0
        rw [List.take_succ_eq_append_getElem hjl, ← hc]
        exact Made.next hMd.bel hSX h
      rw [hq] at hld
      have hmi : 0 ≤ ((j : Int) + (t : Int)) % (n : Int) ∧ ((j : Int) + (t : Int)) % (n : Int) < n := ⟨Int.emod_nonneg _ (by omega), Int.emod_lt_of_pos _ (by omega)⟩
      have hmn : (j + t) % n < n := by rw [← hq]; exact hqn
      clear hqn
      have hadd : IntKind.i64.wrap ((j : Int) + (t : Int)) = (j : Int) + (t : Int) := by rw [IntKind.wrap_i64]; omega
      unfold ptr at dI
      subst e
      clear hrel hMd hr hbl hc hcm hVX hSX hv0 hjl hcc hq hqC
      go_wp2_with fail
      refine (unhide dI).mono ?_
      rintro e w3 ⟨rfl, ho⟩
      have HR3 := hide (unhide HREL w3 ho)
      clear ho dI
      go_wp2_with fail
      refine (unhide dM _ _).mono ?_
      rintro e w4 ⟨rfl, hw⟩
      rw [hw]
      clear hw w4
      go_wp2_with fail
      exact ⟨⟨j + 1, by simp, by omega, unhide HR3⟩, by simp [intOf]; omega⟩
    · have hjn : j = n := by omega
      subst hjn
      have et : R.take j = R := List.take_of_length_le (by rw [unhide HRN]; omega)
      rw [et] at hMd
      have HMD := hide hMd
      clear hMd hrel et
      go_wp2_with fail
      go_loopw [10] (fun v10 wr => ∃ (i : Nat), v10 = .int .i64 i ∧ i ≤ m ∧ Hid (Made W wr R (A.take i) 0)) (fun v10 _ => m - (intOf v10).toNat)
      case atStart => exact ⟨0, rfl, by omega, unhide HMD⟩
      case round =>
        obtain ⟨i, rfl, hi, hrel⟩ := hrel
        have hMd := unhide hrel
        by_cases hlt2 : i < m
        · have hjl : i < A.length := by rw [unhide HM]; exact hlt2
          obtain ⟨b, off, e, hbl, hr⟩ := (unhide HA).2 i hjl
          obtain ⟨x, hx⟩ : ∃ x, x = A[i] := ⟨_, rfl⟩
          have hv0 := (unhide HG).all0 i hjl
          rw [← hx] at hr hv0
          have hxm : x ∈ A := by rw [hx]; exact List.getElem_mem hjl
          have hld := run_ld51 (w := wr) (b := b) (o := off + i * 4) (x := x) (fun i' v hv => (hMd.bel.cell (p := ⟨b, off + i * 4 + i', none⟩) hbl).trans (hr i' v hv))
          obtain ⟨S, hVX, hSX⟩ := hMd.vw
          have dI := hide (allot_any hVX ((unhide HS).below hMd.bel) (x := x) (unhide HII x hxm))
          rw [hv0] at dI
          have HREL : Hid (∀ w', AllOut wr w' W.heap.size S R (A.take i) 0 x → Made W w' R (A.take (i + 1)) 0) := fun w' ho => by
            have h := ho.2 hv0
            rw [List.take_succ_eq_append_getElem hjl, ← hx]
            exact Made.next hMd.bel hSX h
          unfold ptr at dI
          subst e
          clear hrel hMd hr hbl hx hxm hVX hSX hv0 hjl
          go_wp2_with fail
          refine (unhide dI).mono ?_
          rintro e w3 ⟨rfl, ho⟩
          have HR3 := hide (unhide HREL w3 ho)
          clear ho dI
          go_wp2_with fail
          refine (unhide dM _ _).mono ?_
          rintro e w4 ⟨rfl, hw⟩
          rw [hw]
          clear hw w4
          go_wp2_with fail
          exact ⟨⟨i + 1, by simp, by omega, unhide HR3⟩, by simp [intOf]; omega⟩
        · have hin : i = m := by omega
          subst hin
          have et : A.take i = A := List.take_of_length_le (by rw [unhide HM]; omega)
          rw [et] at hMd
          have HMD := hide hMd
          clear hMd hrel et
          go_wp2_with fail
          go_ret2
          exact ⟨rfl, unhide HMD⟩
end Go.Proofs.YtildpgfhahmgmaaDoor
