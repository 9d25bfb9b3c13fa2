import Derived.Test.YtpeefmbdhkfhmaaGreatDoorW21
import Derived.Test.YtpeefmbdhkfhmaaGreatDoorW11
/- The document's sums: sides (90). -/
namespace Go.Proofs.YtpeefmbdhkfhmaaGreatDoor.Kg
open Go Go.Shelf Go.ChangeShapes Go.WideShapes Go.ChangeAt Go.RowKit Go.Maps
set_option linter.unusedVariables false
set_option linter.unusedSimpArgs false
set_option maxRecDepth 100000 in
set_option maxHeartbeats 16000000 in
theorem rsides_any {W : World} {d : Nat} {S : Nat → Prop} {Ns : List ByteArray} {As : List Int} (hR : Rd W d S Ns As) :
    Calls Tryz.prog 90 #[.pointer (some ⟨d, 0, none⟩)] W fun e w' => e = .returned (.tuple #[.int .i64 (sidS Ns As).1, .int .i64 (sidS Ns As).2.1, .int .i64 (sidS Ns As).2.2]) ∧ Below W.heap.size W w' := by
  have HR := hide hR
  have hdA := hide (accounts_any hR)
  have hfew : (accs Ns).length < 1099511627000 := Nat.lt_of_le_of_lt (accs_len Ns) hR.few
  obtain ⟨A, hA⟩ : ∃ A, A = accs Ns := ⟨_, rfl⟩
  obtain ⟨n, hn⟩ : ∃ n, n = A.length := ⟨_, rfl⟩
  rw [← hA] at hdA hfew
  rw [← hn] at hdA hfew
  have HA := hide hA; have HN := hide hn
  obtain ⟨r1, hr1⟩ : ∃ r1, r1 = (sidS Ns As).1 := ⟨_, rfl⟩
  obtain ⟨r2, hr2⟩ : ∃ r2, r2 = (sidS Ns As).2.1 := ⟨_, rfl⟩
  obtain ⟨r3, hr3⟩ : ∃ r3, r3 = (sidS Ns As).2.2 := ⟨_, rfl⟩
  rw [← hr1, ← hr2, ← hr3]
  have HSD : Hid (sidS Ns As = (r1, r2, r3)) := by show sidS Ns As = _; rw [hr1, hr2, hr3]
  clear hR hA hn hr1 hr2 hr3
  go_enter Tryz.func90, Tryz.ntmps90
  go_wp2_with fail
  refine (unhide hdA).mono ?_
  rintro e w1 ⟨pl, cl, rfl, hml⟩
  have HLA : Hid (Lies kS w1 pl A) := own_lies kS_ok (unhide HN).symm (by have h := hml.row; rw [← unhide HN] at h; exact h)
  have HB1 := hide hml.bel
  clear hml hdA
  go_wp2_with fail
  go_loopw [5, 6, 8] (fun v5 v6 v8 wr => ∃ (i m5 m6 : Nat) (p5 p6 : Option Addr) (c5 c6 : Nat), v8 = .int .i64 i ∧ v5 = .slice p5 m5 c5 ∧ v6 = .slice p6 m6 c6 ∧ i ≤ n ∧ Hid ((ownsL Ns As (A.take i)).any (fun p => p.2 != 0) = false ∧ (upsL (ownsL Ns As (A.take i))).length = m5 ∧ (dnsL (ownsL Ns As (A.take i))).length = m6 ∧ Ml2 kN kN w1 wr v5 v6 (upsL (ownsL Ns As (A.take i))) (dnsL (ownsL Ns As (A.take i))))) (fun _ _ v8 _ => n - (intOf v8).toNat)
  case atStart => exact ⟨0, 0, 0, none, none, 0, 0, rfl, rfl, rfl, by omega, rfl, rfl, rfl, ⟨Ml.nil _ (Below.refl _ _), Ml.nil _ (Below.refl _ _), fun q h => by cases h⟩⟩
  case round =>
    obtain ⟨i, m5, m6, p5, p6, c5, c6, rfl, rfl, rfl, hi, hrel⟩ := hrel
    obtain ⟨hno, h5, h6, hml⟩ := unhide hrel
    by_cases hlt : i < n
    · have hiA : i < A.length := by rw [← unhide HN]; exact hlt
      obtain ⟨b, off, e, hbl, hr⟩ := (unhide HLA).2 i hiA
      obtain ⟨x, hx⟩ : ∃ x, x = A[i] := ⟨_, rfl⟩
      have hst := ownsL_succ (Ns := Ns) (As := As) hiA
      rw [← hx] at hst hr
      have k0 : wr.cell? ⟨b, off + i, none⟩ = some (.string x) := keep1 hml.a.bel hbl (by
        have := hr 0 _ rfl
        simpa [kS] using this)
      subst e
      have hI : (i : Int) < (n : Int) := by omega
      have hI0 : (0 : Int) ≤ (i : Int) := by omega
      have hbW : Below W.heap.size W wr := (unhide HB1).trans (hml.a.bel.mono (unhide HB1).size)
      have hd := hide (rown_L ((unhide HR).below hbW) x)
      have ham := sumL_am (amtsOf Ns As x)
      have her := sumL_err (amtsOf Ns As x)
      obtain ⟨v, hv⟩ : ∃ v, v = (sumL (amtsOf Ns As x)).1 := ⟨_, rfl⟩
      obtain ⟨er, hre⟩ : ∃ er, er = (sumL (amtsOf Ns As x)).2 := ⟨_, rfl⟩
      have hp : sumL (amtsOf Ns As x) = (v, er) := by rw [hv, hre]
      rw [← hv, ← hre] at hd
      rw [← hv] at ham
      rw [← hre] at her
      rw [hp] at hst
      have hl5 := upsL_len (ownsL Ns As (A.take i))
      have hl6 := dnsL_len (ownsL Ns As (A.take i))
      have hlo : (ownsL Ns As (A.take i)).length = i := by unfold ownsL; rw [List.length_map, List.length_take]; omega
      have hmem : x ∈ A := by rw [hx]; exact List.getElem_mem hiA
      have HML := hide hml; have HBW := hide hbW; have HNO := hide hno; have H5 := hide h5; have H6 := hide h6; have HST := hide hst; have HP := hide hp; have HMEM := hide hmem
      have hneg : IntKind.i64.wrap (-v) = -v := by unfold isAm at ham; rw [IntKind.wrap_i64]; omega
      have hlen5 : (upsL (ownsL Ns As (A.take i))).length < 1099511627776 := by omega
      have hlen6 : (dnsL (ownsL Ns As (A.take i))).length < 1099511627776 := by omega
      clear hr hbl hiA hx hst hrel hml hbW hno h5 h6 ham hv hre hp hl5 hl6 hlo hmem
      rcases her with rfl | rfl
      · go_wp2_with fail
        refine (unhide hd).mono ?_
        rintro e w2 ⟨rfl, hb2⟩
        have hm2 := (unhide HML).below hb2
        have hno2 : (ownsL Ns As (A.take (i + 1))).any (fun p => p.2 != 0) = false := by rw [unhide HST, List.any_append, unhide HNO]; rfl
        by_cases hpos : 0 < v
        · have hg : v > 0 := hpos
          obtain ⟨p', c', w8, hr8, hm8⟩ := hm2.more kN_ok hlen5 v #[.int .i64 v] rfl 84 2
          have HN8 : Hid ((ownsL Ns As (A.take (i + 1))).any (fun p => p.2 != 0) = false ∧ (upsL (ownsL Ns As (A.take (i + 1)))).length = m5 + 1 ∧ (dnsL (ownsL Ns As (A.take (i + 1)))).length = m6 ∧ Ml2 kN kN w1 w8 (.slice p' (m5 + 1) c') (.slice p6 m6 c6) (upsL (ownsL Ns As (A.take (i + 1)))) (dnsL (ownsL Ns As (A.take (i + 1))))) := by
            refine ⟨hno2, ?_⟩
            rw [unhide HST, upsL_more, dnsL_more, if_pos hpos, if_pos hpos, List.append_nil]
            exact ⟨by rw [List.length_append, unhide H5]; rfl, unhide H6, by rw [← unhide H5]; exact hm8⟩
          rw [unhide H5] at hr8
          have HR8 := hide hr8
          clear hr8 hm8 hm2 hno2 hb2 k0 hd hneg hlen5 hlen6 hpos
          go_wp2_with (first | (at_builtin; refine wpList_append_run rfl _ _ 84 rfl _ _ _ _ rfl rfl (unhide HR8) ?_))
          go_round
          case rel => exact ⟨i + 1, m5 + 1, m6, p', p6, c', c6, by push_cast; rfl, rfl, rfl, by omega, unhide HN8⟩
          case measure => simp only [intOf]; omega
        · have hg : ¬ v > 0 := hpos
          obtain ⟨p', c', w8, hr8, hm8⟩ := hm2.swap.more kN_ok hlen6 (-v) #[.int .i64 (-v)] rfl 84 2
          have HN8 : Hid ((ownsL Ns As (A.take (i + 1))).any (fun p => p.2 != 0) = false ∧ (upsL (ownsL Ns As (A.take (i + 1)))).length = m5 ∧ (dnsL (ownsL Ns As (A.take (i + 1)))).length = m6 + 1 ∧ Ml2 kN kN w1 w8 (.slice p5 m5 c5) (.slice p' (m6 + 1) c') (upsL (ownsL Ns As (A.take (i + 1)))) (dnsL (ownsL Ns As (A.take (i + 1))))) := by
            refine ⟨hno2, ?_⟩
            rw [unhide HST, upsL_more, dnsL_more, if_neg hpos, if_neg hpos, List.append_nil]
            exact ⟨unhide H5, by rw [List.length_append, unhide H6]; rfl, by rw [← unhide H6]; exact hm8.swap⟩
          rw [unhide H6] at hr8
          have HR8 := hide hr8
          clear hr8 hm8 hm2 hno2 hb2 k0 hd hlen5 hlen6 hpos
          go_wp2_with (first | (at_builtin; refine wpList_append_run rfl _ _ 84 rfl _ _ _ _ rfl rfl (unhide HR8) ?_))
          go_round
          case rel => exact ⟨i + 1, m5, m6 + 1, p5, p', c5, c', by push_cast; rfl, rfl, rfl, by omega, unhide HN8⟩
          case measure => simp only [intOf]; omega
      · have hany : (ownsL Ns As (accs Ns)).any (fun p => p.2 != 0) = true := by
          rw [List.any_eq_true]
          refine ⟨(v, 11), ?_, rfl⟩
          unfold ownsL
          exact List.mem_map.2 ⟨x, by rw [← unhide HA]; exact unhide HMEM, unhide HP⟩
        have HE : Hid ((0, 0, 11) = (r1, r2, r3)) := by
          show _ = _
          rw [← unhide HSD]
          unfold sidS
          rw [if_pos hany]
        clear hany hneg hlen5 hlen6
        go_wp2_with fail
        refine (unhide hd).mono ?_
        rintro e w2 ⟨rfl, hb2⟩
        have HB := hide ((unhide HBW).trans (hb2.mono (unhide HBW).size))
        clear hb2 k0 hd
        go_wp2_with fail
        go_ret3
        have he := unhide HE
        simp only [Prod.mk.injEq] at he
        exact ⟨by rw [← he.1, ← he.2.1, ← he.2.2]; simp, unhide HB⟩
    · have hin : i = n := by omega
      have hI : ¬ (i : Int) < (n : Int) := by omega
      have e1 : A.take i = A := by rw [hin, unhide HN, List.take_length]
      rw [e1, unhide HA] at hno h5 h6 hml
      have hbW : Below W.heap.size W wr := (unhide HB1).trans (hml.a.bel.mono (unhide HB1).size)
      have hl5 := upsL_len (ownsL Ns As (accs Ns))
      have hl6 := dnsL_len (ownsL Ns As (accs Ns))
      have hlo : (ownsL Ns As (accs Ns)).length = n := by unfold ownsL; rw [List.length_map, ← unhide HA, unhide HN]
      have hd5 := hide (rsum_L (W := wr) (c := c5) h5 (by omega) (own_lies kN_ok h5 (by have h := hml.a.row; rw [h5] at h; exact h)) upsL_am)
      have HD6 : Hid (∀ w2, Below wr.heap.size wr w2 → _) := fun w2 hb2 => rsum_L (W := w2) (c := c6) h6 (by omega) (own_lies kN_ok h6 (by have h := (hml.below hb2).b.row; rw [h6] at h; exact h)) dnsL_am
      have hsd : sidS Ns As = if (sumL (upsL (ownsL Ns As (accs Ns)))).2 ≠ 0 ∨ (sumL (dnsL (ownsL Ns As (accs Ns)))).2 ≠ 0 then (0, 0, 11) else ((sumL (upsL (ownsL Ns As (accs Ns)))).1, (sumL (dnsL (ownsL Ns As (accs Ns)))).1, 0) := by
        unfold sidS
        rw [if_neg (by rw [hno]; simp)]
      have he5 := sumL_err (upsL (ownsL Ns As (accs Ns)))
      have he6 := sumL_err (dnsL (ownsL Ns As (accs Ns)))
      obtain ⟨a5, ha5⟩ : ∃ a5, a5 = (sumL (upsL (ownsL Ns As (accs Ns)))).1 := ⟨_, rfl⟩
      obtain ⟨f5, hf5⟩ : ∃ f5, f5 = (sumL (upsL (ownsL Ns As (accs Ns)))).2 := ⟨_, rfl⟩
      obtain ⟨a6, ha6⟩ : ∃ a6, a6 = (sumL (dnsL (ownsL Ns As (accs Ns)))).1 := ⟨_, rfl⟩
      obtain ⟨f6, hf6⟩ : ∃ f6, f6 = (sumL (dnsL (ownsL Ns As (accs Ns)))).2 := ⟨_, rfl⟩
      rw [← ha5, ← hf5] at hd5
      rw [← ha6, ← hf6] at HD6
      rw [← ha5, ← hf5, ← ha6, ← hf6, unhide HSD] at hsd
      rw [← hf5] at he5
      rw [← hf6] at he6
      have HSE := hide hsd; have HBW := hide hbW
      clear hrel hno h5 h6 hml e1 hl5 hl6 hlo hsd ha5 hf5 ha6 hf6 hbW
      rcases he5 with rfl | rfl
      · rcases he6 with rfl | rfl
        · have he := unhide HSE
          rw [if_neg (by simp)] at he
          simp only [Prod.mk.injEq] at he
          obtain ⟨g1, g2, g3⟩ := he
          have HG := hide (And.intro g1 (And.intro g2 g3))
          clear g1 g2 g3 HSE
          go_wp2_with fail
          refine (unhide hd5).mono ?_
          rintro e w2 ⟨rfl, hb2⟩
          have HB2 := hide hb2
          clear hb2
          go_wp2_with fail
          refine (unhide HD6 w2 (unhide HB2)).mono ?_
          rintro e w3 ⟨rfl, hb3⟩
          have HB := hide ((unhide HBW).trans (((unhide HB2).trans (hb3.mono (unhide HB2).size)).mono (unhide HBW).size))
          clear hb3
          go_wp2_with fail
          go_ret3
          exact ⟨by rw [(unhide HG).1, (unhide HG).2.1, (unhide HG).2.2]; simp, unhide HB⟩
        · have he := unhide HSE
          rw [if_pos (by simp)] at he
          simp only [Prod.mk.injEq] at he
          obtain ⟨g1, g2, g3⟩ := he
          have HG := hide (And.intro g1 (And.intro g2 g3))
          clear g1 g2 g3 HSE
          go_wp2_with fail
          refine (unhide hd5).mono ?_
          rintro e w2 ⟨rfl, hb2⟩
          have HB2 := hide hb2
          clear hb2
          go_wp2_with fail
          refine (unhide HD6 w2 (unhide HB2)).mono ?_
          rintro e w3 ⟨rfl, hb3⟩
          have HB := hide ((unhide HBW).trans (((unhide HB2).trans (hb3.mono (unhide HB2).size)).mono (unhide HBW).size))
          clear hb3
          go_wp2_with fail
          go_ret3
          exact ⟨by rw [(unhide HG).1, (unhide HG).2.1, (unhide HG).2.2]; simp, unhide HB⟩
      · have he := unhide HSE
        rw [if_pos (by simp)] at he
        simp only [Prod.mk.injEq] at he
        obtain ⟨g1, g2, g3⟩ := he
        have HG := hide (And.intro g1 (And.intro g2 g3))
        clear g1 g2 g3 HSE
        go_wp2_with fail
        refine (unhide hd5).mono ?_
        rintro e w2 ⟨rfl, hb2⟩
        have HB2 := hide hb2
        clear hb2
        go_wp2_with fail
        refine (unhide HD6 w2 (unhide HB2)).mono ?_
        rintro e w3 ⟨rfl, hb3⟩
        have HB := hide ((unhide HBW).trans (((unhide HB2).trans (hb3.mono (unhide HB2).size)).mono (unhide HBW).size))
        clear hb3
        go_wp2_with fail
        go_ret3
        exact ⟨by rw [(unhide HG).1, (unhide HG).2.1, (unhide HG).2.2]; simp, unhide HB⟩
end Go.Proofs.YtpeefmbdhkfhmaaGreatDoor.Kg
/- the document's Below (11). -/
namespace Go.Proofs.YtpeefmbdhkfhmaaGreatDoor
open Go Go.RowKit Go.ChangeShapes Go.WideShapes Go.ChangeAt
set_option linter.unusedVariables false
def undB (a b : ByteArray) : Bool := decide (b.data.toList ∈ ups a.data.toList)
set_option maxRecDepth 100000 in
set_option maxHeartbeats 2000000 in
theorem below_any (a b : ByteArray) (ha : a.size < 4611686018427387904) (hb : b.size < 4611686018427387904) (w : World) : Calls Tryz.prog 98 #[.string a, .string b] w fun e w' => e = .returned (.bool (undB a b)) ∧ w' = w := by
  have hiff := below_iff a.data.toList b.data.toList
  have la : a.data.toList.length = a.size := rfl
  have lb : b.data.toList.length = b.size := rfl
  by_cases h1 : b.size < a.size
  · have hI : (b.size : Int) < (a.size : Int) := by omega
    have hI2 : decide ((a.size : Int) > (b.size : Int)) = true := by simpa using h1
    have hI3 : decide ((b.size : Int) < (a.size : Int)) = true := by simpa using h1
    have hex : (a.extract 0 b.size).data.toList = a.data.toList.take b.size := ext_take a b.size
    have hexl : (a.extract 0 b.size).toList = a.data.toList.take b.size := by rw [Lib.toList_data]; exact hex
    by_cases h2 : a.data.toList.take b.size = b.data.toList
    · have h2b : ((a.extract 0 b.size).toList == b.toList) = true := by rw [hexl, h2, Lib.toList_data]; simp
      have hub : undB a b = decide (a.data.toList[b.size]? = some 58) := by
        unfold undB
        rw [decide_eq_decide, hiff, la, lb]
        exact ⟨fun h => h.2.2, fun h => ⟨h1, h2, h⟩⟩
      have hget : a.data.toList[b.size]? = some (a[b.size]) := by
        rw [List.getElem?_eq_getElem (by omega)]
        rfl
      rw [hub, hget]
      obtain ⟨c, hc⟩ : ∃ c : UInt8, c = a[b.size] := ⟨_, rfl⟩
      rw [← hc]
      have hcn : (c.toNat : Int) = (a[b.size]).toNat := by rw [hc]
      clear hiff la lb hub hget hex hexl h2
      by_cases h3 : c = 58
      · subst h3
        rw [show decide (some (58 : UInt8) = some 58) = true from rfl]
        have hc' : (a[b.size]).toNat = 58 := by rw [← hc]; rfl
        clear hcn hc
        go_enter Tryz.func98, Tryz.ntmps98
        go_wp2_with fail
        go_ret
        exact ⟨rfl, rfl⟩
      · rw [show decide (some c = some (58 : UInt8)) = false from by simpa using h3]
        have hne : ((a[b.size]).toNat : Int) ≠ 58 := fun e => h3 (by
          rw [hc]
          refine UInt8.toNat_inj.1 ?_
          have : (a[b.size]).toNat = 58 := by omega
          rw [this]
          rfl)
        have hnb : (((a[b.size]).toNat : Int) == 58) = false := by simpa using hne
        clear hcn hc h3 hne
        go_enter Tryz.func98, Tryz.ntmps98
        go_wp2_with fail
        go_ret
        exact ⟨rfl, rfl⟩
    · have h2b : ((a.extract 0 b.size).toList == b.toList) = false := by rw [hexl, Lib.toList_data]; simpa using h2
      have hub : undB a b = false := by
        unfold undB
        rw [decide_eq_false_iff_not, hiff, la, lb]
        exact fun h => h2 h.2.1
      rw [hub]
      clear hiff la lb hub hex hexl h2
      go_enter Tryz.func98, Tryz.ntmps98
      go_wp2_with fail
      go_ret
      exact ⟨rfl, rfl⟩
  · have hI2 : decide ((a.size : Int) > (b.size : Int)) = false := by simpa using h1
    have hI3 : decide ((b.size : Int) < (a.size : Int)) = false := by simpa using h1
    have hI4 : ¬ (b.size : Int) < (a.size : Int) := by omega
    have hub : undB a b = false := by
      unfold undB
      rw [decide_eq_false_iff_not, hiff, la, lb]
      exact fun h => h1 h.1
    rw [hub]
    clear hiff la lb hub
    go_enter Tryz.func98, Tryz.ntmps98
    go_wp2_with fail
    go_ret
    exact ⟨rfl, rfl⟩
end Go.Proofs.YtpeefmbdhkfhmaaGreatDoor
/- The document's sums: New (11), Totals (25), Own (27); which rows Rollup takes. -/
namespace Go.Proofs.YtpeefmbdhkfhmaaGreatDoor.Kg
open Go Go.Shelf Go.ChangeShapes Go.WideShapes Go.ChangeAt Go.RowKit Go.Maps
set_option linter.unusedVariables false
set_option linter.unusedSimpArgs false
theorem rnew_any (W : World) : Calls Tryz.prog 11 #[] W fun e w' => e = .returned (.pointer (some ⟨W.heap.size, 0, none⟩)) ∧ Rd w' W.heap.size (fun q => q = W.heap.size) [] [] ∧ Below W.heap.size W w' := by
  have HF : Hid (Rd (W.alloc (.cells #[.slice none 0 0, .slice none 0 0] 86)) W.heap.size (fun q => q = W.heap.size) [] [] ∧ Below W.heap.size W (W.alloc (.cells #[.slice none 0 0, .slice none 0 0] 86))) :=
    ⟨⟨⟨.slice none 0 0, .slice none 0 0, heap_new _ _, World.ownsRow_nil _ _ _ _, World.ownsRow_nil _ _ _ _, fun q h => (by cases h), fun q h => (by cases h)⟩, rfl, fun q h => by rw [h]; simp, rfl, by simp, fun a h => (by cases h), fun a h => (by cases h)⟩, bal (Below.refl _ _) _⟩
  go_enter Tryz.func11, Tryz.ntmps11
  go_wp2_with fail
  go_ret
  exact ⟨rfl, unhide HF⟩
theorem rtotals_any {W : World} {d : Nat} {S : Nat → Prop} {Ns : List ByteArray} {As : List Int} (hR : Rd W d S Ns As) :
    Calls Tryz.prog 25 #[.pointer (some ⟨d, 0, none⟩)] W fun e w' => e = .returned (.tuple #[.int .i64 (sidS Ns As).1, .int .i64 (sidS Ns As).2.1]) ∧ Below W.heap.size W w' := by
  have hd := hide (rsides_any hR)
  obtain ⟨r1, hr1⟩ : ∃ r1, r1 = (sidS Ns As).1 := ⟨_, rfl⟩
  obtain ⟨r2, hr2⟩ : ∃ r2, r2 = (sidS Ns As).2.1 := ⟨_, rfl⟩
  obtain ⟨r3, hr3⟩ : ∃ r3, r3 = (sidS Ns As).2.2 := ⟨_, rfl⟩
  rw [← hr1, ← hr2, ← hr3] at hd
  rw [← hr1, ← hr2]
  clear hR hr1 hr2 hr3
  go_enter Tryz.func25, Tryz.ntmps25
  go_wp2_with fail
  refine (unhide hd).mono ?_
  rintro e w2 ⟨rfl, hb2⟩
  have HB := hide hb2
  clear hb2
  go_wp2_with fail
  go_ret2
  exact ⟨by simp, unhide HB⟩
theorem rOwn_any {W : World} {d : Nat} {S : Nat → Prop} {Ns : List ByteArray} {As : List Int} (hR : Rd W d S Ns As) (s : ByteArray) :
    Calls Tryz.prog 27 #[.pointer (some ⟨d, 0, none⟩), .string s] W fun e w' => e = .returned (.int .i64 (sumL (amtsOf Ns As s)).1) ∧ Below W.heap.size W w' := by
  have hd := hide (rown_L hR s)
  obtain ⟨r1, hr1⟩ : ∃ r1, r1 = (sumL (amtsOf Ns As s)).1 := ⟨_, rfl⟩
  obtain ⟨r2, hr2⟩ : ∃ r2, r2 = (sumL (amtsOf Ns As s)).2 := ⟨_, rfl⟩
  rw [← hr1, ← hr2] at hd
  rw [← hr1]
  clear hR hr1 hr2
  go_enter Tryz.func27, Tryz.ntmps27
  go_wp2_with fail
  refine (unhide hd).mono ?_
  rintro e w2 ⟨rfl, hb2⟩
  have HB := hide hb2
  clear hb2
  go_wp2_with fail
  go_ret
  exact ⟨rfl, unhide HB⟩
/-- the amounts of the names that f picks -/
def selOf (f : ByteArray → Bool) (Ns : List ByteArray) (As : List Int) : List Int := ((Ns.zip As).filter fun p => f p.1).map (·.2)
theorem selOf_succ (f : ByteArray → Bool) {Ns : List ByteArray} {As : List Int} {i : Nat} (h1 : i < Ns.length) (h2 : i < As.length) : selOf f (Ns.take (i + 1)) (As.take (i + 1)) = selOf f (Ns.take i) (As.take i) ++ (if f Ns[i] = true then [As[i]] else []) := by
  unfold selOf
  have hz : (Ns.take (i + 1)).zip (As.take (i + 1)) = (Ns.take i).zip (As.take i) ++ [(Ns[i], As[i])] := by
    rw [List.take_succ_eq_append_getElem h1, List.take_succ_eq_append_getElem h2, List.zip_append (by rw [List.length_take, List.length_take]; omega)]
    rfl
  rw [hz, List.filter_append, List.map_append]
  congr 1
  by_cases h : f Ns[i] = true <;> simp [h]
theorem selOf_len (f : ByteArray → Bool) (Ns : List ByteArray) (As : List Int) : (selOf f Ns As).length ≤ As.length := by
  unfold selOf
  rw [List.length_map]
  refine Nat.le_trans (List.length_filter_le _ _) ?_
  rw [List.length_zip]
  omega
theorem selOf_mem {f : ByteArray → Bool} {Ns : List ByteArray} {As : List Int} {a : Int} (h : a ∈ selOf f Ns As) : a ∈ As := by
  unfold selOf at h
  obtain ⟨p, hp, rfl⟩ := List.mem_map.1 h
  exact (List.of_mem_zip (List.mem_filter.1 hp).1).2
/-- which rows Rollup takes -/
def rolB (s x : ByteArray) : Bool := (undB x s && !decide (s = ⟨#[]⟩)) || decide (x = s)
end Go.Proofs.YtpeefmbdhkfhmaaGreatDoor.Kg
/- The document's sums: Rollup (29). By tools/rdf.py. -/
namespace Go.Proofs.YtpeefmbdhkfhmaaGreatDoor.Kg
open Go Go.Shelf Go.ChangeShapes Go.WideShapes Go.ChangeAt Go.RowKit Go.Maps
set_option linter.unusedVariables false
set_option linter.unusedSimpArgs false
theorem nil_ne {x : ByteArray} (h : ¬ x = ⟨#[]⟩) : (x.toList == []) = false ∧ ¬ x.toList = [] ∧ (x.toList != []) = true := by
  have h1 := str_ne h
  have e : (⟨#[]⟩ : ByteArray).toList = [] := by rw [ByteArray.toList_eq]
  rw [e] at h1
  exact ⟨h1, fun q => by rw [q] at h1; simp at h1, by rw [bne, h1]; rfl⟩
set_option maxRecDepth 100000 in
set_option maxHeartbeats 16000000 in
theorem rroll_any {W : World} {d : Nat} {S : Nat → Prop} {Ns : List ByteArray} {As : List Int} (hR : Rd W d S Ns As) (s : ByteArray) (hs : s.size < 4611686018427387904) :
    Calls Tryz.prog 29 #[.pointer (some ⟨d, 0, none⟩), .string s] W fun e w' => e = .returned (.int .i64 (sumL (selOf (rolB s) Ns As)).1) ∧ Below W.heap.size W w' := by
  obtain ⟨pn, cn, pa, ca, c0, c1, hlN, hlA, _, _⟩ := hR.lists
  have hdl : d < W.heap.size := hR.lt d hR.sd
  have hfew := hR.few
  obtain ⟨n, hn⟩ : ∃ n, n = Ns.length := ⟨_, rfl⟩
  have hna : n = As.length := hn.trans hR.len.symm
  rw [← hn] at c0 hfew
  rw [← hna] at c1
  have HC : Hid (∀ w', Below W.heap.size W w' → w'.cell? ⟨d, 0, none⟩ = some (.slice pn n cn) ∧ w'.cell? ⟨d, 1, none⟩ = some (.slice pa n ca)) := fun w' hb => ⟨keep1 hb hdl c0, keep1 hb hdl c1⟩
  have HL := hide hlN; have HLA := hide hlA; have HN := hide hn; have HNA := hide hna; have HAM := hide hR.am; have HNM := hide hR.nm
  obtain ⟨r1, hr1⟩ : ∃ r1, r1 = (sumL (selOf (rolB s) Ns As)).1 := ⟨_, rfl⟩
  rw [← hr1]
  have HR1 := hide hr1
  clear hR hlN hlA hn hna c0 c1 hr1
  go_enter Tryz.func29, Tryz.ntmps29
  go_wp2_with fail
  go_loopw [5, 6] (fun v5 v6 wr => ∃ (i m : Nat) (p5 : Option Addr) (c5 : Nat), v6 = .int .i64 i ∧ v5 = .slice p5 m c5 ∧ i ≤ n ∧ Hid ((selOf (rolB s) (Ns.take i) (As.take i)).length = m ∧ Ml kN W wr v5 (selOf (rolB s) (Ns.take i) (As.take i)))) (fun _ v6 _ => n - (intOf v6).toNat)
  case atStart => exact ⟨0, 0, none, 0, rfl, rfl, by omega, rfl, Ml.nil _ (Below.refl _ _)⟩
  case round =>
    obtain ⟨i, m, p5, c5, rfl, rfl, hi, hrel⟩ := hrel
    obtain ⟨hm, hml⟩ := unhide hrel
    obtain ⟨q0, q1⟩ := unhide HC wr hml.bel
    by_cases hlt : i < n
    · have hiN : i < Ns.length := by rw [← unhide HN]; exact hlt
      have hiA : i < As.length := by rw [← unhide HNA]; exact hlt
      obtain ⟨b, off, e, hbl, hr⟩ := (unhide HL).2 i hiN
      obtain ⟨b2, off2, e2, hbl2, hr2⟩ := (unhide HLA).2 i hiA
      obtain ⟨x, hx⟩ : ∃ x, x = Ns[i] := ⟨_, rfl⟩
      obtain ⟨a, ha⟩ : ∃ a, a = As[i] := ⟨_, rfl⟩
      have hst := selOf_succ (rolB s) hiN hiA
      rw [← hx, ← ha] at hst
      rw [← hx] at hr
      rw [← ha] at hr2
      have hxz : x.size < 4611686018427387904 := by rw [hx]; exact unhide HNM _ (List.getElem_mem hiN)
      have k0 : wr.cell? ⟨b, off + i, none⟩ = some (.string x) := keep1 hml.bel hbl (by
        have := hr 0 _ rfl
        simpa [kS] using this)
      have k1 : wr.cell? ⟨b2, off2 + i, none⟩ = some (.int .i64 a) := keep1 hml.bel hbl2 (by
        have := hr2 0 _ rfl
        simpa [kN] using this)
      subst e e2
      have hI : (i : Int) < (n : Int) := by omega
      have hI0 : (0 : Int) ≤ (i : Int) := by omega
      have hlm := selOf_len (rolB s) (Ns.take i) (As.take i)
      rw [List.length_take, hm] at hlm
      have hbd := hide (below_any x s hxz hs wr)
      obtain ⟨p', c', w8, hr8, hm8⟩ := hml.more kN_ok (by omega) a #[.int .i64 a] rfl 84 2
      have HY : Hid (rolB s x = true → (selOf (rolB s) (Ns.take (i + 1)) (As.take (i + 1))).length = m + 1 ∧ Ml kN W w8 (.slice p' (m + 1) c') (selOf (rolB s) (Ns.take (i + 1)) (As.take (i + 1)))) := fun h => by
        rw [hst, if_pos h]
        exact ⟨by rw [List.length_append, hm]; rfl, by rw [← hm]; exact hm8⟩
      have HNO : Hid (rolB s x = false → (selOf (rolB s) (Ns.take (i + 1)) (As.take (i + 1))).length = m ∧ Ml kN W wr (.slice p5 m c5) (selOf (rolB s) (Ns.take (i + 1)) (As.take (i + 1)))) := fun h => by
        rw [hst, if_neg (by rw [h]; simp), List.append_nil]
        exact ⟨hm, hml⟩
      rw [hm] at hr8
      have HR8 := hide hr8
      clear hr hr2 hbl hbl2 hiN hiA hx ha hst hrel hm hml hlm hr8 hm8 hxz
      obtain ⟨bb, hbq⟩ : ∃ bb, bb = undB x s := ⟨_, rfl⟩
      rw [← hbq] at hbd
      cases bb with
      | true =>
        by_cases hs0 : s = ⟨#[]⟩
        · by_cases hxs : x = s
          · have hbt : ((⟨#[]⟩ : ByteArray).toList == (⟨#[]⟩ : ByteArray).toList) = true := by simp
            have HN8 := hide (unhide HY (by unfold rolB; simp [hxs]))
            clear HY HNO
            subst hxs; subst hs0; clear hbq
            go_wp2_with fail
            refine (unhide hbd).mono ?_
            rintro e wz ⟨rfl, hwz⟩
            rw [hwz]
            clear hwz wz
            go_wp2_with (first | (at_builtin; refine wpList_append_run rfl _ _ 84 rfl _ _ _ _ rfl rfl (unhide HR8) ?_))
            go_round
            case rel => exact ⟨i + 1, m + 1, p', c', by push_cast; rfl, rfl, by omega, unhide HN8⟩
            case measure => simp only [intOf]; omega
          · have hne := str_ne hxs
            have hbt : ((⟨#[]⟩ : ByteArray).toList == (⟨#[]⟩ : ByteArray).toList) = true := by simp
            have HN8 := hide (unhide HNO (by unfold rolB; simp [hs0]; intro h; exact hxs (h.trans hs0.symm)))
            clear HY HNO
            subst hs0; clear hbq; obtain ⟨hq1, hq2, hq3⟩ := nil_ne hxs; clear hxs
            go_wp2_with fail
            refine (unhide hbd).mono ?_
            rintro e wz ⟨rfl, hwz⟩
            rw [hwz]
            clear hwz wz
            go_wp2_with fail
            go_round
            case rel => exact ⟨i + 1, m, p5, c5, by push_cast; rfl, rfl, by omega, unhide HN8⟩
            case measure => simp only [intOf]; omega
        · have hne0 := str_ne hs0
          have HN8 := hide (unhide HY (by unfold rolB; rw [← hbq]; simp [hs0]))
          clear HY HNO
          clear hbq; obtain ⟨hq1, hq2, hq3⟩ := nil_ne hs0; clear hs0
          go_wp2_with fail
          refine (unhide hbd).mono ?_
          rintro e wz ⟨rfl, hwz⟩
          rw [hwz]
          clear hwz wz
          go_wp2_with (first | (at_builtin; refine wpList_append_run rfl _ _ 84 rfl _ _ _ _ rfl rfl (unhide HR8) ?_))
          go_round
          case rel => exact ⟨i + 1, m + 1, p', c', by push_cast; rfl, rfl, by omega, unhide HN8⟩
          case measure => simp only [intOf]; omega
      | false =>
        by_cases hxs : x = s
        · have hbt : (x.toList == x.toList) = true := by simp
          have HN8 := hide (unhide HY (by unfold rolB; simp [hxs]))
          clear HY HNO
          subst hxs; clear hbq
          go_wp2_with fail
          refine (unhide hbd).mono ?_
          rintro e wz ⟨rfl, hwz⟩
          rw [hwz]
          clear hwz wz
          go_wp2_with (first | (at_builtin; refine wpList_append_run rfl _ _ 84 rfl _ _ _ _ rfl rfl (unhide HR8) ?_))
          go_round
          case rel => exact ⟨i + 1, m + 1, p', c', by push_cast; rfl, rfl, by omega, unhide HN8⟩
          case measure => simp only [intOf]; omega
        · have hne := str_ne hxs
          have HN8 := hide (unhide HNO (by unfold rolB; rw [← hbq]; simp [hxs]))
          clear HY HNO
          clear hbq hxs
          go_wp2_with fail
          refine (unhide hbd).mono ?_
          rintro e wz ⟨rfl, hwz⟩
          rw [hwz]
          clear hwz wz
          go_wp2_with fail
          go_round
          case rel => exact ⟨i + 1, m, p5, c5, by push_cast; rfl, rfl, by omega, unhide HN8⟩
          case measure => simp only [intOf]; omega
    · have hin : i = n := by omega
      have hI : ¬ (i : Int) < (n : Int) := by omega
      have e1 : Ns.take i = Ns := by rw [hin, unhide HN, List.take_length]
      have e2 : As.take i = As := by rw [hin, unhide HNA, List.take_length]
      rw [e1, e2] at hm hml
      have hlm := selOf_len (rolB s) Ns As
      have hd := hide (rsum_L (W := wr) (p := p5) (c := c5) (n := m) hm (by rw [← hm]; have := unhide HNA; omega) (own_lies kN_ok hm (by have h := hml.row; rw [hm] at h; exact h)) (fun a ha => unhide HAM a (selOf_mem ha)))
      rw [← unhide HR1] at hd
      obtain ⟨r2, hr2⟩ : ∃ r2, r2 = (sumL (selOf (rolB s) Ns As)).2 := ⟨_, rfl⟩
      rw [← hr2] at hd
      have HML := hide hml
      clear hrel hm hml hlm e1 e2 hr2 q1
      go_wp2_with fail
      refine (unhide hd).mono ?_
      rintro e w2 ⟨rfl, hb2⟩
      have HB := hide ((unhide HML).bel.trans (hb2.mono (unhide HML).bel.size))
      clear hb2
      go_wp2_with fail
      go_ret
      exact ⟨rfl, unhide HB⟩
end Go.Proofs.YtpeefmbdhkfhmaaGreatDoor.Kg
