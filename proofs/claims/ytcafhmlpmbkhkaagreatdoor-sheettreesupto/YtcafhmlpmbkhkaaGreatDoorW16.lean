import Derived.Test.YtcafhmlpmbkhkaaGreatDoorW09
/- The grid's set (46): a row for each of a list of columns. -/
namespace Go.Proofs.YtcafhmlpmbkhkaaGreatDoor
open Go Go.Shelf Go.ChangeShapes Go.WideShapes Go.ChangeAt Go.RowKit Go.Maps
set_option linter.unusedVariables false
set_option linter.unusedSimpArgs false
attribute [local go_sem ↓] ldM_is
set_option maxRecDepth 100000 in
set_option maxHeartbeats 8000000 in
theorem setM {B : Nat} {w0 : World} {d : Nat} {S : List Int} {R : List (List Tx)} (h : Gr B w0 d S R) {p : Option Addr} {n c : Nat} {X : List Cm} (hX : X.length = n) (hL : ∀ W, Gd B w0 W → Lies kM W p X) {fb fo nf cf : Nat} {FS : List (Value × (Cm → Tx))} (hnf : FS.length = nf)
    (hF : ∀ W, Gd B w0 W → ∀ j q, FS[j]? = some q → W.cell? ⟨fb, fo + j, none⟩ = some q.1) {ok : Cm → Prop} (hok : ∀ x ∈ X, ok x) (hfn : ∀ q ∈ FS, FnOK cvM ok (Gd B w0) q.1 q.2) (hn : R.length + n ≤ 1099511627776) (hf1 : nf ≤ 1048576) :
    Calls Tryz.prog 46 #[.pointer (some ⟨d, 0, none⟩), .slice p n c, .slice (some ⟨fb, fo, none⟩) nf cf] w0 (SetOut B w0 d S R FS X) := by
  have hBw : B ≤ w0.heap.size := by
    obtain ⟨ps, cs, pr, cr, L, g⟩ := h
    exact Nat.le_trans g.low (Nat.le_of_lt (Array.getElem?_eq_some_iff.1 g.cell).1)
  have H := hide h; have HX := hide hX; have HL := hide hL; have HNF := hide hnf; have HF := hide hF; have HOK := hide hok; have HFN := hide hfn; have HN := hide hn; have HBW := hide hBw
  have HMK : Hid (∀ W : World, (Instr.makeSlice 93 (.int .i64 (nf : Int)) (.int .i64 (nf : Int))).run Tryz.prog W = .ok (.slice (some ⟨W.heap.size, 0, none⟩) nf nf) (W.alloc (.cells (madeCells (Value.string ⟨#[]⟩).cells (nf * 1)) 9))) := fun W : World => run_mk (z := .string ⟨#[]⟩) (s := 1) (b := 16) W 93 9 Tryz.underlying93 (by kernel_rfl) nf (by omega) (by omega)
  have hn1 : n ≤ 1099511627776 := by omega
  clear h hX hL hnf hF hok hfn hn hBw
  go_enter Tryz.func46, Tryz.ntmps46
  go_wp2_with fail
  go_loopw [13] (fun iv wr => ∃ (k : Nat) (K : Int), k ≤ n ∧ iv = .int .i64 K ∧ K = (k : Int) ∧ Hid (Gr B wr d S (R ++ (X.take k).map (rowF FS)) ∧ Gd B w0 wr)) (fun iv _ => ((n : Int) - intOf iv).toNat)
  case atStart => exact ⟨0, 0, by omega, rfl, rfl, by simpa using unhide H, Gd.refl _ _⟩
  case round =>
    obtain ⟨wo, rfl⟩ : ∃ x, x = wr := ⟨wr, rfl⟩
    obtain ⟨k, K, hk, rfl, hK, HA⟩ := hrel
    by_cases hlt : k < n
    · have hI : K < (n : Int) := by omega
      have hK0 : 0 ≤ K := by omega
      have hKt : K.toNat = k := by omega
      have hkX : k < X.length := by have := unhide HX; omega
      obtain ⟨b, o, ep, hb, hld⟩ := (unhide HL wo (unhide HA).2).ldM hkX
      obtain ⟨x, hx⟩ : ∃ x, x = X[k] := ⟨_, rfl⟩
      rw [← hx] at hld
      have hxm : x ∈ X := by rw [hx]; exact List.getElem_mem hkX
      have HOX := hide (unhide HOK x hxm)
      have HTK : Hid (X.take (k + 1) = X.take k ++ [x]) := by rw [List.take_succ_eq_append_getElem hkX, ← hx]; rfl
      subst ep
      obtain ⟨w1, hw1⟩ : ∃ w1, w1 = wo.alloc (obM x) := ⟨_, rfl⟩
      obtain ⟨w2, hw2⟩ : ∃ w2, w2 = w1.alloc (.cells (madeCells (Value.string ⟨#[]⟩).cells (nf * 1)) 9) := ⟨_, rfl⟩
      have hlr : (rowF FS x).length = nf := by rw [rowF_len, unhide HNF]
      have A0 : CsAt w1 (rowF FS x) 0 w1.heap.size w2 := by
        have := CsAt.begin w1 (rowF FS x) (by omega)
        rwa [hlr, ← hw2] at this
      have b1 : Below wo.heap.size wo w1 := by rw [hw1]; exact bal (Below.refl _ _) _
      have HA0 := hide A0; have HB1 := hide b1
      have HLV : Hid (∀ W, Below w1.heap.size w1 W → (ldM (.pointer (some ⟨wo.heap.size, 0, none⟩))).run Tryz.prog W = .ok (cvM x) W) := fun W hb => by rw [hw1] at hb; exact ld_varM wo x hb
      have HW1 := hide hw1; have HW2 := hide hw2
      have HK := hide hK
      have hmk1 := unhide HMK w1
      rw [← hw2] at hmk1
      obtain ⟨vx, hvx⟩ : ∃ v, v = cvM x := ⟨_, rfl⟩
      have hst : ∀ q : Nat, True := fun _ => trivial
      have HVX := hide hvx
      have HLR := hide hlr
      have hw1' : wo.alloc (.cells #[.string x.acc, .int .i64 x.deb, .int .i64 x.cre] 31) = w1 := by rw [hw1]; rfl
      unfold cvM at hld
      clear A0 b1 hw1 hw2 hkX hlt hK hvx hlr hxm hx hst
      go_upto_region 3 with fail
      have hmk2 : (Instr.makeSlice 93 (.int .i64 (nf : Int)) (.int .i64 (nf : Int))).run Tryz.prog w1 = .ok (.slice (some ⟨w1.heap.size, 0, none⟩) nf nf) w2 := hmk1
      clear hld hmk1 hw1'
      go_wp2_with fail
      go_loopw [22] (fun iv wr => ∃ (j : Nat) (J : Int), j ≤ nf ∧ iv = .int .i64 J ∧ J = (j : Int) ∧ Hid (CsAt w1 (rowF FS x) j w1.heap.size wr)) (fun iv _ => ((nf : Int) - intOf iv).toNat)
      case atStart => exact ⟨0, 0, by omega, rfl, rfl, unhide HA0⟩
      case round =>
        obtain ⟨wi, rfl⟩ : ∃ x, x = wr := ⟨wr, rfl⟩
        obtain ⟨j, J, hj, rfl, hJ, HC⟩ := hrel
        clear hmk2
        have hgd : Gd B w0 wi := (unhide HA).2.trans (Gd.of_below ((unhide HB1).trans ((unhide HC).bel.mono (unhide HB1).size)) (Nat.le_trans (unhide HBW) (unhide HA).2.bel.size))
        by_cases hjl : j < nf
        · have hJl : J < (nf : Int) := by omega
          have hJ0 : 0 ≤ J := by omega
          have hJt : J.toNat = j := by omega
          obtain ⟨q, hq⟩ : ∃ q, FS[j]? = some q := ⟨FS[j]'(by have := unhide HNF; omega), List.getElem?_eq_getElem _⟩
          have hcell := unhide HF wi hgd j q hq
          have hqm := List.mem_of_getElem? hq
          obtain ⟨g, eg, hsh⟩ := unhide HFN q hqm
          have hld := unhide HLV wi (unhide HC).bel
          have HTX : Hid ((rowF FS x)[j]? = some (q.2 x)) := by show _ = _; rw [rowF, List.getElem?_map, hq]; rfl
          have HJ := hide hJ
          rcases hsh with ⟨efv, hcall⟩ | ⟨bd, efv, hcall⟩ | ⟨cp, efv, hcall⟩
          · have d := hide (hcall x wi (unhide HOX) hgd)
            rw [← unhide HVX] at hld
            rw [efv] at hcell
            rw [← unhide HVX] at d
            clear efv hcall hgd hq hqm hJ
            go_wp2_with fail
            refine (unhide d).mono ?_
            rintro e w3 ⟨rfl, hb3⟩
            have hC3 := (unhide HC).below hb3
            have st3 : w3.cell? ⟨w1.heap.size, j, none⟩ ≠ none := by
              rw [hC3.own.cellAt j (by have := unhide HLR; omega), kT_flat, List.getElem?_map, List.getElem?_eq_getElem (by rw [midF_len _ _ (by have := unhide HLR; omega)]; have := unhide HLR; omega)]
              simp
            obtain ⟨u3, hu3⟩ := Option.ne_none_iff_exists'.1 st3
            have fr3 : w3.frozen? ⟨w1.heap.size, j, none⟩ = false := hC3.own.frozenAt j
            have HS := hide (hC3.set (unhide HTX))
            obtain ⟨TX, hTX⟩ : ∃ v, v = txB (q.2 x) := ⟨_, rfl⟩
            rw [← hTX] at HS ⊢
            clear hb3 hC3 st3 d hcell hld hTX
            go_wp2_with fail
            exact ⟨⟨j + 1, J + 1, by omega, by go_num, by have := unhide HJ; omega, unhide HS⟩, by simp [intOf]; omega⟩
          · have d := hide (hcall x wi (unhide HOX) hgd)
            rw [← unhide HVX] at hld
            rw [efv] at hcell
            rw [← unhide HVX] at d
            clear efv hcall hgd hq hqm hJ
            go_wp2_with fail
            refine (unhide d).mono ?_
            rintro e w3 ⟨rfl, hb3⟩
            have hC3 := (unhide HC).below hb3
            have st3 : w3.cell? ⟨w1.heap.size, j, none⟩ ≠ none := by
              rw [hC3.own.cellAt j (by have := unhide HLR; omega), kT_flat, List.getElem?_map, List.getElem?_eq_getElem (by rw [midF_len _ _ (by have := unhide HLR; omega)]; have := unhide HLR; omega)]
              simp
            obtain ⟨u3, hu3⟩ := Option.ne_none_iff_exists'.1 st3
            have fr3 : w3.frozen? ⟨w1.heap.size, j, none⟩ = false := hC3.own.frozenAt j
            have HS := hide (hC3.set (unhide HTX))
            obtain ⟨TX, hTX⟩ : ∃ v, v = txB (q.2 x) := ⟨_, rfl⟩
            rw [← hTX] at HS ⊢
            clear hb3 hC3 st3 d hcell hld hTX
            go_wp2_with fail
            exact ⟨⟨j + 1, J + 1, by omega, by go_num, by have := unhide HJ; omega, unhide HS⟩, by simp [intOf]; omega⟩
          · have d := hide (hcall x wi (unhide HOX) hgd)
            rw [← unhide HVX] at hld
            rw [efv] at hcell
            rw [← unhide HVX] at d
            clear efv hcall hgd hq hqm hJ
            go_wp2_with fail
            refine (unhide d).mono ?_
            rintro e w3 ⟨rfl, hb3⟩
            have hC3 := (unhide HC).below hb3
            have st3 : w3.cell? ⟨w1.heap.size, j, none⟩ ≠ none := by
              rw [hC3.own.cellAt j (by have := unhide HLR; omega), kT_flat, List.getElem?_map, List.getElem?_eq_getElem (by rw [midF_len _ _ (by have := unhide HLR; omega)]; have := unhide HLR; omega)]
              simp
            obtain ⟨u3, hu3⟩ := Option.ne_none_iff_exists'.1 st3
            have fr3 : w3.frozen? ⟨w1.heap.size, j, none⟩ = false := hC3.own.frozenAt j
            have HS := hide (hC3.set (unhide HTX))
            obtain ⟨TX, hTX⟩ : ∃ v, v = txB (q.2 x) := ⟨_, rfl⟩
            rw [← hTX] at HS ⊢
            clear hb3 hC3 st3 d hcell hld hTX
            go_wp2_with fail
            exact ⟨⟨j + 1, J + 1, by omega, by go_num, by have := unhide HJ; omega, unhide HS⟩, by simp [intOf]; omega⟩
        · have hJl : ¬ J < (nf : Int) := by omega
          have ej : j = (rowF FS x).length := by have := unhide HLR; omega
          have hC := unhide HC
          rw [ej] at hC
          have hr := hC.row
          rw [unhide HLR] at hr
          have hnR : (R ++ (X.take k).map (rowF FS)).length + 1 ≤ 1099511627776 := by
            have := unhide HN; have := unhide HX; have := unhide HK
            rw [List.length_append, List.length_map, List.length_take]
            omega
          have D := hide (add_any (((unhide HA).1.below ((unhide HB1).trans (hC.bel.mono (unhide HB1).size)))) hr hnR)
          have HGD := hide hgd
          clear hr hC hJ hgd ej hnR
          go_wp2_with fail
          refine (unhide D).mono ?_
          rintro e w3 ⟨⟨v3, rfl⟩, hg3, hd3⟩
          have HE : Hid (Gr B w3 d S (R ++ (X.take (k + 1)).map (rowF FS)) ∧ Gd B w0 w3) := by
            refine ⟨?_, (unhide HGD).trans hd3⟩
            rw [unhide HTK, List.map_append, ← List.append_assoc]
            exact hg3
          clear hg3 hd3 D
          go_wp2_with fail
          exact ⟨⟨k + 1, K + 1, by have := unhide HK; omega, by go_num, by have := unhide HK; omega, unhide HE⟩, by have := unhide HK; simp [intOf]; omega⟩
    · have hI : ¬ K < (n : Int) := by omega
      have HE : Hid (Gr B wo d S (R ++ X.map (rowF FS)) ∧ Gd B w0 wo) := by
        have h1 := unhide HA
        rw [List.take_of_length_le (by have := unhide HX; omega)] at h1
        exact h1
      clear HA hK
      go_wp2_with fail
      go_end0
      exact ⟨⟨_, rfl⟩, unhide HE⟩
end Go.Proofs.YtcafhmlpmbkhkaaGreatDoor
