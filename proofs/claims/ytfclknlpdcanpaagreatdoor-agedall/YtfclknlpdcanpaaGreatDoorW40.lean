import Derived.Test.YtfclknlpdcanpaaGreatDoorW38
/- A play: a view made anew of its own state (15). By tools/mda.py. -/
namespace Go.Proofs.YtfclknlpdcanpaaGreatDoor.Kg
open Go Go.Shelf Go.ChangeShapes Go.WideShapes Go.ChangeAt Go.RowKit Go.Maps
set_option linter.unusedVariables false
set_option linter.unusedSimpArgs false
attribute [local go_sem ↓] stKC_is stKA_is
set_option maxRecDepth 100000 in
set_option maxHeartbeats 16000000 in
theorem made11ok {w0 w : World} {y : Nat} {T : Nat → Option Tw} {U : Nat → Prop} (h : PlayIs w0 w y T U) {o : OpV} (ok : OpOk o) {j : Nat} (hj : j < 3) (hv : o.view = (j : Int)) {t : Tw} (ht : T j = some t) (hk : o.kind = 11) (hOK :  FromOk t.C t.A (1 + t.g)) :
    Calls Tryz.prog 15 #[.pointer (some ⟨y, 0, none⟩), .agg o.arr] w fun e w' => e = .returned (.bool true) ∧ ∃ T' U', PlayIs w0 w' y T' U' := by
  obtain ⟨bx, hbx⟩ : ∃ bx, bx = w.heap.size := ⟨_, rfl⟩
  obtain ⟨X, hX⟩ : ∃ X, X = w.alloc (.cells o.arr 62) := ⟨_, rfl⟩
  have hbX : Below w.heap.size w X := by rw [hX]; exact bal (Below.refl _ _) _
  have hXb : X.heap[bx]? = some (.cells o.arr 62 (0, 0)) := by rw [hX, hbx]; exact heap_new _ _
  have hbl : bx < X.heap.size := by rw [hX, hbx]; simp
  have x0 : X.cell? ⟨bx, 0, none⟩ = some (.int .i64 (j : Int)) := by rw [cell_at hXb, ← hv]; rfl
  have x1 : X.cell? ⟨bx, 1, none⟩ = some (.int .i64 o.kind) := by rw [cell_at hXb]; rfl
  have x2 : X.cell? ⟨bx, 2, none⟩ = some (.int .i64 o.day) := by rw [cell_at hXb]; rfl
  have x12 : X.cell? ⟨bx, 12, none⟩ = some (.string o.acct) := by rw [cell_at hXb]; rfl
  have hPX := h.below hbX
  have x13 : X.cell? ⟨bx, 13, none⟩ = some (.slice o.pC o.C.length o.cC) := by rw [cell_at hXb]; rfl
  have x14 : X.cell? ⟨bx, 14, none⟩ = some (.slice o.pA o.A.length o.cA) := by rw [cell_at hXb]; rfl
  have yP := hPX.p j hj
  have yD := hPX.d j hj
  have fz := hPX.kb.fz
  have hI0 : (0 : Int) ≤ (j : Int) := by omega
  have hI3 : (j : Int) < 3 := by omega
  have HX : Hid (X = w.alloc (.cells o.arr 62)) := hX
  unfold OpV.arr at HX ⊢
  have HBX := hide hbx; have HP := hide hPX
  have hjy : y ≠ bx := fun e => by have := h.kb.lt; omega
  obtain ⟨pc, cc, pa, ca, r0, r1, r2, hlC, hlA, nC, nA⟩ := Rv.lists (hPX.tw j hj t ht).r
  have hfi : FromIn X pc t.C cc pa t.A ca := (hPX.tw j hj t ht).from hlC hlA nC nA
  have yDd : X.cell? ⟨y, 3 + j, none⟩ = some (.pointer (some ⟨t.rb, 0, none⟩)) := by rw [yD, ht]; rfl
  obtain ⟨C, hC⟩ : ∃ C, C = t.C := ⟨_, rfl⟩
  obtain ⟨n, hn⟩ : ∃ n, n = C.length := ⟨_, rfl⟩
  obtain ⟨A, hA⟩ : ∃ A, A = t.A := ⟨_, rfl⟩
  obtain ⟨m, hm⟩ : ∃ m, m = A.length := ⟨_, rfl⟩
  obtain ⟨D, hD⟩ : ∃ D, D = 1 + t.g := ⟨_, rfl⟩
  rw [← hC, ← hA] at hfi
  rw [← hC, ← hn] at r0
  rw [← hA, ← hm] at r1
  rw [← hD] at r2
  rw [← hC, ← hA, ← hD] at hOK
  obtain ⟨W0, hW0⟩ : ∃ W0, W0 = X.drew.drew.drew.drew := ⟨_, rfl⟩
  have hXW : Below X.heap.size X W0 := by rw [hW0]; exact below_drewN (Below.refl _ X) 4
  have HFI : Hid (FromIn W0 pc C cc pa A ca) := hfi.below hXW
  have HP0 : Hid (PlayIs w0 W0 y T U) := hPX.below hXW
  have HX0 : Hid (W0.cell? ⟨bx, 0, none⟩ = some (.int .i64 (j : Int))) := keep1 hXW hbl x0
  have hblW : bx < W0.heap.size := Nat.lt_of_lt_of_le hbl hXW.size
  have hylW : y < W0.heap.size := Nat.lt_of_lt_of_le hPX.kb.lt hXW.size
  have HN : Hid (C.length = n) := hn.symm
  have HM : Hid (A.length = m) := hm.symm
  have HOK := hide hOK
  have HRC := hide (roomC C pc n cc hn.symm hfi.nC (room_bound (by have := hfi.bC; omega) (by decide)) W0 (unhide HP0).kb.tab (unhide HFI).lC)
  have dN := hide num_any
  have HW0 := hide hW0
  rw [hk] at x1
  clear h hXb hX hbx hbX hPX ok hk hv x12 fz hfi hOK hC hn hA hm hD hW0 yP yD ht hlC hlA nC nA hXW
  go_enter Tryz.func15, Tryz.ntmps15
  go_upto_region 1 with fail
  rw [← unhide HX, ← unhide HBX]
  clear HX HBX
  go_wp2_with fail
  go_region
  go_wp2_with fail
  go_region
  go_wp2_with fail
  go_region
  go_wp2_with fail
  go_region
  go_wp2_with fail
  rw [← unhide HW0]
  clear x0 x1 x2 x13 x14 r0 r1 r2 yDd
  refine (unhide HRC).mono ?_
  rintro e w1 ⟨g1, c1, rfl, ho1, hb1⟩
  have hc1 := own_cap ho1
  have HO1 := hide ho1; have HB1 := hide hb1
  have HRA := hide (roomA A pa m ca (unhide HM) (unhide HFI).nA (room_bound (by have := (unhide HFI).bA; have := unhide HM; omega) (by decide)) w1 ((unhide HP0).kb.tab.below hb1) ((unhide HFI).lA.below hb1))
  clear ho1 hb1 HRC
  go_wp2_with fail
  refine (unhide HRA).mono ?_
  rintro e w2 ⟨g2, c2, rfl, ho2, hb2⟩
  have hc2 := own_cap ho2
  have HO2 := hide ho2; have HB2 := hide hb2
  have HB02 : Hid (Below W0.heap.size W0 w2) := (unhide HB1).trans (hb2.mono (unhide HB1).size)
  have HO1' : Hid (w2.ownsRow W0.heap.size 56 5 (.slice (some ⟨g1, 0, none⟩) (n + 64) c1) (n + 64) (kC.flat (C ++ mks zC 700000 64))) := row_far (unhide HO1) fun q hq => hb2.block q (row_lt (unhide HO1) hq).2
  have HL1 : Hid (Lies kC w2 (some ⟨g1, 0, none⟩) (C ++ mks zC 700000 64)) := own_lies kC_ok (by rw [List.length_append, mks_len, unhide HN]) (unhide HO1')
  have HL2 : Hid (Lies kA w2 (some ⟨g2, 0, none⟩) (A ++ mks zA 700000 64)) := own_lies kA_ok (by rw [List.length_append, mks_len, unhide HM]) (unhide HO2)
  have HPF : Hid (∀ W, Below w2.heap.size w2 W → Calls Tryz.prog 97 #[.slice (some ⟨g1, 0, none⟩) n c1, .slice (some ⟨g2, 0, none⟩) m c2, .int .i64 D] W fun e w' => e = .returned (.tuple #[.pointer (some ⟨W.heap.size, 0, none⟩), .int .i64 0]) ∧ Made W w' C A (D - 1)) := fun W hW =>
    (pfrom_any (unhide HFI).wC (unhide HFI).wA (((unhide HP0).stp.below (unhide HB02)).below hW) (unhide HN) (unhide HM) (by have := (unhide HFI).bC; have := unhide HN; omega) (by have := (unhide HFI).bA; have := unhide HM; omega) ((lies_pre kC_ok (unhide HN) (by rw [List.length_append, mks_len, unhide HN]) (unhide HO1')).below hW) ((lies_pre kA_ok (unhide HM) (by rw [List.length_append, mks_len, unhide HM]) (unhide HO2)).below hW) D).mono (fun e w' hout => hout.elim (fun h => ⟨h.2.1, h.2.2⟩) (fun h => absurd (unhide HOK) h.1))
  have i1 : (n : Int) ≤ (c1 : Int) := by omega
  have i2 : (m : Int) ≤ (c2 : Int) := by omega
  have i3 : (0 : Int) ≤ (n : Int) := by omega
  have i4 : (0 : Int) ≤ (m : Int) := by omega
  have j1 : n ≤ c1 := by omega
  have j2 : m ≤ c2 := by omega
  clear ho2 hb2 HRA hc1 hc2
  go_wp2_with fail
  refine wp_region_last (n := 15) (S := fun W => True) (by kernel_rfl) (by first | (exact trivial)) (fun hHeld => ?_)
  refine tkW 0 ?_
  refine tkW 1 ?_
  refine tkW 2 ?_
  refine tkW 3 ?_
  refine tkW 4 ?_
  refine tkW 5 ?_
  refine tkW 6 ?_
  refine tkW 7 ?_
  refine tkW 8 ?_
  refine wpAnyL_one (i := 9) (by kernel_rfl) rfl (fun KK hK => ?_)
  go_simp
  go_wp2_with (first | (go_at_call 97; refine (unhide HPF _ (below_drewN (Below.refl _ w2) 1)).mono ?_; rintro e w3 ⟨rfl, hmade⟩; have hb23 : Below w2.heap.size w2 w3 := (below_drewN (Below.refl _ w2) 1).trans hmade.bel; have HMD := hide hmade; clear hmade))
  refine hK.out _ _ (by first | (exact trivial)) (fun hHeld => ?_)
  clear hK KK
  refine tkW 10 ?_
  refine tkW 11 ?_
  refine tkW 12 ?_
  refine tkW 13 ?_
  refine tkW 14 ?_
  refine wpAnyL_done (by kernel_rfl) ?_
  have HB23 := hide hb23
  have HB03 : Hid (Below W0.heap.size W0 w3) := (unhide HB02).trans (hb23.mono (unhide HB02).size)
  have HRF : Hid (Calls Tryz.prog 98 #[.slice pc n cc, .slice pa m ca, .int .i64 D] w3 fun e w' => e = .returned (.tuple #[.pointer (some ⟨w3.heap.size, 0, none⟩), .int .i64 0]) ∧ RMade w3 w' C A (D - 1)) := (rfrom_any (W := w3) (cc := cc) (ca := ca) (unhide HFI).wC (unhide HN) (unhide HM) (by have := (unhide HFI).bC; have := unhide HN; omega) (by have := (unhide HFI).bA; have := unhide HM; omega) ((unhide HFI).lC.below (unhide HB03)) ((unhide HFI).lA.below (unhide HB03)) D).mono (fun e w' hout => hout.elim (fun h => ⟨h.2.1, h.2.2⟩) (fun h => absurd (unhide HOK) h.1))
  clear hb23 i1 i2 i3 i4 j1 j2 HPF
  go_wp2_with fail
  refine (unhide HRF).mono ?_
  rintro e w4 ⟨rfl, hmade⟩
  have hb34 : Below w3.heap.size w3 w4 := hmade.bel
  have HRM := hide hmade
  clear hmade
  have HB34 := hide hb34
  have HB04 : Hid (Below W0.heap.size W0 w4) := (unhide HB03).trans (hb34.mono (unhide HB03).size)
  have HB24 : Hid (Below w2.heap.size w2 w4) := (unhide HB23).trans (hb34.mono (unhide HB23).size)
  have HKC : Hid (∀ W, Below w4.heap.size w4 W → Calls Tryz.prog 99 #[.slice (some ⟨g1, 0, none⟩) (n + 64) c1, .slice pc n cc] W fun e w' => e = .returned (.bool true) ∧ Below W.heap.size W w') := fun W hW => keptC C pc (some ⟨g1, 0, none⟩) n cc c1 (unhide HN) (by have := (unhide HFI).bC; have := unhide HN; omega) W (((unhide HP0).kb.tab.below (unhide HB04)).below hW) (((unhide HFI).lC.below (unhide HB04)).below hW) (((unhide HL1).below (unhide HB24)).below hW)
  have HKA : Hid (∀ W, Below w4.heap.size w4 W → Calls Tryz.prog 100 #[.slice (some ⟨g2, 0, none⟩) (m + 64) c2, .slice pa m ca] W fun e w' => e = .returned (.bool true) ∧ Below W.heap.size W w') := fun W hW => keptA A pa (some ⟨g2, 0, none⟩) m ca c2 (unhide HM) (by have := (unhide HFI).bA; have := unhide HM; omega) W (((unhide HP0).kb.tab.below (unhide HB04)).below hW) (((unhide HFI).lA.below (unhide HB04)).below hW) (((unhide HL2).below (unhide HB24)).below hW)
  clear hb34 HRF
  go_wp2_with fail
  refine (unhide dN _ _).mono ?_
  rintro e wz ⟨rfl, hw⟩
  rw [hw]
  clear hw wz
  go_wp2_with fail
  refine (unhide dN _ _).mono ?_
  rintro e wz ⟨rfl, hw⟩
  rw [hw]
  clear hw wz
  go_wp2_with fail
  refine (unhide HKC w4 (Below.refl _ _)).mono ?_
  rintro e w5 ⟨rfl, hb5⟩
  have HB45 := hide hb5
  clear hb5
  go_wp2_with fail
  refine (unhide HKA w5 (unhide HB45)).mono ?_
  rintro e w6 ⟨rfl, hb6⟩
  have HB46 : Hid (Below w4.heap.size w4 w6) := (unhide HB45).trans (hb6.mono (unhide HB45).size)
  have HB26 : Hid (Below w2.heap.size w2 w6) := (unhide HB24).trans ((unhide HB46).mono (unhide HB24).size)
  clear hb6
  have hS6 : Spo kC w6 w6 (.slice (some ⟨g1, 0, none⟩) (n + 64) c1) (n + 64) := Spo.start (L := C ++ mks zC 700000 64) (by rw [List.length_append, mks_len, unhide HN]) (row_far (unhide HO1') fun q hq => (unhide HB26).block q (row_lt (unhide HO1') hq).2)
  have HS6 := hide hS6
  clear hS6
  have hnb : n ≤ 2513169434843 := by have := (unhide HFI).bC; have := unhide HN; omega
  have hmb : m ≤ 2932031007317 := by have := (unhide HFI).bA; have := unhide HM; omega
  go_wp2_with fail
  go_loopw [15] (fun i wr => ∃ k : Nat, k ≤ n + 64 ∧ i = .int .i64 (k : Int) ∧ Hid (Spo kC w6 wr (.slice (some ⟨g1, 0, none⟩) (n + 64) c1) (n + 64))) (fun i _ => n + 64 - (intOf i).toNat)
  case atStart => exact ⟨0, by omega, rfl, unhide HS6⟩
  case round =>
    obtain ⟨k, hk, rfl, HS⟩ := hrel
    have hs := unhide HS
    by_cases hlk : k < n + 64
    · have k1 : (k : Int) < (n : Int) + 64 := by omega
      have k0 : (0 : Int) ≤ (k : Int) := by omega
      have hst : (stKC (.pointer (some ⟨g1, k * 5, none⟩)) (.agg #[.string ⟨#[115, 112, 111, 105, 108, 116]⟩, .string ⟨#[]⟩, .int .i64 0, .int .i64 0, .int .i64 (-1)])).run Tryz.prog wr = .ok () (wr.setCells g1 (k * 5) spC.vals) := run_stKC (hs.there kC_ok hlk) spC
      have HNX : Hid (Spo kC w6 (wr.setCells g1 (k * 5) spC.vals) (.slice (some ⟨g1, 0, none⟩) (n + 64) c1) (n + 64)) := hs.step kC_ok hlk spC
      clear hs
      go_wp2_with fail
      exact ⟨⟨k + 1, by omega, by go_num, unhide HNX⟩, by simp [intOf]; omega⟩
    · have hkn : k = n + 64 := by omega
      have k1 : ¬ (k : Int) < (n : Int) + 64 := by omega
      clear hkn hs
      go_wp2_with fail
      have hg12 : g1 ≠ g2 := fun e => by
        have h1 := (row_lt (unhide HO1) (q := g1) rfl).2
        have h2 := (row_lt (unhide HO2) (q := g2) rfl).1
        omega
      have hS7 : Spo kA wr wr (.slice (some ⟨g2, 0, none⟩) (m + 64) c2) (m + 64) := Spo.start (L := A ++ mks zA 700000 64) (by rw [List.length_append, mks_len, unhide HM]) (row_far (unhide HO2) fun q hq => ((unhide HS).gr.block q (Nat.lt_of_lt_of_le (row_lt (unhide HO2) hq).2 (unhide HB26).size) (fun e => by injection hq with hq; have hq : g2 = q := hq; injection e with e; have e : q = g1 := e; omega)).trans ((unhide HB26).block q (row_lt (unhide HO2) hq).2))
      have HS7 := hide hS7
      obtain ⟨w7, hw7⟩ : ∃ w7, w7 = wr := ⟨_, rfl⟩
      have HSC : Hid (Spo kC w6 w7 (.slice (some ⟨g1, 0, none⟩) (n + 64) c1) (n + 64)) := by rw [hw7]; exact unhide HS
      rw [← hw7] at HS7
      have HW7 := hide hw7
      clear hS7 HS k1 hk hlk hw7 HS6
      go_loopw [16] (fun i wq => ∃ k : Nat, k ≤ m + 64 ∧ i = .int .i64 (k : Int) ∧ Hid (Spo kA w7 wq (.slice (some ⟨g2, 0, none⟩) (m + 64) c2) (m + 64))) (fun i _ => m + 64 - (intOf i).toNat)
      case atStart => exact ⟨0, by omega, rfl, by rw [← unhide HW7]; exact unhide HS7⟩
      case round =>
        obtain ⟨k, hk, rfl, HS⟩ := hrel
        have hs := unhide HS
        by_cases hlk : k < m + 64
        · have k1 : (k : Int) < (m : Int) + 64 := by omega
          have k0 : (0 : Int) ≤ (k : Int) := by omega
          have hst : (stKA (.pointer (some ⟨g2, k * 4, none⟩)) (.agg #[.string ⟨#[115, 112, 111, 105, 108, 116]⟩, .string ⟨#[]⟩, .int .i64 0, .int .i64 (-1)])).run Tryz.prog wr = .ok () (wr.setCells g2 (k * 4) spA.vals) := run_stKA (hs.there kA_ok hlk) spA
          have HNX : Hid (Spo kA w7 (wr.setCells g2 (k * 4) spA.vals) (.slice (some ⟨g2, 0, none⟩) (m + 64) c2) (m + 64)) := hs.step kA_ok hlk spA
          clear hs
          go_wp2_with fail
          exact ⟨⟨k + 1, by omega, by go_num, unhide HNX⟩, by simp [intOf]; omega⟩
        · have k1 : ¬ (k : Int) < (m : Int) + 64 := by omega
          have HSA := hide hs
          obtain ⟨w8, hw8⟩ : ∃ w8, w8 = wr := ⟨_, rfl⟩
          rw [← hw8] at HSA hs
          have hlo1 : W0.heap.size ≤ g1 := (row_lt (unhide HO1) (q := g1) rfl).1
          have hlo2 : W0.heap.size ≤ g2 := by have h2 := (row_lt (unhide HO2) (q := g2) rfl).1; have := (unhide HB1).size; omega
          have hg1l : g1 < w2.heap.size := (row_lt (unhide HO1') (q := g1) rfl).2
          have hg2l : g2 < w2.heap.size := (row_lt (unhide HO2) (q := g2) rfl).2
          have b68 : ∀ q, q < w6.heap.size → q ≠ g1 → q ≠ g2 → w8.heap[q]? = w6.heap[q]? := fun q hq h1 h2 => ((unhide HSA).gr.block q (Nat.lt_of_lt_of_le hq (unhide HSC).gr.size) (fun e => h2 (by injection e))).trans ((unhide HSC).gr.block q hq (fun e => h1 (by injection e)))
          have B08 : Below W0.heap.size W0 w8 := ((unhide HB04).trans ((unhide HB46).mono (unhide HB04).size)).trans ⟨(unhide HSA).gr.os.trans (unhide HSC).gr.os, (unhide HSA).gr.tape.trans (unhide HSC).gr.tape, (unhide HSA).gr.output.trans (unhide HSC).gr.output, Nat.le_trans (unhide HSC).gr.size (unhide HSA).gr.size, fun q hq => b68 q (by have := (unhide HB04).size; have := (unhide HB46).size; omega) (by omega) (by omega)⟩
          have b28 : ∀ q, w2.heap.size ≤ q → q < w4.heap.size → w8.heap[q]? = w4.heap[q]? := fun q h1 h2 => (b68 q (Nat.lt_of_lt_of_le h2 (unhide HB46).size) (by omega) (by omega)).trans ((unhide HB46).block q h2)
          have a0 : w8.cell? ⟨bx, 0, none⟩ = some (.int .i64 (j : Int)) := keep1 B08 hblW (unhide HX0)
          have aP : w8.cell? ⟨y, j, none⟩ = some (oP (T j)) := keep1 B08 hylW ((unhide HP0).p j hj)
          have aD : w8.cell? ⟨y, 3 + j, none⟩ = some (oD (T j)) := keep1 B08 hylW ((unhide HP0).d j hj)
          have fP : w8.frozen? ⟨y, j, none⟩ = false := keepF B08 hylW ((unhide HP0).kb.fz j)
          have fD : w8.frozen? ⟨y, 3 + j, none⟩ = false := keepF B08 hylW ((unhide HP0).kb.fz (3 + j))
          have HB08 := hide B08; have HB28 := hide b28; have HS8 : Hid (w4.heap.size ≤ w8.heap.size) := Nat.le_trans (unhide HB46).size (Nat.le_trans (unhide HSC).gr.size (unhide HSA).gr.size)
          rw [← hw8]
          clear hs B08 b28 b68 hw8 HS
          go_wp2_with fail
          obtain ⟨w9, hw9⟩ : ∃ w9, w9 = w8.setCell ⟨y, j, none⟩ (.pointer (some ⟨w2.heap.size, 0, none⟩)) := ⟨_, rfl⟩
          have d0 : w9.cell? ⟨bx, 0, none⟩ = some (.int .i64 (j : Int)) := by rw [hw9]; exact (World.cell?_setCell_other _ _ _ _ (by intro h'; injection h' with h' _ _; exact hjy h')).trans a0
          have dD : w9.cell? ⟨y, 3 + j, none⟩ = some (oD (T j)) := by rw [hw9]; exact (World.cell?_setCell_other _ _ _ _ (by intro h'; injection h' with _ h' _; omega)).trans aD
          have gD : w9.frozen? ⟨y, 3 + j, none⟩ = false := by rw [hw9]; simpa using fD
          refine wp_region_last (n := 8) (S := fun W => W.cell? ⟨bx, 0, none⟩ = some (.int .i64 (j : Int))) (by kernel_rfl) (by first | (exact a0)) (fun hHeld => ?_)
          refine tkW 0 ?_
          refine tkW 1 ?_
          refine tkN 2 ?_
          refine tkW 3 ?_
          refine tkW 4 ?_
          refine tkW 5 ?_
          refine tkW 6 ?_
          refine wpAnyL_one (i := 7) (by kernel_rfl) rfl (fun KK hK => ?_)
          go_simp
          refine hK.out _ _ (by first | (exact (World.cell?_setCell_other _ _ _ _ (by intro h'; injection h' with h' _ _; exact hjy h')).trans a0)) (fun hHeld => ?_)
          clear hK KK
          refine wpAnyL_done (by kernel_rfl) ?_
          rw [← hw9]
          obtain ⟨wA, hwA⟩ : ∃ wA, wA = w9.drew := ⟨_, rfl⟩
          rw [← hwA]
          have e0 : wA.cell? ⟨bx, 0, none⟩ = some (.int .i64 (j : Int)) := by rw [hwA]; exact d0
          have eD : wA.cell? ⟨y, 3 + j, none⟩ = some (oD (T j)) := by rw [hwA]; exact dD
          have eF : wA.frozen? ⟨y, 3 + j, none⟩ = false := by rw [hwA]; exact gD
          have eP : wA.cell? ⟨y, j, none⟩ = some (.pointer (some ⟨w2.heap.size, 0, none⟩)) := by rw [hwA, hw9]; exact World.cell?_setCell_same _ _ _ aP
          have HF : Hid (∃ T' U', PlayIs w0 (wA.setCell ⟨y, 3 + j, none⟩ (.pointer (some ⟨w3.heap.size, 0, none⟩))).drew y T' U') := by
            have B08 := unhide HB08
            have hA8 : wA.heap.size = w8.heap.size := by rw [hwA, hw9]; simp
            have s1 : Sep W0 w9 (fun q => q = y) (fun q => q = y) := by rw [hw9]; exact Sep.one B08
            have s2 : Sep w9 wA (fun q => q = y) (fun q => q = y) := by rw [hwA]; exact Sep.of_below _ (below_drewN (Below.refl _ _) 1)
            have s3 : Sep wA (wA.setCell ⟨y, 3 + j, none⟩ (.pointer (some ⟨w3.heap.size, 0, none⟩))) (fun q => q = y) (fun q => q = y) := Sep.one (Below.refl _ _)
            have s4 : Sep (wA.setCell ⟨y, 3 + j, none⟩ (.pointer (some ⟨w3.heap.size, 0, none⟩))) (wA.setCell ⟨y, 3 + j, none⟩ (.pointer (some ⟨w3.heap.size, 0, none⟩))).drew (fun q => q = y) (fun q => q = y) := Sep.of_below _ (below_drewN (Below.refl _ _) 1)
            have hyc : ∀ i, i ≠ j → i ≠ 3 + j → (wA.setCell ⟨y, 3 + j, none⟩ (.pointer (some ⟨w3.heap.size, 0, none⟩))).drew.cell? ⟨y, i, none⟩ = W0.cell? ⟨y, i, none⟩ := fun i h1 h2 => by
              have k1 : (wA.setCell ⟨y, 3 + j, none⟩ (.pointer (some ⟨w3.heap.size, 0, none⟩))).cell? ⟨y, i, none⟩ = wA.cell? ⟨y, i, none⟩ := World.cell?_setCell_other _ _ _ _ (by intro h'; injection h' with _ h' _; omega)
              have k2 : wA.cell? ⟨y, i, none⟩ = w8.cell? ⟨y, i, none⟩ := by
                rw [hwA, hw9]
                exact World.cell?_setCell_other _ _ _ _ (by intro h'; injection h' with _ h' _; omega)
              exact k1.trans (k2.trans (B08.cell (p := ⟨y, i, none⟩) hylW))
            have hyf : ∀ i, (wA.setCell ⟨y, 3 + j, none⟩ (.pointer (some ⟨w3.heap.size, 0, none⟩))).drew.frozen? ⟨y, i, none⟩ = W0.frozen? ⟨y, i, none⟩ := fun i => by
              have k1 : (wA.setCell ⟨y, 3 + j, none⟩ (.pointer (some ⟨w3.heap.size, 0, none⟩))).frozen? ⟨y, i, none⟩ = wA.frozen? ⟨y, i, none⟩ := by simp
              have k2 : wA.frozen? ⟨y, i, none⟩ = w8.frozen? ⟨y, i, none⟩ := by
                rw [hwA, hw9]
                have : (w8.setCell ⟨y, j, none⟩ (.pointer (some ⟨w2.heap.size, 0, none⟩))).frozen? ⟨y, i, none⟩ = w8.frozen? ⟨y, i, none⟩ := by simp
                exact this
              exact k1.trans (k2.trans (B08.frozen (p := ⟨y, i, none⟩) hylW))
            have hcP : (wA.setCell ⟨y, 3 + j, none⟩ (.pointer (some ⟨w3.heap.size, 0, none⟩))).drew.cell? ⟨y, j, none⟩ = some (.pointer (some ⟨w2.heap.size, 0, none⟩)) := (World.cell?_setCell_other _ _ _ _ (by intro h'; injection h' with _ h' _; omega)).trans eP
            have hcD : (wA.setCell ⟨y, 3 + j, none⟩ (.pointer (some ⟨w3.heap.size, 0, none⟩))).drew.cell? ⟨y, 3 + j, none⟩ = some (.pointer (some ⟨w3.heap.size, 0, none⟩)) := World.cell?_setCell_same _ _ _ eD
            obtain ⟨S, hv, hS⟩ := (unhide HMD).vw
            have hv : Vw w3 w2.heap.size S C A (D - 1) := hv
            have hS : ∀ b, S b → w2.heap.size ≤ b := hS
            obtain ⟨V, hr, hV⟩ := (unhide HRM).ex
            have hb34 := unhide HB34
            have hS4 := hb34.size
            have h23 := (unhide HB23).size
            have h02 := (unhide HB02).size
            have h48 := unhide HS8
            have hfw : ∀ b, w2.heap.size ≤ b → b < w4.heap.size → (wA.setCell ⟨y, 3 + j, none⟩ (.pointer (some ⟨w3.heap.size, 0, none⟩))).drew.heap[b]? = w4.heap[b]? := fun b h1 h2 => by
              have hby : b ≠ y := by omega
              have k1 : (wA.setCell ⟨y, 3 + j, none⟩ (.pointer (some ⟨w3.heap.size, 0, none⟩))).heap[b]? = wA.heap[b]? := heap_set hby
              have k2 : wA.heap[b]? = w8.heap[b]? := by
                rw [hwA, hw9]
                have : (w8.setCell ⟨y, j, none⟩ (.pointer (some ⟨w2.heap.size, 0, none⟩))).heap[b]? = w8.heap[b]? := heap_set hby
                exact this
              exact k1.trans (k2.trans (unhide HB28 b h1 h2))
            have hzf : w8.heap.size ≤ (wA.setCell ⟨y, 3 + j, none⟩ (.pointer (some ⟨w3.heap.size, 0, none⟩))).drew.heap.size := by
              show w8.heap.size ≤ (wA.setCell ⟨y, 3 + j, none⟩ (.pointer (some ⟨w3.heap.size, 0, none⟩))).heap.size
              simp
              omega
            have hvf : Vw (wA.setCell ⟨y, 3 + j, none⟩ (.pointer (some ⟨w3.heap.size, 0, none⟩))).drew w2.heap.size S C A (D - 1) := (hv.below hb34).keep (by omega) (fun b hb => hfw b (hS b hb) ((hv.below hb34).lt b hb))
            have hrf : Rv (wA.setCell ⟨y, 3 + j, none⟩ (.pointer (some ⟨w3.heap.size, 0, none⟩))).drew w3.heap.size V C A (D - 1) := hr.keep (by omega) (fun b hb => hfw b (by have := hV b hb; omega) (hr.lt b hb))
            refine ⟨_, _, (unhide HP0).putG hj (some ⟨w2.heap.size, w3.heap.size, C, A, D - 1, S, V⟩) (((s1.trans s2).trans s3).trans s4) hyc hyf hcP hcD (fun t ht => ?_)⟩
            injection ht with ht
            subst ht
            refine ⟨⟨hvf, hrf, fun q h1 h2 => ?_⟩, fun q hq => ?_⟩
            · have k1 := hv.lt q h1
              have k2 := hV q h2
              omega
            · rcases hq with h1 | h1
              · have := hS q h1; omega
              · have := hV q h1; omega
          clear hwA hw9 a0 aP aD fP fD d0 dD gD
          go_wp2_with fail
          refine wp_region_last (n := 8) (S := fun W => W.cell? ⟨bx, 0, none⟩ = some (.int .i64 (j : Int))) (by kernel_rfl) (by first | (exact e0)) (fun hHeld => ?_)
          refine tkW 0 ?_
          refine tkW 1 ?_
          refine tkN 2 ?_
          refine tkW 3 ?_
          refine tkW 4 ?_
          refine tkW 5 ?_
          refine tkW 6 ?_
          refine wpAnyL_one (i := 7) (by kernel_rfl) rfl (fun KK hK => ?_)
          go_simp
          refine hK.out _ _ (by first | (exact (World.cell?_setCell_other _ _ _ _ (by intro h'; injection h' with h' _ _; exact hjy h')).trans e0)) (fun hHeld => ?_)
          clear hK KK
          refine wpAnyL_done (by kernel_rfl) ?_
          go_wp2_with fail
          go_ret
          exact ⟨rfl, unhide HF⟩
set_option maxRecDepth 100000 in
set_option maxHeartbeats 16000000 in
theorem made11no {w0 w : World} {y : Nat} {T : Nat → Option Tw} {U : Nat → Prop} (h : PlayIs w0 w y T U) {o : OpV} (ok : OpOk o) {j : Nat} (hj : j < 3) (hv : o.view = (j : Int)) {t : Tw} (ht : T j = some t) (hk : o.kind = 11) (hOK : ¬ FromOk t.C t.A (1 + t.g)) :
    Calls Tryz.prog 15 #[.pointer (some ⟨y, 0, none⟩), .agg o.arr] w fun e w' => e = .returned (.bool true) ∧ ∃ T' U', PlayIs w0 w' y T' U' := by
  obtain ⟨bx, hbx⟩ : ∃ bx, bx = w.heap.size := ⟨_, rfl⟩
  obtain ⟨X, hX⟩ : ∃ X, X = w.alloc (.cells o.arr 62) := ⟨_, rfl⟩
  have hbX : Below w.heap.size w X := by rw [hX]; exact bal (Below.refl _ _) _
  have hXb : X.heap[bx]? = some (.cells o.arr 62 (0, 0)) := by rw [hX, hbx]; exact heap_new _ _
  have hbl : bx < X.heap.size := by rw [hX, hbx]; simp
  have x0 : X.cell? ⟨bx, 0, none⟩ = some (.int .i64 (j : Int)) := by rw [cell_at hXb, ← hv]; rfl
  have x1 : X.cell? ⟨bx, 1, none⟩ = some (.int .i64 o.kind) := by rw [cell_at hXb]; rfl
  have x2 : X.cell? ⟨bx, 2, none⟩ = some (.int .i64 o.day) := by rw [cell_at hXb]; rfl
  have x12 : X.cell? ⟨bx, 12, none⟩ = some (.string o.acct) := by rw [cell_at hXb]; rfl
  have hPX := h.below hbX
  have x13 : X.cell? ⟨bx, 13, none⟩ = some (.slice o.pC o.C.length o.cC) := by rw [cell_at hXb]; rfl
  have x14 : X.cell? ⟨bx, 14, none⟩ = some (.slice o.pA o.A.length o.cA) := by rw [cell_at hXb]; rfl
  have yP := hPX.p j hj
  have yD := hPX.d j hj
  have fz := hPX.kb.fz
  have hI0 : (0 : Int) ≤ (j : Int) := by omega
  have hI3 : (j : Int) < 3 := by omega
  have HX : Hid (X = w.alloc (.cells o.arr 62)) := hX
  unfold OpV.arr at HX ⊢
  have HBX := hide hbx; have HP := hide hPX
  have hjy : y ≠ bx := fun e => by have := h.kb.lt; omega
  obtain ⟨pc, cc, pa, ca, r0, r1, r2, hlC, hlA, nC, nA⟩ := Rv.lists (hPX.tw j hj t ht).r
  have hfi : FromIn X pc t.C cc pa t.A ca := (hPX.tw j hj t ht).from hlC hlA nC nA
  have yDd : X.cell? ⟨y, 3 + j, none⟩ = some (.pointer (some ⟨t.rb, 0, none⟩)) := by rw [yD, ht]; rfl
  obtain ⟨C, hC⟩ : ∃ C, C = t.C := ⟨_, rfl⟩
  obtain ⟨n, hn⟩ : ∃ n, n = C.length := ⟨_, rfl⟩
  obtain ⟨A, hA⟩ : ∃ A, A = t.A := ⟨_, rfl⟩
  obtain ⟨m, hm⟩ : ∃ m, m = A.length := ⟨_, rfl⟩
  obtain ⟨D, hD⟩ : ∃ D, D = 1 + t.g := ⟨_, rfl⟩
  rw [← hC, ← hA] at hfi
  rw [← hC, ← hn] at r0
  rw [← hA, ← hm] at r1
  rw [← hD] at r2
  rw [← hC, ← hA, ← hD] at hOK
  obtain ⟨W0, hW0⟩ : ∃ W0, W0 = X.drew.drew.drew.drew := ⟨_, rfl⟩
  have hXW : Below X.heap.size X W0 := by rw [hW0]; exact below_drewN (Below.refl _ X) 4
  have HFI : Hid (FromIn W0 pc C cc pa A ca) := hfi.below hXW
  have HP0 : Hid (PlayIs w0 W0 y T U) := hPX.below hXW
  have HX0 : Hid (W0.cell? ⟨bx, 0, none⟩ = some (.int .i64 (j : Int))) := keep1 hXW hbl x0
  have hblW : bx < W0.heap.size := Nat.lt_of_lt_of_le hbl hXW.size
  have hylW : y < W0.heap.size := Nat.lt_of_lt_of_le hPX.kb.lt hXW.size
  have HN : Hid (C.length = n) := hn.symm
  have HM : Hid (A.length = m) := hm.symm
  have HOK := hide hOK
  have HRC := hide (roomC C pc n cc hn.symm hfi.nC (room_bound (by have := hfi.bC; omega) (by decide)) W0 (unhide HP0).kb.tab (unhide HFI).lC)
  have dN := hide num_any
  have HW0 := hide hW0
  rw [hk] at x1
  clear h hXb hX hbx hbX hPX ok hk hv x12 fz hfi hOK hC hn hA hm hD hW0 yP yD ht hlC hlA nC nA hXW
  go_enter Tryz.func15, Tryz.ntmps15
  go_upto_region 1 with fail
  rw [← unhide HX, ← unhide HBX]
  clear HX HBX
  go_wp2_with fail
  go_region
  go_wp2_with fail
  go_region
  go_wp2_with fail
  go_region
  go_wp2_with fail
  go_region
  go_wp2_with fail
  rw [← unhide HW0]
  clear x0 x1 x2 x13 x14 r0 r1 r2 yDd
  refine (unhide HRC).mono ?_
  rintro e w1 ⟨g1, c1, rfl, ho1, hb1⟩
  have hc1 := own_cap ho1
  have HO1 := hide ho1; have HB1 := hide hb1
  have HRA := hide (roomA A pa m ca (unhide HM) (unhide HFI).nA (room_bound (by have := (unhide HFI).bA; have := unhide HM; omega) (by decide)) w1 ((unhide HP0).kb.tab.below hb1) ((unhide HFI).lA.below hb1))
  clear ho1 hb1 HRC
  go_wp2_with fail
  refine (unhide HRA).mono ?_
  rintro e w2 ⟨g2, c2, rfl, ho2, hb2⟩
  have hc2 := own_cap ho2
  have HO2 := hide ho2; have HB2 := hide hb2
  have HB02 : Hid (Below W0.heap.size W0 w2) := (unhide HB1).trans (hb2.mono (unhide HB1).size)
  have HO1' : Hid (w2.ownsRow W0.heap.size 56 5 (.slice (some ⟨g1, 0, none⟩) (n + 64) c1) (n + 64) (kC.flat (C ++ mks zC 700000 64))) := row_far (unhide HO1) fun q hq => hb2.block q (row_lt (unhide HO1) hq).2
  have HL1 : Hid (Lies kC w2 (some ⟨g1, 0, none⟩) (C ++ mks zC 700000 64)) := own_lies kC_ok (by rw [List.length_append, mks_len, unhide HN]) (unhide HO1')
  have HL2 : Hid (Lies kA w2 (some ⟨g2, 0, none⟩) (A ++ mks zA 700000 64)) := own_lies kA_ok (by rw [List.length_append, mks_len, unhide HM]) (unhide HO2)
  have HPF : Hid (∀ W, Below w2.heap.size w2 W → Calls Tryz.prog 97 #[.slice (some ⟨g1, 0, none⟩) n c1, .slice (some ⟨g2, 0, none⟩) m c2, .int .i64 D] W fun e w' => e = .returned (.tuple #[.pointer none, .int .i64 80]) ∧ Below W.heap.size W w') := fun W hW =>
    (pfrom_any (unhide HFI).wC (unhide HFI).wA (((unhide HP0).stp.below (unhide HB02)).below hW) (unhide HN) (unhide HM) (by have := (unhide HFI).bC; have := unhide HN; omega) (by have := (unhide HFI).bA; have := unhide HM; omega) ((lies_pre kC_ok (unhide HN) (by rw [List.length_append, mks_len, unhide HN]) (unhide HO1')).below hW) ((lies_pre kA_ok (unhide HM) (by rw [List.length_append, mks_len, unhide HM]) (unhide HO2)).below hW) D).mono (fun e w' hout => hout.elim (fun h => absurd h.1 (unhide HOK)) (fun h => ⟨h.2.1, h.2.2⟩))
  have i1 : (n : Int) ≤ (c1 : Int) := by omega
  have i2 : (m : Int) ≤ (c2 : Int) := by omega
  have i3 : (0 : Int) ≤ (n : Int) := by omega
  have i4 : (0 : Int) ≤ (m : Int) := by omega
  have j1 : n ≤ c1 := by omega
  have j2 : m ≤ c2 := by omega
  clear ho2 hb2 HRA hc1 hc2
  go_wp2_with fail
  refine wp_region_last (n := 15) (S := fun W => True) (by kernel_rfl) (by first | (exact trivial)) (fun hHeld => ?_)
  refine tkW 0 ?_
  refine tkW 1 ?_
  refine tkW 2 ?_
  refine tkW 3 ?_
  refine tkW 4 ?_
  refine tkW 5 ?_
  refine tkW 6 ?_
  refine tkW 7 ?_
  refine tkW 8 ?_
  refine wpAnyL_one (i := 9) (by kernel_rfl) rfl (fun KK hK => ?_)
  go_simp
  go_wp2_with (first | (go_at_call 97; refine (unhide HPF _ (below_drewN (Below.refl _ w2) 1)).mono ?_; rintro e w3 ⟨rfl, hmade⟩; have hb23 : Below w2.heap.size w2 w3 := (below_drewN (Below.refl _ w2) 1).trans hmade; clear hmade))
  refine hK.out _ _ (by first | (exact trivial)) (fun hHeld => ?_)
  clear hK KK
  refine tkW 10 ?_
  refine tkW 11 ?_
  refine tkW 12 ?_
  refine tkW 13 ?_
  refine tkW 14 ?_
  refine wpAnyL_done (by kernel_rfl) ?_
  have HB23 := hide hb23
  have HB03 : Hid (Below W0.heap.size W0 w3) := (unhide HB02).trans (hb23.mono (unhide HB02).size)
  have HRF : Hid (Calls Tryz.prog 98 #[.slice pc n cc, .slice pa m ca, .int .i64 D] w3 fun e w' => e = .returned (.tuple #[.pointer none, .int .i64 80]) ∧ Below w3.heap.size w3 w') := (rfrom_any (W := w3) (cc := cc) (ca := ca) (unhide HFI).wC (unhide HN) (unhide HM) (by have := (unhide HFI).bC; have := unhide HN; omega) (by have := (unhide HFI).bA; have := unhide HM; omega) ((unhide HFI).lC.below (unhide HB03)) ((unhide HFI).lA.below (unhide HB03)) D).mono (fun e w' hout => hout.elim (fun h => absurd h.1 (unhide HOK)) (fun h => ⟨h.2.1, h.2.2⟩))
  clear hb23 i1 i2 i3 i4 j1 j2 HPF
  go_wp2_with fail
  refine (unhide HRF).mono ?_
  rintro e w4 ⟨rfl, hmade⟩
  have hb34 : Below w3.heap.size w3 w4 := hmade
  clear hmade
  have HB34 := hide hb34
  have HB04 : Hid (Below W0.heap.size W0 w4) := (unhide HB03).trans (hb34.mono (unhide HB03).size)
  have HB24 : Hid (Below w2.heap.size w2 w4) := (unhide HB23).trans (hb34.mono (unhide HB23).size)
  have HKC : Hid (∀ W, Below w4.heap.size w4 W → Calls Tryz.prog 99 #[.slice (some ⟨g1, 0, none⟩) (n + 64) c1, .slice pc n cc] W fun e w' => e = .returned (.bool true) ∧ Below W.heap.size W w') := fun W hW => keptC C pc (some ⟨g1, 0, none⟩) n cc c1 (unhide HN) (by have := (unhide HFI).bC; have := unhide HN; omega) W (((unhide HP0).kb.tab.below (unhide HB04)).below hW) (((unhide HFI).lC.below (unhide HB04)).below hW) (((unhide HL1).below (unhide HB24)).below hW)
  have HKA : Hid (∀ W, Below w4.heap.size w4 W → Calls Tryz.prog 100 #[.slice (some ⟨g2, 0, none⟩) (m + 64) c2, .slice pa m ca] W fun e w' => e = .returned (.bool true) ∧ Below W.heap.size W w') := fun W hW => keptA A pa (some ⟨g2, 0, none⟩) m ca c2 (unhide HM) (by have := (unhide HFI).bA; have := unhide HM; omega) W (((unhide HP0).kb.tab.below (unhide HB04)).below hW) (((unhide HFI).lA.below (unhide HB04)).below hW) (((unhide HL2).below (unhide HB24)).below hW)
  clear hb34 HRF
  go_wp2_with fail
  refine (unhide dN _ _).mono ?_
  rintro e wz ⟨rfl, hw⟩
  rw [hw]
  clear hw wz
  go_wp2_with fail
  refine (unhide dN _ _).mono ?_
  rintro e wz ⟨rfl, hw⟩
  rw [hw]
  clear hw wz
  go_wp2_with fail
  refine (unhide HKC w4 (Below.refl _ _)).mono ?_
  rintro e w5 ⟨rfl, hb5⟩
  have HB45 := hide hb5
  clear hb5
  go_wp2_with fail
  refine (unhide HKA w5 (unhide HB45)).mono ?_
  rintro e w6 ⟨rfl, hb6⟩
  have HB46 : Hid (Below w4.heap.size w4 w6) := (unhide HB45).trans (hb6.mono (unhide HB45).size)
  have HB26 : Hid (Below w2.heap.size w2 w6) := (unhide HB24).trans ((unhide HB46).mono (unhide HB24).size)
  clear hb6
  have hS6 : Spo kC w6 w6 (.slice (some ⟨g1, 0, none⟩) (n + 64) c1) (n + 64) := Spo.start (L := C ++ mks zC 700000 64) (by rw [List.length_append, mks_len, unhide HN]) (row_far (unhide HO1') fun q hq => (unhide HB26).block q (row_lt (unhide HO1') hq).2)
  have HS6 := hide hS6
  clear hS6
  have hnb : n ≤ 2513169434843 := by have := (unhide HFI).bC; have := unhide HN; omega
  have hmb : m ≤ 2932031007317 := by have := (unhide HFI).bA; have := unhide HM; omega
  go_wp2_with fail
  go_loopw [15] (fun i wr => ∃ k : Nat, k ≤ n + 64 ∧ i = .int .i64 (k : Int) ∧ Hid (Spo kC w6 wr (.slice (some ⟨g1, 0, none⟩) (n + 64) c1) (n + 64))) (fun i _ => n + 64 - (intOf i).toNat)
  case atStart => exact ⟨0, by omega, rfl, unhide HS6⟩
  case round =>
    obtain ⟨k, hk, rfl, HS⟩ := hrel
    have hs := unhide HS
    by_cases hlk : k < n + 64
    · have k1 : (k : Int) < (n : Int) + 64 := by omega
      have k0 : (0 : Int) ≤ (k : Int) := by omega
      have hst : (stKC (.pointer (some ⟨g1, k * 5, none⟩)) (.agg #[.string ⟨#[115, 112, 111, 105, 108, 116]⟩, .string ⟨#[]⟩, .int .i64 0, .int .i64 0, .int .i64 (-1)])).run Tryz.prog wr = .ok () (wr.setCells g1 (k * 5) spC.vals) := run_stKC (hs.there kC_ok hlk) spC
      have HNX : Hid (Spo kC w6 (wr.setCells g1 (k * 5) spC.vals) (.slice (some ⟨g1, 0, none⟩) (n + 64) c1) (n + 64)) := hs.step kC_ok hlk spC
      clear hs
      go_wp2_with fail
      exact ⟨⟨k + 1, by omega, by go_num, unhide HNX⟩, by simp [intOf]; omega⟩
    · have hkn : k = n + 64 := by omega
      have k1 : ¬ (k : Int) < (n : Int) + 64 := by omega
      clear hkn hs
      go_wp2_with fail
      have hg12 : g1 ≠ g2 := fun e => by
        have h1 := (row_lt (unhide HO1) (q := g1) rfl).2
        have h2 := (row_lt (unhide HO2) (q := g2) rfl).1
        omega
      have hS7 : Spo kA wr wr (.slice (some ⟨g2, 0, none⟩) (m + 64) c2) (m + 64) := Spo.start (L := A ++ mks zA 700000 64) (by rw [List.length_append, mks_len, unhide HM]) (row_far (unhide HO2) fun q hq => ((unhide HS).gr.block q (Nat.lt_of_lt_of_le (row_lt (unhide HO2) hq).2 (unhide HB26).size) (fun e => by injection hq with hq; have hq : g2 = q := hq; injection e with e; have e : q = g1 := e; omega)).trans ((unhide HB26).block q (row_lt (unhide HO2) hq).2))
      have HS7 := hide hS7
      obtain ⟨w7, hw7⟩ : ∃ w7, w7 = wr := ⟨_, rfl⟩
      have HSC : Hid (Spo kC w6 w7 (.slice (some ⟨g1, 0, none⟩) (n + 64) c1) (n + 64)) := by rw [hw7]; exact unhide HS
      rw [← hw7] at HS7
      have HW7 := hide hw7
      clear hS7 HS k1 hk hlk hw7 HS6
      go_loopw [16] (fun i wq => ∃ k : Nat, k ≤ m + 64 ∧ i = .int .i64 (k : Int) ∧ Hid (Spo kA w7 wq (.slice (some ⟨g2, 0, none⟩) (m + 64) c2) (m + 64))) (fun i _ => m + 64 - (intOf i).toNat)
      case atStart => exact ⟨0, by omega, rfl, by rw [← unhide HW7]; exact unhide HS7⟩
      case round =>
        obtain ⟨k, hk, rfl, HS⟩ := hrel
        have hs := unhide HS
        by_cases hlk : k < m + 64
        · have k1 : (k : Int) < (m : Int) + 64 := by omega
          have k0 : (0 : Int) ≤ (k : Int) := by omega
          have hst : (stKA (.pointer (some ⟨g2, k * 4, none⟩)) (.agg #[.string ⟨#[115, 112, 111, 105, 108, 116]⟩, .string ⟨#[]⟩, .int .i64 0, .int .i64 (-1)])).run Tryz.prog wr = .ok () (wr.setCells g2 (k * 4) spA.vals) := run_stKA (hs.there kA_ok hlk) spA
          have HNX : Hid (Spo kA w7 (wr.setCells g2 (k * 4) spA.vals) (.slice (some ⟨g2, 0, none⟩) (m + 64) c2) (m + 64)) := hs.step kA_ok hlk spA
          clear hs
          go_wp2_with fail
          exact ⟨⟨k + 1, by omega, by go_num, unhide HNX⟩, by simp [intOf]; omega⟩
        · have k1 : ¬ (k : Int) < (m : Int) + 64 := by omega
          have HSA := hide hs
          obtain ⟨w8, hw8⟩ : ∃ w8, w8 = wr := ⟨_, rfl⟩
          rw [← hw8] at HSA hs
          have hlo1 : W0.heap.size ≤ g1 := (row_lt (unhide HO1) (q := g1) rfl).1
          have hlo2 : W0.heap.size ≤ g2 := by have h2 := (row_lt (unhide HO2) (q := g2) rfl).1; have := (unhide HB1).size; omega
          have hg1l : g1 < w2.heap.size := (row_lt (unhide HO1') (q := g1) rfl).2
          have hg2l : g2 < w2.heap.size := (row_lt (unhide HO2) (q := g2) rfl).2
          have b68 : ∀ q, q < w6.heap.size → q ≠ g1 → q ≠ g2 → w8.heap[q]? = w6.heap[q]? := fun q hq h1 h2 => ((unhide HSA).gr.block q (Nat.lt_of_lt_of_le hq (unhide HSC).gr.size) (fun e => h2 (by injection e))).trans ((unhide HSC).gr.block q hq (fun e => h1 (by injection e)))
          have B08 : Below W0.heap.size W0 w8 := ((unhide HB04).trans ((unhide HB46).mono (unhide HB04).size)).trans ⟨(unhide HSA).gr.os.trans (unhide HSC).gr.os, (unhide HSA).gr.tape.trans (unhide HSC).gr.tape, (unhide HSA).gr.output.trans (unhide HSC).gr.output, Nat.le_trans (unhide HSC).gr.size (unhide HSA).gr.size, fun q hq => b68 q (by have := (unhide HB04).size; have := (unhide HB46).size; omega) (by omega) (by omega)⟩
          have b28 : ∀ q, w2.heap.size ≤ q → q < w4.heap.size → w8.heap[q]? = w4.heap[q]? := fun q h1 h2 => (b68 q (Nat.lt_of_lt_of_le h2 (unhide HB46).size) (by omega) (by omega)).trans ((unhide HB46).block q h2)
          have a0 : w8.cell? ⟨bx, 0, none⟩ = some (.int .i64 (j : Int)) := keep1 B08 hblW (unhide HX0)
          have aP : w8.cell? ⟨y, j, none⟩ = some (oP (T j)) := keep1 B08 hylW ((unhide HP0).p j hj)
          have aD : w8.cell? ⟨y, 3 + j, none⟩ = some (oD (T j)) := keep1 B08 hylW ((unhide HP0).d j hj)
          have fP : w8.frozen? ⟨y, j, none⟩ = false := keepF B08 hylW ((unhide HP0).kb.fz j)
          have fD : w8.frozen? ⟨y, 3 + j, none⟩ = false := keepF B08 hylW ((unhide HP0).kb.fz (3 + j))
          have HB08 := hide B08; have HB28 := hide b28; have HS8 : Hid (w4.heap.size ≤ w8.heap.size) := Nat.le_trans (unhide HB46).size (Nat.le_trans (unhide HSC).gr.size (unhide HSA).gr.size)
          rw [← hw8]
          clear hs B08 b28 b68 hw8 HS
          go_wp2_with fail
          obtain ⟨w9, hw9⟩ : ∃ w9, w9 = w8.setCell ⟨y, j, none⟩ (.pointer none) := ⟨_, rfl⟩
          have d0 : w9.cell? ⟨bx, 0, none⟩ = some (.int .i64 (j : Int)) := by rw [hw9]; exact (World.cell?_setCell_other _ _ _ _ (by intro h'; injection h' with h' _ _; exact hjy h')).trans a0
          have dD : w9.cell? ⟨y, 3 + j, none⟩ = some (oD (T j)) := by rw [hw9]; exact (World.cell?_setCell_other _ _ _ _ (by intro h'; injection h' with _ h' _; omega)).trans aD
          have gD : w9.frozen? ⟨y, 3 + j, none⟩ = false := by rw [hw9]; simpa using fD
          refine wp_region_last (n := 8) (S := fun W => W.cell? ⟨bx, 0, none⟩ = some (.int .i64 (j : Int))) (by kernel_rfl) (by first | (exact a0)) (fun hHeld => ?_)
          refine tkW 0 ?_
          refine tkW 1 ?_
          refine tkN 2 ?_
          refine tkW 3 ?_
          refine tkW 4 ?_
          refine tkW 5 ?_
          refine tkW 6 ?_
          refine wpAnyL_one (i := 7) (by kernel_rfl) rfl (fun KK hK => ?_)
          go_simp
          refine hK.out _ _ (by first | (exact (World.cell?_setCell_other _ _ _ _ (by intro h'; injection h' with h' _ _; exact hjy h')).trans a0)) (fun hHeld => ?_)
          clear hK KK
          refine wpAnyL_done (by kernel_rfl) ?_
          rw [← hw9]
          obtain ⟨wA, hwA⟩ : ∃ wA, wA = w9.drew := ⟨_, rfl⟩
          rw [← hwA]
          have e0 : wA.cell? ⟨bx, 0, none⟩ = some (.int .i64 (j : Int)) := by rw [hwA]; exact d0
          have eD : wA.cell? ⟨y, 3 + j, none⟩ = some (oD (T j)) := by rw [hwA]; exact dD
          have eF : wA.frozen? ⟨y, 3 + j, none⟩ = false := by rw [hwA]; exact gD
          have eP : wA.cell? ⟨y, j, none⟩ = some (.pointer none) := by rw [hwA, hw9]; exact World.cell?_setCell_same _ _ _ aP
          have HF : Hid (∃ T' U', PlayIs w0 (wA.setCell ⟨y, 3 + j, none⟩ (.pointer none)).drew y T' U') := by
            have B08 := unhide HB08
            have hA8 : wA.heap.size = w8.heap.size := by rw [hwA, hw9]; simp
            have s1 : Sep W0 w9 (fun q => q = y) (fun q => q = y) := by rw [hw9]; exact Sep.one B08
            have s2 : Sep w9 wA (fun q => q = y) (fun q => q = y) := by rw [hwA]; exact Sep.of_below _ (below_drewN (Below.refl _ _) 1)
            have s3 : Sep wA (wA.setCell ⟨y, 3 + j, none⟩ (.pointer none)) (fun q => q = y) (fun q => q = y) := Sep.one (Below.refl _ _)
            have s4 : Sep (wA.setCell ⟨y, 3 + j, none⟩ (.pointer none)) (wA.setCell ⟨y, 3 + j, none⟩ (.pointer none)).drew (fun q => q = y) (fun q => q = y) := Sep.of_below _ (below_drewN (Below.refl _ _) 1)
            have hyc : ∀ i, i ≠ j → i ≠ 3 + j → (wA.setCell ⟨y, 3 + j, none⟩ (.pointer none)).drew.cell? ⟨y, i, none⟩ = W0.cell? ⟨y, i, none⟩ := fun i h1 h2 => by
              have k1 : (wA.setCell ⟨y, 3 + j, none⟩ (.pointer none)).cell? ⟨y, i, none⟩ = wA.cell? ⟨y, i, none⟩ := World.cell?_setCell_other _ _ _ _ (by intro h'; injection h' with _ h' _; omega)
              have k2 : wA.cell? ⟨y, i, none⟩ = w8.cell? ⟨y, i, none⟩ := by
                rw [hwA, hw9]
                exact World.cell?_setCell_other _ _ _ _ (by intro h'; injection h' with _ h' _; omega)
              exact k1.trans (k2.trans (B08.cell (p := ⟨y, i, none⟩) hylW))
            have hyf : ∀ i, (wA.setCell ⟨y, 3 + j, none⟩ (.pointer none)).drew.frozen? ⟨y, i, none⟩ = W0.frozen? ⟨y, i, none⟩ := fun i => by
              have k1 : (wA.setCell ⟨y, 3 + j, none⟩ (.pointer none)).frozen? ⟨y, i, none⟩ = wA.frozen? ⟨y, i, none⟩ := by simp
              have k2 : wA.frozen? ⟨y, i, none⟩ = w8.frozen? ⟨y, i, none⟩ := by
                rw [hwA, hw9]
                have : (w8.setCell ⟨y, j, none⟩ (.pointer none)).frozen? ⟨y, i, none⟩ = w8.frozen? ⟨y, i, none⟩ := by simp
                exact this
              exact k1.trans (k2.trans (B08.frozen (p := ⟨y, i, none⟩) hylW))
            have hcP : (wA.setCell ⟨y, 3 + j, none⟩ (.pointer none)).drew.cell? ⟨y, j, none⟩ = some (.pointer none) := (World.cell?_setCell_other _ _ _ _ (by intro h'; injection h' with _ h' _; omega)).trans eP
            have hcD : (wA.setCell ⟨y, 3 + j, none⟩ (.pointer none)).drew.cell? ⟨y, 3 + j, none⟩ = some (.pointer none) := World.cell?_setCell_same _ _ _ eD
            exact ⟨_, _, (unhide HP0).putG hj none (((s1.trans s2).trans s3).trans s4) hyc hyf hcP hcD (fun t ht => by cases ht)⟩
          clear hwA hw9 a0 aP aD fP fD d0 dD gD
          go_wp2_with fail
          refine wp_region_last (n := 8) (S := fun W => W.cell? ⟨bx, 0, none⟩ = some (.int .i64 (j : Int))) (by kernel_rfl) (by first | (exact e0)) (fun hHeld => ?_)
          refine tkW 0 ?_
          refine tkW 1 ?_
          refine tkN 2 ?_
          refine tkW 3 ?_
          refine tkW 4 ?_
          refine tkW 5 ?_
          refine tkW 6 ?_
          refine wpAnyL_one (i := 7) (by kernel_rfl) rfl (fun KK hK => ?_)
          go_simp
          refine hK.out _ _ (by first | (exact (World.cell?_setCell_other _ _ _ _ (by intro h'; injection h' with h' _ _; exact hjy h')).trans e0)) (fun hHeld => ?_)
          clear hK KK
          refine wpAnyL_done (by kernel_rfl) ?_
          go_wp2_with fail
          go_ret
          exact ⟨rfl, unhide HF⟩
set_option maxRecDepth 100000 in
set_option maxHeartbeats 16000000 in
theorem made11nil {w0 w : World} {y : Nat} {T : Nat → Option Tw} {U : Nat → Prop} (h : PlayIs w0 w y T U) {o : OpV} (ok : OpOk o) {j : Nat} (hj : j < 3) (hv : o.view = (j : Int)) (ht : T j = none) (hk : o.kind = 11) :
    Calls Tryz.prog 15 #[.pointer (some ⟨y, 0, none⟩), .agg o.arr] w fun e w' => e = .returned (.bool true) ∧ ∃ T' U', PlayIs w0 w' y T' U' := by
  obtain ⟨bx, hbx⟩ : ∃ bx, bx = w.heap.size := ⟨_, rfl⟩
  obtain ⟨X, hX⟩ : ∃ X, X = w.alloc (.cells o.arr 62) := ⟨_, rfl⟩
  have hbX : Below w.heap.size w X := by rw [hX]; exact bal (Below.refl _ _) _
  have hXb : X.heap[bx]? = some (.cells o.arr 62 (0, 0)) := by rw [hX, hbx]; exact heap_new _ _
  have hbl : bx < X.heap.size := by rw [hX, hbx]; simp
  have x0 : X.cell? ⟨bx, 0, none⟩ = some (.int .i64 (j : Int)) := by rw [cell_at hXb, ← hv]; rfl
  have x1 : X.cell? ⟨bx, 1, none⟩ = some (.int .i64 o.kind) := by rw [cell_at hXb]; rfl
  have x2 : X.cell? ⟨bx, 2, none⟩ = some (.int .i64 o.day) := by rw [cell_at hXb]; rfl
  have x12 : X.cell? ⟨bx, 12, none⟩ = some (.string o.acct) := by rw [cell_at hXb]; rfl
  have hPX := h.below hbX
  have x13 : X.cell? ⟨bx, 13, none⟩ = some (.slice o.pC o.C.length o.cC) := by rw [cell_at hXb]; rfl
  have x14 : X.cell? ⟨bx, 14, none⟩ = some (.slice o.pA o.A.length o.cA) := by rw [cell_at hXb]; rfl
  have yP := hPX.p j hj
  have yD := hPX.d j hj
  have fz := hPX.kb.fz
  have hI0 : (0 : Int) ≤ (j : Int) := by omega
  have hI3 : (j : Int) < 3 := by omega
  have HX : Hid (X = w.alloc (.cells o.arr 62)) := hX
  unfold OpV.arr at HX ⊢
  have HBX := hide hbx; have HP := hide hPX
  have hjy : y ≠ bx := fun e => by have := h.kb.lt; omega
  have yDd : X.cell? ⟨y, 3 + j, none⟩ = some (.pointer none) := by rw [yD, ht]; rfl
  rw [hk] at x1
  clear h hXb hX hbx hbX hPX ok hk hv x12 fz yP yD ht
  go_enter Tryz.func15, Tryz.ntmps15
  go_upto_region 1 with fail
  rw [← unhide HX, ← unhide HBX]
  clear HX HBX
  go_wp2_with fail
  go_region
  go_wp2_with fail
  go_ret
  exact ⟨rfl, T, U, (unhide HP).below (below_drewN (Below.refl _ X) 1)⟩
end Go.Proofs.YtfclknlpdcanpaaGreatDoor.Kg
