import Derived.Test.YtdeibifjiefapaaGreatDoorW40
/- made (8). By tools/ch6_mdb.py. -/
namespace Go.Proofs.YtdeibifjiefapaaGreatDoor.Kg
open Go Go.RowKit Go.Shelf Go.ChangeShapes Go.WideShapes Go.ChangeAt Go.Maps
set_option linter.unusedVariables false
set_option linter.unusedSimpArgs false
set_option maxRecDepth 100000
set_option maxHeartbeats 8000000
attribute [local go_sem ↓] stKD_is st33_is

theorem made_any {W : World} (hP : Pw W) {p : Option Addr} {n c : Nat} {X : List Ac} (hX : X.length = n) (hpc : p = none → c = 0) (hn : n ≤ 1048576) (hL : Lies kA W p X) (hs : ∀ a ∈ X, (txN a.nm).size < 4611686018427387904) :
    Calls Tryz.prog 8 #[.slice p n c] W fun e w' => MadeOut W e w' := by
  obtain ⟨W1, hW1⟩ : ∃ W1, W1 = W.alloc (.cells #[.pointer none, .pointer none] 33) := ⟨_, rfl⟩
  obtain ⟨b0, hb0⟩ : ∃ b0, b0 = W.heap.size := ⟨_, rfl⟩
  have hbW : Below W.heap.size W W1 := by rw [hW1]; exact bal (Below.refl _ _) _
  have hx0 : W1.heap[b0]? = some (.cells #[.pointer none, .pointer none] 33 (0, 0)) := by rw [hW1, hb0]; exact heap_new _ _
  have hb0l : b0 < W1.heap.size := (Array.getElem?_eq_some_iff.1 hx0).1
  have hP1 := hP.below hbW
  have hL1 := hL.below hbW
  have d12 := hide (roomD (X.map toD) p n c (by rw [List.length_map]; exact hX) hpc (by omega) W1 hP1 (liesD hL1))
  have hN0 : (0 : Int) ≤ (n : Int) := by omega
  have HX := hide hX; have HPC := hide hpc; have HN := hide hn; have HL1 := hide hL1; have HS := hide hs; have HBW := hide hbW; have HX0 := hide hx0; have HB0L := hide hb0l; have HP1 := hide hP1; have HB0 := hide hb0
  clear hP hX hpc hn hL hs hbW hx0 hb0l hP1 hL1
  go_enter Tryz.func8, Tryz.ntmps8
  go_upto_region 1 with fail
  rw [← hW1, ← hb0]
  clear hW1 hb0
  go_upto_region 2 with (first | (go_at_call 12; refine (unhide d12).mono ?_; rintro e w2 ⟨g, c2, rfl, hrow2, hb2⟩))
  have hll : (X.map toD ++ mks zD 700000 64).length = n + 64 := by rw [List.length_append, mks_len, List.length_map, unhide HX]
  have hLG2 : Lies kD w2 (some ⟨g, 0, none⟩) (X.map toD ++ mks zD 700000 64) := own_lies kD_ok hll hrow2
  have hLP2 : Lies kA w2 (some ⟨g, 0, none⟩) X := liesA hLG2
  obtain ⟨_, _, e2', _, hp2⟩ := row_slice hrow2
  have hgc : n + 64 ≤ c2 := by
    injection e2' with e1 e2 e3
    have := hp2 _ e1.symm
    omega
  have hgW : W1.heap.size ≤ g := (row_block hrow2 rfl).1
  have hg2 : g < w2.heap.size := (row_block hrow2 rfl).2.1
  have d13 := hide (from_any (c := c2) (unhide HX) (by have := unhide HN; omega) hLP2 (unhide HS))
  have hNc : (n : Int) ≤ (c2 : Int) := by omega
  have hNc' : n ≤ c2 := by omega
  have HB2 := hide hb2; have HROW2 := hide hrow2; have HLG2 := hide hLG2; have HGW := hide hgW; have HG2 := hide hg2
  clear hb2 hrow2 hll hLG2 hLP2 hp2 e2' hgc hgW hg2 d12
  by_cases hG : Good X
  · have d13g : Hid (Calls Tryz.prog 13 #[.slice (some ⟨g, 0, none⟩) n c2] w2 fun e w' => ∃ d S gg, e = .returned (.tuple #[.pointer (some ⟨d, 0, none⟩), .int .i64 0]) ∧ Ct w' d S X gg ∧ (∀ k, S k → w2.heap.size ≤ k) ∧ Below w2.heap.size w2 w') := (unhide d13).mono (fun e w' h => by
      obtain ⟨(⟨h1, d, S, gg, he, hv, hk⟩ | ⟨h1, he⟩), hb⟩ := h
      · exact ⟨d, S, gg, he, hv, hk, hb⟩
      · exact absurd (ok_good.2 hG) h1)
    clear d13
    go_upto_region 3 with (first | (go_at_call 13; refine (unhide d13g).mono ?_; rintro e w3 ⟨d2, S1, gg, rfl, hC3, hn3, hb3⟩))
    have hbW3 : Below W1.heap.size W1 w3 := (unhide HB2).trans (hb3.mono (unhide HB2).size)
    have d14g : Hid (Calls Tryz.prog 14 #[.slice p n c] w3 fun e w' => ∃ d S, e = .returned (.tuple #[.pointer (some ⟨d, 0, none⟩), .int .i64 0]) ∧ Rc w' d S X ∧ (∀ k, S k → w3.heap.size ≤ k) ∧ Below w3.heap.size w3 w') := (rfrom_any (c := c) (unhide HX) (by have := unhide HN; omega) ((unhide HL1).below hbW3) (unhide HPC) (unhide HS)).mono (fun e w' h => by
      obtain ⟨(⟨h1, d, S, he, hv, hk⟩ | ⟨h1, he⟩), hb⟩ := h
      · exact ⟨d, S, he, hv, hk, hb⟩
      · exact absurd hG h1)
    have HB3 := hide hb3; have HBW3 := hide hbW3; have HG := hide hG
    have HC3 := hide hC3; have HN3 := hide hn3; clear hC3 hn3
    clear hb3 hbW3 hG d13g
    go_upto_region 4 with (first | (go_at_call 14; refine (unhide d14g).mono ?_; rintro e w4 ⟨r2, S2, rfl, hR4, hn4, hb4⟩))
    have hbW4 : Below W1.heap.size W1 w4 := (unhide HBW3).trans (hb4.mono (unhide HBW3).size)
    have hb24 : Below w2.heap.size w2 w4 := (unhide HB3).trans (hb4.mono (unhide HB3).size)
    have hSd4 := sd_two (unhide HC3) hb4 hR4 hn4
    have hF4 : ∀ k, (S1 k ∨ S2 k) → w2.heap.size ≤ k := fun k hk => by
      rcases hk with hk | hk
      · exact unhide HN3 k hk
      · exact Nat.le_trans (unhide HB3).size (hn4 k hk)
    have HSD4 := hide hSd4; have HF4 := hide hF4
    clear hSd4 hF4 hR4 hn4
    have d15 := hide (keptD (X.map toD) p (some ⟨g, 0, none⟩) n c c2 (by rw [List.length_map]; exact unhide HX) (by have := unhide HN; omega) w4 ((unhide HP1).below hbW4) (liesD ((unhide HL1).below hbW4)) ((unhide HLG2).below hb24))
    have row4 := row_keep (unhide HROW2) (W' := w4) (fun q hq => hb24.block q (row_block (unhide HROW2) hq).2.1)
    have HROW4 := hide row4; have HBW4 := hide hbW4; have HZ24 := hide hb24.size
    clear hb4 hbW4 hb24 row4 d14g
    go_upto_region 5 with (first | (go_at_call 15; refine (unhide d15).mono ?_; rintro e w5 ⟨rfl, hb5⟩))
    have row5 := row_keep (unhide HROW4) (W' := w5) (fun q hq => hb5.block q (row_block (unhide HROW4) hq).2.1)
    have HOW : Hid (Oz w5 w5 g (n + 64) 0) := ⟨⟨rfl, rfl, rfl, rfl, fun _ _ => rfl, fun k hk => own_there kD_ok row5 hk⟩, fun j hj => by omega⟩
    have HB5 := hide hb5
    have HBW5 := hide ((unhide HBW4).trans (hb5.mono (unhide HBW4).size))
    have HZ25 : Hid (w2.heap.size ≤ w5.heap.size) := Nat.le_trans (unhide HZ24) hb5.size
    clear row5 hb5 d15
    go_upto_region 6 with fail
    go_loopw [10] (fun v10 wr => ∃ (k : Nat), v10 = .int .i64 k ∧ k ≤ n + 64 ∧ Hid (Oz w5 wr g (n + 64) k)) (fun v10 _ => n + 64 - (intOf v10).toNat)
    case atStart => exact ⟨0, rfl, by omega, unhide HOW⟩
    case round =>
      obtain ⟨k, rfl, hk, hrel⟩ := hrel
      rcases Nat.lt_or_ge k (n + 64) with hlt | hge
      · as_aux_lemma =>
        have hI : (k : Int) < (n : Int) + 64 := by omega
        have hI' : (k : Int) < ((n + 64 : Nat) : Int) := by omega
        have hI0 : (0 : Int) ≤ (k : Int) := by omega
        have hnn := unhide HN
        have hst := run_stZ ((unhide hrel).ow.th k hlt)
        have HST := hide ((unhide hrel).step hlt)
        clear hrel
        go_wp2_with fail
        exact ⟨⟨k + 1, by go_num, by omega, unhide HST⟩, by simp [intOf]; omega⟩
      have hI : ¬ (k : Int) < (n : Int) + 64 := by omega
      have hI' : ¬ (k : Int) < ((n + 64 : Nat) : Int) := by omega
      obtain ⟨wz, hwz⟩ : ∃ w, w = wr := ⟨_, rfl⟩
      subst hwz
      have hOw := (unhide hrel).ow
      have hgz : g < wz.heap.size := by
        rw [hOw.size]
        exact Nat.lt_of_lt_of_le (unhide HG2) (unhide HZ25)
      have hbz : Below W1.heap.size W1 wz := hOw.bel (unhide HBW5) (unhide HGW) (Nat.le_refl _)
      have hLZ := (unhide hrel).lies (n := n) (by omega) hgz
      have hsZ : ∀ a ∈ List.replicate n zA, (txN a.nm).size < 4611686018427387904 := fun a ha => by rw [(List.mem_replicate.1 ha).2]; decide
      obtain ⟨cZ, bZ, hAZ⟩ := agz (List.replicate n zA)
      have d13z := hide (pfrom_z (c := c2) List.length_replicate hLZ (unhide HN) hsZ hAZ)
      have d14z : Hid (∀ wy, Below wz.heap.size wz wy → Calls Tryz.prog 14 #[.slice (some ⟨g, 0, none⟩) n c2] wy fun e w' => ∃ gp, e = .returned (.tuple #[.pointer gp, .int .i64 cZ]) ∧ Below wy.heap.size wy w') := fun wy hb => rfrom_z (c := c2) List.length_replicate (hLZ.below hb) (fun e => by cases e) (unhide HN) hsZ hAZ
      have hbb1 : (cZ != 0) = bZ := by rcases hAZ with ⟨_, h1, h2⟩ | ⟨_, h1, h2⟩ <;> rw [h1, h2] <;> rfl
      have hbb2 : (cZ == 0) = !bZ := by rcases hAZ with ⟨_, h1, h2⟩ | ⟨_, h1, h2⟩ <;> rw [h1, h2] <;> rfl
      have HBZ := hide hbz; have HAZ := hide hAZ
      have HSDZ := hide (((unhide HSD4).below (unhide HB5)).keep (by rw [hOw.size]; exact Nat.le_refl _) (fun q hq => hOw.blk q (fun e => by have := unhide HF4 q hq; have := unhide HG2; omega)))
      clear hrel hOw hgz hbz hLZ hAZ hsZ hge hk
      go_upto_region 10 with (first | (go_at_call 13; refine (unhide d13z).mono ?_; rintro e wy ⟨gp, rfl, hgp, hby⟩))
      have HBY := hide hby
      have d14y := hide (unhide d14z wy hby)
      clear hby d13z d14z
      go_upto_region 11 with (first | (go_at_call 14; refine (unhide d14y).mono ?_; rintro e w6 ⟨gq, rfl, hb6y⟩))
      have hbz6 : Below wz.heap.size wz w6 := (unhide HBY).trans (hb6y.mono (unhide HBY).size)
      have hb6 : Below W1.heap.size W1 w6 := (unhide HBZ).trans (hbz6.mono (unhide HBZ).size)
      have HB6 := hide hb6
      have HSD6 := hide ((unhide HSDZ).below hbz6)
      clear hb6y hbz6 hb6 d14y
      clear hbb1 hbb2
      rcases unhide HAZ with ⟨_, e1, e2⟩ | ⟨_, e1, e2⟩
      · subst e1; subst e2
        obtain ⟨a, ea⟩ : ∃ a, gp = some a := by
          cases gp with
          | none => cases hgp
          | some a => exact ⟨a, rfl⟩
        subst ea
        clear hgp HAZ
        as_aux_lemma =>
          have x06 : w6.heap[b0]? = some (.cells #[.pointer none, .pointer none] 33 (0, 0)) := ((unhide HB6).block b0 (unhide HB0L)).trans (unhide HX0)
          have s15 := run_st33 (d := some ⟨d2, 0, none⟩) (r := some ⟨r2, 0, none⟩) x06
          obtain ⟨w7, hw7⟩ : ∃ w7, w7 = w6.setCells b0 0 [.pointer (some ⟨d2, 0, none⟩), .pointer (some ⟨r2, 0, none⟩)] := ⟨_, rfl⟩
          rw [← hw7] at s15
          have x7 : w7.heap[b0]? = some (.cells #[.pointer (some ⟨d2, 0, none⟩), .pointer (some ⟨r2, 0, none⟩)] 33 (0, 0)) := by rw [hw7]; exact heap_set2 x06
          have hlv := lv33 x7
          have HF : Hid (MadeOut W (.returned (.tuple #[.agg #[.pointer (some ⟨d2, 0, none⟩), .pointer (some ⟨r2, 0, none⟩)], .bool true])) w7) := by
            have hbw6 : Below W.heap.size W w6 := (unhide HBW).trans ((unhide HB6).mono (unhide HBW).size)
            refine ⟨d2, r2, _, X, rfl, (unhide HSD6).keep (by rw [hw7, setCells_size]; exact Nat.le_refl _) (fun q hq => ?_), fun k hk => ?_, ?_⟩
            · rw [hw7]
              exact setCells_far b0 (by have := unhide HF4 q hq; have := (unhide HB2).size; have := unhide HB0L; omega) _ _ _
            · have := unhide HF4 k hk; have := (unhide HB2).size; have := (unhide HBW).size; omega
            · rw [hw7]
              have hb := unhide HB0
              exact Below.setCell (Below.setCell hbw6 (by show W.heap.size ≤ b0; omega) _) (by show W.heap.size ≤ b0; omega) _
          clear x06 hw7 x7
          go_upto_region 15 with fail
          go_wp2_with fail
          refine bodyPost_ret (results_ct Tryz.results8 rfl rfl hlv) rfl ?_
          exact unhide HF
      · subst e1; subst e2
        have ea : gp = none := by
          cases gp with
          | none => rfl
          | some a => cases hgp
        subst ea
        clear hgp HAZ
        as_aux_lemma =>
          have x06 : w6.heap[b0]? = some (.cells #[.pointer none, .pointer none] 33 (0, 0)) := ((unhide HB6).block b0 (unhide HB0L)).trans (unhide HX0)
          have s15 := run_st33 (d := some ⟨d2, 0, none⟩) (r := some ⟨r2, 0, none⟩) x06
          obtain ⟨w7, hw7⟩ : ∃ w7, w7 = w6.setCells b0 0 [.pointer (some ⟨d2, 0, none⟩), .pointer (some ⟨r2, 0, none⟩)] := ⟨_, rfl⟩
          rw [← hw7] at s15
          have x7 : w7.heap[b0]? = some (.cells #[.pointer (some ⟨d2, 0, none⟩), .pointer (some ⟨r2, 0, none⟩)] 33 (0, 0)) := by rw [hw7]; exact heap_set2 x06
          have hlv := lv33 x7
          have HF : Hid (MadeOut W (.returned (.tuple #[.agg #[.pointer (some ⟨d2, 0, none⟩), .pointer (some ⟨r2, 0, none⟩)], .bool true])) w7) := by
            have hbw6 : Below W.heap.size W w6 := (unhide HBW).trans ((unhide HB6).mono (unhide HBW).size)
            refine ⟨d2, r2, _, X, rfl, (unhide HSD6).keep (by rw [hw7, setCells_size]; exact Nat.le_refl _) (fun q hq => ?_), fun k hk => ?_, ?_⟩
            · rw [hw7]
              exact setCells_far b0 (by have := unhide HF4 q hq; have := (unhide HB2).size; have := unhide HB0L; omega) _ _ _
            · have := unhide HF4 k hk; have := (unhide HB2).size; have := (unhide HBW).size; omega
            · rw [hw7]
              have hb := unhide HB0
              exact Below.setCell (Below.setCell hbw6 (by show W.heap.size ≤ b0; omega) _) (by show W.heap.size ≤ b0; omega) _
          clear x06 hw7 x7
          go_upto_region 15 with fail
          go_wp2_with fail
          refine bodyPost_ret (results_ct Tryz.results8 rfl rfl hlv) rfl ?_
          exact unhide HF
  · have d13g : Hid (Calls Tryz.prog 13 #[.slice (some ⟨g, 0, none⟩) n c2] w2 fun e w' => e = .returned (.tuple #[.pointer none, .int .i64 67]) ∧ Below w2.heap.size w2 w') := (unhide d13).mono (fun e w' h => by
      obtain ⟨(⟨h1, d, S, gg, he, hv, hk⟩ | ⟨h1, he⟩), hb⟩ := h
      · exact absurd (ok_good.1 h1) hG
      · exact ⟨he, hb⟩)
    clear d13
    go_upto_region 3 with (first | (go_at_call 13; refine (unhide d13g).mono ?_; rintro e w3 ⟨rfl, hb3⟩))
    have hbW3 : Below W1.heap.size W1 w3 := (unhide HB2).trans (hb3.mono (unhide HB2).size)
    have d14g : Hid (Calls Tryz.prog 14 #[.slice p n c] w3 fun e w' => e = .returned (.tuple #[.pointer none, .int .i64 67]) ∧ Below w3.heap.size w3 w') := (rfrom_any (c := c) (unhide HX) (by have := unhide HN; omega) ((unhide HL1).below hbW3) (unhide HPC) (unhide HS)).mono (fun e w' h => by
      obtain ⟨(⟨h1, d, S, he, hv, hk⟩ | ⟨h1, he⟩), hb⟩ := h
      · exact absurd h1 hG
      · exact ⟨he, hb⟩)
    have HB3 := hide hb3; have HBW3 := hide hbW3; have HG := hide hG
    clear hb3 hbW3 hG d13g
    go_upto_region 4 with (first | (go_at_call 14; refine (unhide d14g).mono ?_; rintro e w4 ⟨rfl, hb4⟩))
    have hbW4 : Below W1.heap.size W1 w4 := (unhide HBW3).trans (hb4.mono (unhide HBW3).size)
    have hb24 : Below w2.heap.size w2 w4 := (unhide HB3).trans (hb4.mono (unhide HB3).size)
    have d15 := hide (keptD (X.map toD) p (some ⟨g, 0, none⟩) n c c2 (by rw [List.length_map]; exact unhide HX) (by have := unhide HN; omega) w4 ((unhide HP1).below hbW4) (liesD ((unhide HL1).below hbW4)) ((unhide HLG2).below hb24))
    have row4 := row_keep (unhide HROW2) (W' := w4) (fun q hq => hb24.block q (row_block (unhide HROW2) hq).2.1)
    have HROW4 := hide row4; have HBW4 := hide hbW4; have HZ24 := hide hb24.size
    clear hb4 hbW4 hb24 row4 d14g
    go_upto_region 5 with (first | (go_at_call 15; refine (unhide d15).mono ?_; rintro e w5 ⟨rfl, hb5⟩))
    have row5 := row_keep (unhide HROW4) (W' := w5) (fun q hq => hb5.block q (row_block (unhide HROW4) hq).2.1)
    have HOW : Hid (Oz w5 w5 g (n + 64) 0) := ⟨⟨rfl, rfl, rfl, rfl, fun _ _ => rfl, fun k hk => own_there kD_ok row5 hk⟩, fun j hj => by omega⟩
    have HB5 := hide hb5
    have HBW5 := hide ((unhide HBW4).trans (hb5.mono (unhide HBW4).size))
    have HZ25 : Hid (w2.heap.size ≤ w5.heap.size) := Nat.le_trans (unhide HZ24) hb5.size
    clear row5 hb5 d15
    go_upto_region 6 with fail
    go_loopw [10] (fun v10 wr => ∃ (k : Nat), v10 = .int .i64 k ∧ k ≤ n + 64 ∧ Hid (Oz w5 wr g (n + 64) k)) (fun v10 _ => n + 64 - (intOf v10).toNat)
    case atStart => exact ⟨0, rfl, by omega, unhide HOW⟩
    case round =>
      obtain ⟨k, rfl, hk, hrel⟩ := hrel
      rcases Nat.lt_or_ge k (n + 64) with hlt | hge
      · as_aux_lemma =>
        have hI : (k : Int) < (n : Int) + 64 := by omega
        have hI' : (k : Int) < ((n + 64 : Nat) : Int) := by omega
        have hI0 : (0 : Int) ≤ (k : Int) := by omega
        have hnn := unhide HN
        have hst := run_stZ ((unhide hrel).ow.th k hlt)
        have HST := hide ((unhide hrel).step hlt)
        clear hrel
        go_wp2_with fail
        exact ⟨⟨k + 1, by go_num, by omega, unhide HST⟩, by simp [intOf]; omega⟩
      have hI : ¬ (k : Int) < (n : Int) + 64 := by omega
      have hI' : ¬ (k : Int) < ((n + 64 : Nat) : Int) := by omega
      obtain ⟨wz, hwz⟩ : ∃ w, w = wr := ⟨_, rfl⟩
      subst hwz
      have hOw := (unhide hrel).ow
      have hgz : g < wz.heap.size := by
        rw [hOw.size]
        exact Nat.lt_of_lt_of_le (unhide HG2) (unhide HZ25)
      have hbz : Below W1.heap.size W1 wz := hOw.bel (unhide HBW5) (unhide HGW) (Nat.le_refl _)
      have hLZ := (unhide hrel).lies (n := n) (by omega) hgz
      have hsZ : ∀ a ∈ List.replicate n zA, (txN a.nm).size < 4611686018427387904 := fun a ha => by rw [(List.mem_replicate.1 ha).2]; decide
      obtain ⟨cZ, bZ, hAZ⟩ := agz (List.replicate n zA)
      have d13z := hide (pfrom_z (c := c2) List.length_replicate hLZ (unhide HN) hsZ hAZ)
      have d14z : Hid (∀ wy, Below wz.heap.size wz wy → Calls Tryz.prog 14 #[.slice (some ⟨g, 0, none⟩) n c2] wy fun e w' => ∃ gp, e = .returned (.tuple #[.pointer gp, .int .i64 cZ]) ∧ Below wy.heap.size wy w') := fun wy hb => rfrom_z (c := c2) List.length_replicate (hLZ.below hb) (fun e => by cases e) (unhide HN) hsZ hAZ
      have hbb1 : (cZ != 0) = bZ := by rcases hAZ with ⟨_, h1, h2⟩ | ⟨_, h1, h2⟩ <;> rw [h1, h2] <;> rfl
      have hbb2 : (cZ == 0) = !bZ := by rcases hAZ with ⟨_, h1, h2⟩ | ⟨_, h1, h2⟩ <;> rw [h1, h2] <;> rfl
      have HBZ := hide hbz; have HAZ := hide hAZ
      clear hrel hOw hgz hbz hLZ hAZ hsZ hge hk
      go_upto_region 10 with (first | (go_at_call 13; refine (unhide d13z).mono ?_; rintro e wy ⟨gp, rfl, hgp, hby⟩))
      have HBY := hide hby
      have d14y := hide (unhide d14z wy hby)
      clear hby d13z d14z
      go_upto_region 11 with (first | (go_at_call 14; refine (unhide d14y).mono ?_; rintro e w6 ⟨gq, rfl, hb6y⟩))
      have hbz6 : Below wz.heap.size wz w6 := (unhide HBY).trans (hb6y.mono (unhide HBY).size)
      have hb6 : Below W1.heap.size W1 w6 := (unhide HBZ).trans (hbz6.mono (unhide HBZ).size)
      have HB6 := hide hb6
      clear hb6y hbz6 hb6 d14y
      clear hbb1 hbb2
      rcases unhide HAZ with ⟨_, e1, e2⟩ | ⟨_, e1, e2⟩
      · subst e1; subst e2
        obtain ⟨a, ea⟩ : ∃ a, gp = some a := by
          cases gp with
          | none => cases hgp
          | some a => exact ⟨a, rfl⟩
        subst ea
        clear hgp HAZ
        as_aux_lemma =>
          obtain ⟨d1, hd1⟩ : ∃ d, d = w6.heap.size := ⟨_, rfl⟩
          obtain ⟨w7, hw7⟩ : ∃ w7, w7 = w6.alloc (.cells (cellsA top0 (.slice none 0 0)) 70) := ⟨_, rfl⟩
          obtain ⟨r1, hr1⟩ : ∃ r, r = w7.heap.size := ⟨_, rfl⟩
          obtain ⟨w8, hw8⟩ : ∃ w8, w8 = w7.alloc (.cells #[.slice none 0 0] 72) := ⟨_, rfl⟩
          have d6 := hide (new_any w6)
          rw [← hw7, ← hd1] at d6
          have d7 := hide (rnew_any w7)
          rw [← hw8, ← hr1] at d7
          have hz7 : r1 = w6.heap.size + 1 := by rw [hr1, hw7]; simp
          have hsd := sd_new w6
          rw [← hw7, ← hw8, ← hz7, ← hd1] at hsd
          have hb68 : Below w6.heap.size w6 w8 := by rw [hw8, hw7]; exact bal (bal (Below.refl _ _) _) _
          have hb8 : Below W1.heap.size W1 w8 := (unhide HB6).trans (hb68.mono (unhide HB6).size)
          have x08 : w8.heap[b0]? = some (.cells #[.pointer none, .pointer none] 33 (0, 0)) := (hb8.block b0 (unhide HB0L)).trans (unhide HX0)
          have s14 := run_st33 (d := some ⟨d1, 0, none⟩) (r := some ⟨r1, 0, none⟩) x08
          obtain ⟨w9, hw9⟩ : ∃ w9, w9 = w8.setCells b0 0 [.pointer (some ⟨d1, 0, none⟩), .pointer (some ⟨r1, 0, none⟩)] := ⟨_, rfl⟩
          rw [← hw9] at s14
          have x9 : w9.heap[b0]? = some (.cells #[.pointer (some ⟨d1, 0, none⟩), .pointer (some ⟨r1, 0, none⟩)] 33 (0, 0)) := by rw [hw9]; exact heap_set2 x08
          have hlv := lv33 x9
          have HF : Hid (MadeOut W (.returned (.tuple #[.agg #[.pointer (some ⟨d1, 0, none⟩), .pointer (some ⟨r1, 0, none⟩)], .bool true])) w9) := by
            have h6W := (unhide HB6).size
            have h1W := (unhide HBW).size
            have h0 := unhide HB0L
            have hbw8 : Below W.heap.size W w8 := (unhide HBW).trans (hb8.mono (unhide HBW).size)
            refine ⟨d1, r1, _, [], rfl, hsd.keep (by rw [hw9, setCells_size]; exact Nat.le_refl _) (fun q hq => ?_), fun k hk => by omega, ?_⟩
            · rw [hw9]
              exact setCells_far b0 (by omega) _ _ _
            · rw [hw9]
              have hb := unhide HB0
              exact Below.setCell (Below.setCell hbw8 (by show W.heap.size ≤ b0; omega) _) (by show W.heap.size ≤ b0; omega) _
          clear hsd hb68 hb8 x08 hw7 hw8 hw9 x9 hr1 hz7 hd1
          go_upto_region 14 with fail
          go_wp2_with (first | (go_at_call 6; refine (unhide d6).mono ?_; rintro e wx ⟨rfl, hwx⟩; rw [hwx]; clear hwx wx) | (go_at_call 7; refine (unhide d7).mono ?_; rintro e wx ⟨rfl, hwx⟩; rw [hwx]; clear hwx wx))
          refine bodyPost_ret (results_ct Tryz.results8 rfl rfl hlv) rfl ?_
          exact unhide HF
      · subst e1; subst e2
        have ea : gp = none := by
          cases gp with
          | none => rfl
          | some a => cases hgp
        subst ea
        clear hgp HAZ
        as_aux_lemma =>
          obtain ⟨d1, hd1⟩ : ∃ d, d = w6.heap.size := ⟨_, rfl⟩
          obtain ⟨w7, hw7⟩ : ∃ w7, w7 = w6.alloc (.cells (cellsA top0 (.slice none 0 0)) 70) := ⟨_, rfl⟩
          obtain ⟨r1, hr1⟩ : ∃ r, r = w7.heap.size := ⟨_, rfl⟩
          obtain ⟨w8, hw8⟩ : ∃ w8, w8 = w7.alloc (.cells #[.slice none 0 0] 72) := ⟨_, rfl⟩
          have d6 := hide (new_any w6)
          rw [← hw7, ← hd1] at d6
          have d7 := hide (rnew_any w7)
          rw [← hw8, ← hr1] at d7
          have hz7 : r1 = w6.heap.size + 1 := by rw [hr1, hw7]; simp
          have hsd := sd_new w6
          rw [← hw7, ← hw8, ← hz7, ← hd1] at hsd
          have hb68 : Below w6.heap.size w6 w8 := by rw [hw8, hw7]; exact bal (bal (Below.refl _ _) _) _
          have hb8 : Below W1.heap.size W1 w8 := (unhide HB6).trans (hb68.mono (unhide HB6).size)
          have x08 : w8.heap[b0]? = some (.cells #[.pointer none, .pointer none] 33 (0, 0)) := (hb8.block b0 (unhide HB0L)).trans (unhide HX0)
          have s14 := run_st33 (d := some ⟨d1, 0, none⟩) (r := some ⟨r1, 0, none⟩) x08
          obtain ⟨w9, hw9⟩ : ∃ w9, w9 = w8.setCells b0 0 [.pointer (some ⟨d1, 0, none⟩), .pointer (some ⟨r1, 0, none⟩)] := ⟨_, rfl⟩
          rw [← hw9] at s14
          have x9 : w9.heap[b0]? = some (.cells #[.pointer (some ⟨d1, 0, none⟩), .pointer (some ⟨r1, 0, none⟩)] 33 (0, 0)) := by rw [hw9]; exact heap_set2 x08
          have hlv := lv33 x9
          have HF : Hid (MadeOut W (.returned (.tuple #[.agg #[.pointer (some ⟨d1, 0, none⟩), .pointer (some ⟨r1, 0, none⟩)], .bool true])) w9) := by
            have h6W := (unhide HB6).size
            have h1W := (unhide HBW).size
            have h0 := unhide HB0L
            have hbw8 : Below W.heap.size W w8 := (unhide HBW).trans (hb8.mono (unhide HBW).size)
            refine ⟨d1, r1, _, [], rfl, hsd.keep (by rw [hw9, setCells_size]; exact Nat.le_refl _) (fun q hq => ?_), fun k hk => by omega, ?_⟩
            · rw [hw9]
              exact setCells_far b0 (by omega) _ _ _
            · rw [hw9]
              have hb := unhide HB0
              exact Below.setCell (Below.setCell hbw8 (by show W.heap.size ≤ b0; omega) _) (by show W.heap.size ≤ b0; omega) _
          clear hsd hb68 hb8 x08 hw7 hw8 hw9 x9 hr1 hz7 hd1
          go_upto_region 14 with fail
          go_wp2_with (first | (go_at_call 6; refine (unhide d6).mono ?_; rintro e wx ⟨rfl, hwx⟩; rw [hwx]; clear hwx wx) | (go_at_call 7; refine (unhide d7).mono ?_; rintro e wx ⟨rfl, hwx⟩; rw [hwx]; clear hwx wx))
          refine bodyPost_ret (results_ct Tryz.results8 rfl rfl hlv) rfl ?_
          exact unhide HF
end Go.Proofs.YtdeibifjiefapaaGreatDoor.Kg
