import Derived.Test.YtddpladmkmpoaabDoorParR
namespace Go.Proofs.YtddpladmkmpoaabDoor
open Go.ChangeShapes Go.WideShapes Go.ChangeAt Go.RowKit
set_option linter.unusedVariables false
attribute [local go_sem] setCell_drewN alloc_drewN
attribute [local go_sem ↓] st75_is
attribute [local go_sem] run_st75 run_st75_new
set_option maxRecDepth 100000 in
set_option maxHeartbeats 4000000 in
theorem rparse_pos (L : List UInt8) (D : Nat) (w : World) (hD : D ≤ 6) (hL : L.length ≤ 40) (hne : 0 < L.length) (hm : minusB L = false) :
   Calls Tryd.prog 17 #[.string ⟨L.toArray⟩, .int .i64 D] w fun e w' => e = .returned (.tuple #[.int .i64 (parSpec L D).1, .int .i64 (parSpec L D).2]) ∧ Below w.heap.size w w' := by
  have hmn := hm
  have hU : unsg L = L := by unfold unsg; rw [hmn]; rfl
  have hrl : L.length ≤ 40 := hL
  have hzU := sizeL L
  have hI : ¬ (40 : Int) < (L.length : Int) := by omega
  have hI0 : (0 : Int) < (L.length : Int) := by omega
  obtain ⟨b0, h0⟩ : ∃ b0, ((⟨L.toArray⟩ : ByteArray)[0]'(by rw [sizeL]; exact hne)).toNat = b0 := ⟨_, rfl⟩
  have hb0 : ((b0 : Int) == 45) = false := by
    cases L with
    | nil => cases hne
    | cons c r =>
      have h1 : c.toNat = b0 := h0
      have h2 : ¬ c = 45 := by intro e; rw [e] at hm; cases hm
      have h3 : ¬ b0 = 45 := by rw [← h1]; intro e; exact h2 (UInt8.toNat_inj.1 e)
      rw [beq_eq_false_iff_ne]
      omega
  have PB := hide (fun h => par_bad (D := D) hU h)
  have PN := hide (fun v wn b h hb => par_no (D := D) (v := v) (wn := wn) (b := b) hU h hb)
  have PS := hide (fun v wn b h hb => par_some (D := D) (v := v) (wn := wn) (b := b) hU h hb)
  have PF := hide (fun n h hn => parSpec_fits (L := L) (D := D) (n := n) h hn)
  have PO := hide (fun n h hn => parSpec_over (L := L) (D := D) (n := n) h hn)
  rw [hmn] at PF
  obtain ⟨p, q, hpq⟩ : ∃ p q, parSpec L D = (p, q) := ⟨_, _, rfl⟩
  rw [hpq] at PB PN PF PO ⊢
  clear hpq hU hmn
  go_enter Tryd.func17, Tryd.ntmps17
  go_wp2
  go_loopw [9, 10, 11] (fun vw vb vi wr => ∃ (k v wn : Nat) (b : Int), k ≤ L.length ∧ vi = .int .i64 k ∧ vw = .int .i64 wn ∧ vb = .int .i64 b ∧ ScanAt D L w wr k v wn b) (fun _ _ i _ => L.length - (RowKit.intOf i).toNat)
  case atStart => exact ⟨0, 0, 0, -1, by omega, rfl, rfl, rfl, by omega, by omega, by omega, by simp, rfl, Box.zero _, bal (Below.refl _ _) _⟩
  case round =>
    rename_i wr
    obtain ⟨k, v, wn, b, hk, rfl, rfl, rfl, hs⟩ := hrel
    have HS := hide hs
    have hbg := hs.b_ge
    have hbl := hs.b_le
    have hwl := hs.wn_le
    by_cases hlt : k < L.length
    · have hIk : (k : Int) < (L.length : Int) := by omega
      have hdr := List.drop_eq_getElem_cons hlt
      have hb := byte_at L k hlt (by rw [hzU]; exact hlt)
      have hd := hs.rest
      rw [hdr, ← hb] at hd
      obtain ⟨B, hB⟩ : ∃ B : Nat, ((⟨L.toArray⟩ : ByteArray)[k]'(by rw [hzU]; exact hlt)).toNat = B := ⟨_, rfl⟩
      have HV := hide (show v < 10 ^ 47 from Nat.lt_of_lt_of_le hs.v_lt (Nat.le_trans (pow_le40 (by omega)) (by decide)))
      have hv10 := hs.v_lt
      clear hdr hb
      by_cases hdg : 48 ≤ B ∧ B ≤ 57
      · rw [scan_dig (by rw [hB]; exact hdg.1) (by rw [hB]; exact hdg.2), hB] at hd
        obtain ⟨h1, h2⟩ := hdg
        have h46 : ((B : Int) == 46) = false := by rw [beq_eq_false_iff_ne]; omega
        have HD10 := hide (show v * 10 + (B - 48) < 10 ^ (k + 1) by rw [Nat.pow_succ]; omega)
        have u0 := hs.box.at' 0 (by omega)
        have u1 := hs.box.at' 1 (by omega)
        have u2 := hs.box.at' 2 (by omega)
        have u3 := hs.box.at' 3 (by omega)
        have u4 := hs.box.at' 4 (by omega)
        have u5 := hs.box.at' 5 (by omega)
        have su := hs.box.lt
        by_cases hb0 : b < 0
        · rw [if_pos hb0, if_pos hb0] at hd
          have H1 := hide hd
          clear hd hs hv10
          go_wp2
          refine wp_region_held_drew (S := fun _ => True) (by kernel_rfl) trivial (fun hHeld => ?_)
          refine wpAnyH_take (i := 3) (v := ?v1) rfl (by kernel_rfl) (by kernel_rfl) (by kernel_rfl) (fun _ _ _ h => h) (Or.inl ⟨by rfl, ?hy1⟩) (by assumption) ?rest1
          case hy1 =>
            intro w hSw
            go_simp
            try (with_reducible rfl)
          try (repeat (first | simp only [Act.put] | simp only [List.setIfInBounds_toArray] | simp only [List.set_cons_succ] | simp only [List.set_cons_zero]))
          refine wpAnyH_take (i := 4) (v := ?v2) rfl (by kernel_rfl) (by kernel_rfl) (by kernel_rfl) (fun _ _ _ h => h) (Or.inl ⟨by rfl, ?hy2⟩) (by assumption) ?rest2
          case hy2 =>
            intro w hSw
            go_simp
            try (with_reducible rfl)
          try (repeat (first | simp only [Act.put] | simp only [List.setIfInBounds_toArray] | simp only [List.set_cons_succ] | simp only [List.set_cons_zero]))
          refine wpAnyH_take (i := 5) (v := ?v3) rfl (by kernel_rfl) (by kernel_rfl) (by kernel_rfl) (fun _ _ _ h => h) (Or.inl ⟨by rfl, ?hy3⟩) (by assumption) ?rest3
          case hy3 =>
            intro w hSw
            go_simp
            try (with_reducible rfl)
          try (repeat (first | simp only [Act.put] | simp only [List.setIfInBounds_toArray] | simp only [List.set_cons_succ] | simp only [List.set_cons_zero]))
          refine wpAnyH_take (i := 6) (v := ?v4) rfl (by kernel_rfl) (by kernel_rfl) (by kernel_rfl) (fun _ _ _ h => h) (Or.inl ⟨by rfl, ?hy4⟩) (by assumption) ?rest4
          case hy4 =>
            intro w hSw
            go_simp
            try (with_reducible rfl)
          try (repeat (first | simp only [Act.put] | simp only [List.setIfInBounds_toArray] | simp only [List.set_cons_succ] | simp only [List.set_cons_zero]))
          refine wpAnyH_take (i := 7) (v := ?v5) rfl (by kernel_rfl) (by kernel_rfl) (by kernel_rfl) (fun _ _ _ h => h) (Or.inl ⟨by rfl, ?hy5⟩) (by assumption) ?rest5
          case hy5 =>
            intro w hSw
            go_simp
            try (with_reducible rfl)
          try (repeat (first | simp only [Act.put] | simp only [List.setIfInBounds_toArray] | simp only [List.set_cons_succ] | simp only [List.set_cons_zero]))
          refine wpAnyH_ready (rs := [0, 1]) (by kernel_rfl) (by simp) ?_
          refine AllReadyH.cons rfl (fun K hK => ?_) ?_
          · go_simp
            refine hK.out _ _ trivial (fun hHeld => ?_)
            clear hK K
            try (repeat (first | simp only [Act.put] | simp only [List.setIfInBounds_toArray] | simp only [List.set_cons_succ] | simp only [List.set_cons_zero]))
            refine wpAnyH_ready (rs := [1]) (by kernel_rfl) (by simp) ?_
            refine AllReadyH.cons rfl (fun K hK => ?_) ?_
            · go_simp
              refine (of_ten _).mono ?_
              rintro e w1 ⟨rfl, hb1⟩
              have B1 := Box.below' hb1 (unhide HS).box.lt (unhide HS).box.at' (unhide HS).box.fz
              have k0 := B1.at' 0 (by omega)
              have k1 := B1.at' 1 (by omega)
              have k2 := B1.at' 2 (by omega)
              have k3 := B1.at' 3 (by omega)
              have k4 := B1.at' 4 (by omega)
              have k5 := B1.at' 5 (by omega)
              dsimp only
              refine hK.out _ _ trivial (fun hHeld => ?_)
              clear hK K
              try (repeat (first | simp only [Act.put] | simp only [List.setIfInBounds_toArray] | simp only [List.set_cons_succ] | simp only [List.set_cons_zero]))
              refine wpAnyH_ready (rs := [2]) (by kernel_rfl) (by simp) ?_
              refine AllReadyH.cons rfl (fun K hK => ?_) ?_
              · go_simp
                refine (times_ten v (unhide HV) _).mono ?_
                rintro e w2 ⟨rfl, hb2⟩
                have B2 := B1.below hb2
                dsimp only
                refine hK.out _ _ trivial (fun hHeld => ?_)
                clear hK K
                try (repeat (first | simp only [Act.put] | simp only [List.setIfInBounds_toArray] | simp only [List.set_cons_succ] | simp only [List.set_cons_zero]))
                refine wpAnyH_ready (rs := [8]) (by kernel_rfl) (by simp) ?_
                refine AllReadyH.cons rfl (fun K hK => ?_) ?_
                · go_simp
                  rw [wr_dig B h1 h2]
                  refine (of_dig B h1 h2 _).mono ?_
                  rintro e w3 ⟨rfl, hb3⟩
                  have B3 := B2.below hb3
                  dsimp only
                  refine hK.out _ _ trivial (fun hHeld => ?_)
                  clear hK K
                  try (repeat (first | simp only [Act.put] | simp only [List.setIfInBounds_toArray] | simp only [List.set_cons_succ] | simp only [List.set_cons_zero]))
                  refine wpAnyH_ready (rs := [9]) (by kernel_rfl) (by simp) ?_
                  refine AllReadyH.cons rfl (fun K hK => ?_) ?_
                  · go_simp
                    refine (plus_dig v (B - 48) (unhide HV) (by omega) _).mono ?_
                    rintro e w4 ⟨rfl, hb4⟩
                    have B4 := B3.below hb4
                    have hst := B4.there
                    dsimp only
                    refine hK.out _ _ trivial (fun hHeld => ?_)
                    clear hK K
                    try (repeat (first | simp only [Act.put] | simp only [List.setIfInBounds_toArray] | simp only [List.set_cons_succ] | simp only [List.set_cons_zero]))
                    refine wpAnyH_ready (rs := [10]) (by kernel_rfl) (by simp) ?_
                    refine AllReadyH.cons rfl (fun K hK => ?_) ?_
                    · go_simp
                      refine hK.out _ _ trivial (fun hHeld => ?_)
                      clear hK K
                      try (repeat (first | simp only [Act.put] | simp only [List.setIfInBounds_toArray] | simp only [List.set_cons_succ] | simp only [List.set_cons_zero]))
                      refine wpAnyH_done (by kernel_rfl) ?_ _
                      go_wp2
                      exact ⟨⟨k + 1, v * 10 + (B - 48), wn + 1, b, by omega, by go_num, by go_num, rfl, by omega, by omega, by omega, unhide HD10, unhide H1, B4.put _, below_put6 ((((unhide HS).bel.trans (undrew (hb1.mono (unhide HS).bel.size))).trans (hb2.mono (Nat.le_trans (unhide HS).bel.size hb1.size))).trans ((hb3.mono (Nat.le_trans (Nat.le_trans (unhide HS).bel.size hb1.size) hb2.size)).trans (hb4.mono (Nat.le_trans (Nat.le_trans (Nat.le_trans (unhide HS).bel.size hb1.size) hb2.size) hb3.size)))) (Nat.le_refl _) _⟩, by simp [RowKit.intOf]; omega⟩
                    exact AllReadyH.nil
                  exact AllReadyH.nil
                exact AllReadyH.nil
              exact AllReadyH.nil
            exact AllReadyH.nil
          refine AllReadyH.cons rfl (fun K hK => ?_) ?_
          · go_simp
            refine (of_ten _).mono ?_
            rintro e w1 ⟨rfl, hb1⟩
            have B1 := Box.below' hb1 (unhide HS).box.lt (unhide HS).box.at' (unhide HS).box.fz
            have k0 := B1.at' 0 (by omega)
            have k1 := B1.at' 1 (by omega)
            have k2 := B1.at' 2 (by omega)
            have k3 := B1.at' 3 (by omega)
            have k4 := B1.at' 4 (by omega)
            have k5 := B1.at' 5 (by omega)
            dsimp only
            refine hK.out _ _ trivial (fun hHeld => ?_)
            clear hK K
            try (repeat (first | simp only [Act.put] | simp only [List.setIfInBounds_toArray] | simp only [List.set_cons_succ] | simp only [List.set_cons_zero]))
            refine wpAnyH_ready (rs := [0]) (by kernel_rfl) (by simp) ?_
            refine AllReadyH.cons rfl (fun K hK => ?_) ?_
            · go_simp
              refine hK.out _ _ trivial (fun hHeld => ?_)
              clear hK K
              try (repeat (first | simp only [Act.put] | simp only [List.setIfInBounds_toArray] | simp only [List.set_cons_succ] | simp only [List.set_cons_zero]))
              refine wpAnyH_ready (rs := [2]) (by kernel_rfl) (by simp) ?_
              refine AllReadyH.cons rfl (fun K hK => ?_) ?_
              · go_simp
                refine (times_ten v (unhide HV) _).mono ?_
                rintro e w2 ⟨rfl, hb2⟩
                have B2 := B1.below hb2
                dsimp only
                refine hK.out _ _ trivial (fun hHeld => ?_)
                clear hK K
                try (repeat (first | simp only [Act.put] | simp only [List.setIfInBounds_toArray] | simp only [List.set_cons_succ] | simp only [List.set_cons_zero]))
                refine wpAnyH_ready (rs := [8]) (by kernel_rfl) (by simp) ?_
                refine AllReadyH.cons rfl (fun K hK => ?_) ?_
                · go_simp
                  rw [wr_dig B h1 h2]
                  refine (of_dig B h1 h2 _).mono ?_
                  rintro e w3 ⟨rfl, hb3⟩
                  have B3 := B2.below hb3
                  dsimp only
                  refine hK.out _ _ trivial (fun hHeld => ?_)
                  clear hK K
                  try (repeat (first | simp only [Act.put] | simp only [List.setIfInBounds_toArray] | simp only [List.set_cons_succ] | simp only [List.set_cons_zero]))
                  refine wpAnyH_ready (rs := [9]) (by kernel_rfl) (by simp) ?_
                  refine AllReadyH.cons rfl (fun K hK => ?_) ?_
                  · go_simp
                    refine (plus_dig v (B - 48) (unhide HV) (by omega) _).mono ?_
                    rintro e w4 ⟨rfl, hb4⟩
                    have B4 := B3.below hb4
                    have hst := B4.there
                    dsimp only
                    refine hK.out _ _ trivial (fun hHeld => ?_)
                    clear hK K
                    try (repeat (first | simp only [Act.put] | simp only [List.setIfInBounds_toArray] | simp only [List.set_cons_succ] | simp only [List.set_cons_zero]))
                    refine wpAnyH_ready (rs := [10]) (by kernel_rfl) (by simp) ?_
                    refine AllReadyH.cons rfl (fun K hK => ?_) ?_
                    · go_simp
                      refine hK.out _ _ trivial (fun hHeld => ?_)
                      clear hK K
                      try (repeat (first | simp only [Act.put] | simp only [List.setIfInBounds_toArray] | simp only [List.set_cons_succ] | simp only [List.set_cons_zero]))
                      refine wpAnyH_done (by kernel_rfl) ?_ _
                      go_wp2
                      exact ⟨⟨k + 1, v * 10 + (B - 48), wn + 1, b, by omega, by go_num, by go_num, rfl, by omega, by omega, by omega, unhide HD10, unhide H1, B4.put _, below_put6 ((((unhide HS).bel.trans (undrew (hb1.mono (unhide HS).bel.size))).trans (hb2.mono (Nat.le_trans (unhide HS).bel.size hb1.size))).trans ((hb3.mono (Nat.le_trans (Nat.le_trans (unhide HS).bel.size hb1.size) hb2.size)).trans (hb4.mono (Nat.le_trans (Nat.le_trans (Nat.le_trans (unhide HS).bel.size hb1.size) hb2.size) hb3.size)))) (Nat.le_refl _) _⟩, by simp [RowKit.intOf]; omega⟩
                    exact AllReadyH.nil
                  exact AllReadyH.nil
                exact AllReadyH.nil
              exact AllReadyH.nil
            exact AllReadyH.nil
          exact AllReadyH.nil
        · rw [if_neg hb0, if_neg hb0] at hd
          have H1 := hide hd
          clear hd hs hv10
          go_wp2
          refine wp_region_held_drew (S := fun _ => True) (by kernel_rfl) trivial (fun hHeld => ?_)
          refine wpAnyH_take (i := 3) (v := ?v6) rfl (by kernel_rfl) (by kernel_rfl) (by kernel_rfl) (fun _ _ _ h => h) (Or.inl ⟨by rfl, ?hy6⟩) (by assumption) ?rest6
          case hy6 =>
            intro w hSw
            go_simp
            try (with_reducible rfl)
          try (repeat (first | simp only [Act.put] | simp only [List.setIfInBounds_toArray] | simp only [List.set_cons_succ] | simp only [List.set_cons_zero]))
          refine wpAnyH_take (i := 4) (v := ?v7) rfl (by kernel_rfl) (by kernel_rfl) (by kernel_rfl) (fun _ _ _ h => h) (Or.inl ⟨by rfl, ?hy7⟩) (by assumption) ?rest7
          case hy7 =>
            intro w hSw
            go_simp
            try (with_reducible rfl)
          try (repeat (first | simp only [Act.put] | simp only [List.setIfInBounds_toArray] | simp only [List.set_cons_succ] | simp only [List.set_cons_zero]))
          refine wpAnyH_take (i := 5) (v := ?v8) rfl (by kernel_rfl) (by kernel_rfl) (by kernel_rfl) (fun _ _ _ h => h) (Or.inl ⟨by rfl, ?hy8⟩) (by assumption) ?rest8
          case hy8 =>
            intro w hSw
            go_simp
            try (with_reducible rfl)
          try (repeat (first | simp only [Act.put] | simp only [List.setIfInBounds_toArray] | simp only [List.set_cons_succ] | simp only [List.set_cons_zero]))
          refine wpAnyH_take (i := 6) (v := ?v9) rfl (by kernel_rfl) (by kernel_rfl) (by kernel_rfl) (fun _ _ _ h => h) (Or.inl ⟨by rfl, ?hy9⟩) (by assumption) ?rest9
          case hy9 =>
            intro w hSw
            go_simp
            try (with_reducible rfl)
          try (repeat (first | simp only [Act.put] | simp only [List.setIfInBounds_toArray] | simp only [List.set_cons_succ] | simp only [List.set_cons_zero]))
          refine wpAnyH_take (i := 7) (v := ?v10) rfl (by kernel_rfl) (by kernel_rfl) (by kernel_rfl) (fun _ _ _ h => h) (Or.inl ⟨by rfl, ?hy10⟩) (by assumption) ?rest10
          case hy10 =>
            intro w hSw
            go_simp
            try (with_reducible rfl)
          try (repeat (first | simp only [Act.put] | simp only [List.setIfInBounds_toArray] | simp only [List.set_cons_succ] | simp only [List.set_cons_zero]))
          refine wpAnyH_ready (rs := [0, 1]) (by kernel_rfl) (by simp) ?_
          refine AllReadyH.cons rfl (fun K hK => ?_) ?_
          · go_simp
            refine hK.out _ _ trivial (fun hHeld => ?_)
            clear hK K
            try (repeat (first | simp only [Act.put] | simp only [List.setIfInBounds_toArray] | simp only [List.set_cons_succ] | simp only [List.set_cons_zero]))
            refine wpAnyH_ready (rs := [1]) (by kernel_rfl) (by simp) ?_
            refine AllReadyH.cons rfl (fun K hK => ?_) ?_
            · go_simp
              refine (of_ten _).mono ?_
              rintro e w1 ⟨rfl, hb1⟩
              have B1 := Box.below' hb1 (unhide HS).box.lt (unhide HS).box.at' (unhide HS).box.fz
              have k0 := B1.at' 0 (by omega)
              have k1 := B1.at' 1 (by omega)
              have k2 := B1.at' 2 (by omega)
              have k3 := B1.at' 3 (by omega)
              have k4 := B1.at' 4 (by omega)
              have k5 := B1.at' 5 (by omega)
              dsimp only
              refine hK.out _ _ trivial (fun hHeld => ?_)
              clear hK K
              try (repeat (first | simp only [Act.put] | simp only [List.setIfInBounds_toArray] | simp only [List.set_cons_succ] | simp only [List.set_cons_zero]))
              refine wpAnyH_ready (rs := [2]) (by kernel_rfl) (by simp) ?_
              refine AllReadyH.cons rfl (fun K hK => ?_) ?_
              · go_simp
                refine (times_ten v (unhide HV) _).mono ?_
                rintro e w2 ⟨rfl, hb2⟩
                have B2 := B1.below hb2
                dsimp only
                refine hK.out _ _ trivial (fun hHeld => ?_)
                clear hK K
                try (repeat (first | simp only [Act.put] | simp only [List.setIfInBounds_toArray] | simp only [List.set_cons_succ] | simp only [List.set_cons_zero]))
                refine wpAnyH_ready (rs := [8]) (by kernel_rfl) (by simp) ?_
                refine AllReadyH.cons rfl (fun K hK => ?_) ?_
                · go_simp
                  rw [wr_dig B h1 h2]
                  refine (of_dig B h1 h2 _).mono ?_
                  rintro e w3 ⟨rfl, hb3⟩
                  have B3 := B2.below hb3
                  dsimp only
                  refine hK.out _ _ trivial (fun hHeld => ?_)
                  clear hK K
                  try (repeat (first | simp only [Act.put] | simp only [List.setIfInBounds_toArray] | simp only [List.set_cons_succ] | simp only [List.set_cons_zero]))
                  refine wpAnyH_ready (rs := [9]) (by kernel_rfl) (by simp) ?_
                  refine AllReadyH.cons rfl (fun K hK => ?_) ?_
                  · go_simp
                    refine (plus_dig v (B - 48) (unhide HV) (by omega) _).mono ?_
                    rintro e w4 ⟨rfl, hb4⟩
                    have B4 := B3.below hb4
                    have hst := B4.there
                    dsimp only
                    refine hK.out _ _ trivial (fun hHeld => ?_)
                    clear hK K
                    try (repeat (first | simp only [Act.put] | simp only [List.setIfInBounds_toArray] | simp only [List.set_cons_succ] | simp only [List.set_cons_zero]))
                    refine wpAnyH_ready (rs := [10]) (by kernel_rfl) (by simp) ?_
                    refine AllReadyH.cons rfl (fun K hK => ?_) ?_
                    · go_simp
                      refine hK.out _ _ trivial (fun hHeld => ?_)
                      clear hK K
                      try (repeat (first | simp only [Act.put] | simp only [List.setIfInBounds_toArray] | simp only [List.set_cons_succ] | simp only [List.set_cons_zero]))
                      refine wpAnyH_done (by kernel_rfl) ?_ _
                      go_wp2
                      exact ⟨⟨k + 1, v * 10 + (B - 48), wn, b + 1, by omega, by go_num, rfl, by go_num, by omega, by omega, by omega, unhide HD10, unhide H1, B4.put _, below_put6 ((((unhide HS).bel.trans (undrew (hb1.mono (unhide HS).bel.size))).trans (hb2.mono (Nat.le_trans (unhide HS).bel.size hb1.size))).trans ((hb3.mono (Nat.le_trans (Nat.le_trans (unhide HS).bel.size hb1.size) hb2.size)).trans (hb4.mono (Nat.le_trans (Nat.le_trans (Nat.le_trans (unhide HS).bel.size hb1.size) hb2.size) hb3.size)))) (Nat.le_refl _) _⟩, by simp [RowKit.intOf]; omega⟩
                    exact AllReadyH.nil
                  exact AllReadyH.nil
                exact AllReadyH.nil
              exact AllReadyH.nil
            exact AllReadyH.nil
          refine AllReadyH.cons rfl (fun K hK => ?_) ?_
          · go_simp
            refine (of_ten _).mono ?_
            rintro e w1 ⟨rfl, hb1⟩
            have B1 := Box.below' hb1 (unhide HS).box.lt (unhide HS).box.at' (unhide HS).box.fz
            have k0 := B1.at' 0 (by omega)
            have k1 := B1.at' 1 (by omega)
            have k2 := B1.at' 2 (by omega)
            have k3 := B1.at' 3 (by omega)
            have k4 := B1.at' 4 (by omega)
            have k5 := B1.at' 5 (by omega)
            dsimp only
            refine hK.out _ _ trivial (fun hHeld => ?_)
            clear hK K
            try (repeat (first | simp only [Act.put] | simp only [List.setIfInBounds_toArray] | simp only [List.set_cons_succ] | simp only [List.set_cons_zero]))
            refine wpAnyH_ready (rs := [0]) (by kernel_rfl) (by simp) ?_
            refine AllReadyH.cons rfl (fun K hK => ?_) ?_
            · go_simp
              refine hK.out _ _ trivial (fun hHeld => ?_)
              clear hK K
              try (repeat (first | simp only [Act.put] | simp only [List.setIfInBounds_toArray] | simp only [List.set_cons_succ] | simp only [List.set_cons_zero]))
              refine wpAnyH_ready (rs := [2]) (by kernel_rfl) (by simp) ?_
              refine AllReadyH.cons rfl (fun K hK => ?_) ?_
              · go_simp
                refine (times_ten v (unhide HV) _).mono ?_
                rintro e w2 ⟨rfl, hb2⟩
                have B2 := B1.below hb2
                dsimp only
                refine hK.out _ _ trivial (fun hHeld => ?_)
                clear hK K
                try (repeat (first | simp only [Act.put] | simp only [List.setIfInBounds_toArray] | simp only [List.set_cons_succ] | simp only [List.set_cons_zero]))
                refine wpAnyH_ready (rs := [8]) (by kernel_rfl) (by simp) ?_
                refine AllReadyH.cons rfl (fun K hK => ?_) ?_
                · go_simp
                  rw [wr_dig B h1 h2]
                  refine (of_dig B h1 h2 _).mono ?_
                  rintro e w3 ⟨rfl, hb3⟩
                  have B3 := B2.below hb3
                  dsimp only
                  refine hK.out _ _ trivial (fun hHeld => ?_)
                  clear hK K
                  try (repeat (first | simp only [Act.put] | simp only [List.setIfInBounds_toArray] | simp only [List.set_cons_succ] | simp only [List.set_cons_zero]))
                  refine wpAnyH_ready (rs := [9]) (by kernel_rfl) (by simp) ?_
                  refine AllReadyH.cons rfl (fun K hK => ?_) ?_
                  · go_simp
                    refine (plus_dig v (B - 48) (unhide HV) (by omega) _).mono ?_
                    rintro e w4 ⟨rfl, hb4⟩
                    have B4 := B3.below hb4
                    have hst := B4.there
                    dsimp only
                    refine hK.out _ _ trivial (fun hHeld => ?_)
                    clear hK K
                    try (repeat (first | simp only [Act.put] | simp only [List.setIfInBounds_toArray] | simp only [List.set_cons_succ] | simp only [List.set_cons_zero]))
                    refine wpAnyH_ready (rs := [10]) (by kernel_rfl) (by simp) ?_
                    refine AllReadyH.cons rfl (fun K hK => ?_) ?_
                    · go_simp
                      refine hK.out _ _ trivial (fun hHeld => ?_)
                      clear hK K
                      try (repeat (first | simp only [Act.put] | simp only [List.setIfInBounds_toArray] | simp only [List.set_cons_succ] | simp only [List.set_cons_zero]))
                      refine wpAnyH_done (by kernel_rfl) ?_ _
                      go_wp2
                      exact ⟨⟨k + 1, v * 10 + (B - 48), wn, b + 1, by omega, by go_num, rfl, by go_num, by omega, by omega, by omega, unhide HD10, unhide H1, B4.put _, below_put6 ((((unhide HS).bel.trans (undrew (hb1.mono (unhide HS).bel.size))).trans (hb2.mono (Nat.le_trans (unhide HS).bel.size hb1.size))).trans ((hb3.mono (Nat.le_trans (Nat.le_trans (unhide HS).bel.size hb1.size) hb2.size)).trans (hb4.mono (Nat.le_trans (Nat.le_trans (Nat.le_trans (unhide HS).bel.size hb1.size) hb2.size) hb3.size)))) (Nat.le_refl _) _⟩, by simp [RowKit.intOf]; omega⟩
                    exact AllReadyH.nil
                  exact AllReadyH.nil
                exact AllReadyH.nil
              exact AllReadyH.nil
            exact AllReadyH.nil
          exact AllReadyH.nil
      · by_cases hdot : B = 46 ∧ b < 0 ∧ 0 < D
        · rw [scan_dot (by rw [hB]; exact hdot.1) hdot.2.1 hdot.2.2] at hd
          have H1 := hide hd
          obtain ⟨h1, h2, h3⟩ := hdot
          subst h1
          have h3' : (0 : Int) < (D : Int) := by omega
          have HV' := hide (show v < 10 ^ (k + 1) from Nat.lt_of_lt_of_le hv10 (Nat.pow_le_pow_right (by decide) (by omega)))
          clear hd hs hdg hv10
          go_wp2
          exact ⟨⟨k + 1, v, wn, 0, by omega, by go_num, rfl, rfl, by omega, by omega, by omega, unhide HV', unhide H1, (unhide HS).box, (unhide HS).bel⟩, by simp [RowKit.intOf]; omega⟩
        · rw [scan_bad (by rw [hB]; exact hdg) (by rw [hB]; exact hdot)] at hd
          have H1 := hide hd
          clear hd hs hv10
          have hcs : B = 46 ∧ ¬ b < 0 ∨ B = 46 ∧ b < 0 ∧ D = 0 ∨ ¬ B = 46 ∧ B < 48 ∨ ¬ B = 46 ∧ 48 ≤ B ∧ 57 < B := by omega
          clear hdg hdot
          rcases hcs with ⟨h1, h2⟩ | ⟨h1, h2, h3⟩ | ⟨h1, h2⟩ | ⟨h1, h2, h3⟩
          · subst h1
            go_wp2
            go_ret2
            exact ⟨by have hpq := unhide PB (unhide H1).symm; obtain ⟨rfl, rfl⟩ := Prod.mk.inj hpq; rfl, (unhide HS).bel⟩
          · subst h1
            subst h3
            go_wp2
            go_ret2
            exact ⟨by have hpq := unhide PB (unhide H1).symm; obtain ⟨rfl, rfl⟩ := Prod.mk.inj hpq; rfl, (unhide HS).bel⟩
          · have h46 : ((B : Int) == 46) = false := by rw [beq_eq_false_iff_ne]; omega
            go_wp2
            go_ret2
            exact ⟨by have hpq := unhide PB (unhide H1).symm; obtain ⟨rfl, rfl⟩ := Prod.mk.inj hpq; rfl, (unhide HS).bel⟩
          · have h46 : ((B : Int) == 46) = false := by rw [beq_eq_false_iff_ne]; omega
            go_wp2
            go_ret2
            exact ⟨by have hpq := unhide PB (unhide H1).symm; obtain ⟨rfl, rfl⟩ := Prod.mk.inj hpq; rfl, (unhide HS).bel⟩
    · have hkl : k = L.length := by omega
      have hIk : ¬ (k : Int) < (L.length : Int) := by omega
      have hd := hs.rest
      rw [hkl, List.drop_length, scan_nil] at hd
      have HD := hide hd
      have hv10 := hs.v_lt
      clear hd
      by_cases hbad : wn = 0 ∨ b = 0 ∨ (D : Int) < b
      · have H1 := hide (unhide PN _ _ _ (unhide HD).symm hbad)
        clear hs hv10
        have hcs : wn = 0 ∨ ¬ wn = 0 ∧ b = 0 ∨ ¬ wn = 0 ∧ ¬ b = 0 ∧ (D : Int) < b := by omega
        clear hbad
        rcases hcs with h1 | ⟨h1, h2⟩ | ⟨h1, h2, h3⟩
        · subst h1
          go_wp2
          go_ret2
          exact ⟨by have hpq := unhide H1; obtain ⟨rfl, rfl⟩ := Prod.mk.inj hpq; rfl, (unhide HS).bel⟩
        · subst h2
          have h1' : ((wn : Int) == 0) = false := by rw [beq_eq_false_iff_ne]; omega
          go_wp2
          go_ret2
          exact ⟨by have hpq := unhide H1; obtain ⟨rfl, rfl⟩ := Prod.mk.inj hpq; rfl, (unhide HS).bel⟩
        · have h1' : ((wn : Int) == 0) = false := by rw [beq_eq_false_iff_ne]; omega
          have h2' : (b == 0) = false := by rw [beq_eq_false_iff_ne]; exact h2
          go_wp2
          go_ret2
          exact ⟨by have hpq := unhide H1; obtain ⟨rfl, rfl⟩ := Prod.mk.inj hpq; rfl, (unhide HS).bel⟩
      · have hsome := hide (unhide PS _ _ _ (unhide HD).symm hbad)
        have h1' : ((wn : Int) == 0) = false := by rw [beq_eq_false_iff_ne]; omega
        have h2' : (b == 0) = false := by rw [beq_eq_false_iff_ne]; omega
        have h3' : ¬ (D : Int) < b := by omega
        have HK := hide (show k ≤ 40 by omega)
        obtain ⟨m, hm'⟩ : ∃ m : Nat, max b 0 = (m : Int) := ⟨b.toNat, by omega⟩
        have hmD : m ≤ D := by omega
        have hbm := hide (show b.toNat = m by omega)
        rw [unhide hbm] at hsome
        have HM := hide hm'
        clear hs hbad
        obtain ⟨n, hn⟩ : ∃ n, v * 10 ^ (D - m) = n := ⟨_, rfl⟩
        rw [hn] at hsome
        have HN := hide hn
        have HB40 := hide (show v < 10 ^ 40 from Nat.lt_of_lt_of_le hv10 (pow_le40 (unhide HK)))
        have HN46 := hide (show n < 10 ^ 46 by
          rw [← unhide HN]
          refine Nat.lt_of_lt_of_le (Nat.mul_lt_mul_of_pos_right (unhide HB40) (Nat.pow_pos (by decide))) ?_
          refine Nat.le_trans (Nat.mul_le_mul_left _ (Nat.pow_le_pow_right (by decide) (show D - m ≤ 6 by omega))) (by decide))
        clear hv10 hn
        go_wp2
        go_loopw [12] (fun vi wr => ∃ (j : Nat), m ≤ j ∧ j ≤ D ∧ vi = .int .i64 j ∧ Box wr w.heap.size (v * 10 ^ (j - m)) ∧ Below w.heap.size w wr) (fun i _ => D - (RowKit.intOf i).toNat)
        case atStart => exact ⟨m, by omega, by omega, rfl, by rw [Nat.sub_self, Nat.pow_zero, Nat.mul_one]; exact (unhide HS).box, (unhide HS).bel⟩
        case round =>
          rename_i wq
          obtain ⟨j, hj1, hj2, rfl, hbox, hbel⟩ := hrel
          have HX := hide hbox
          have HY := hide hbel
          by_cases hlt2 : j < D
          · have hIj : (j : Int) < (D : Int) := by omega
            obtain ⟨x, hx⟩ : ∃ x, v * 10 ^ (j - m) = x := ⟨_, rfl⟩
            have HXX := hide hx
            rw [hx] at HX hbox
            have HV2 := hide (show x < 10 ^ 47 by
              rw [← unhide HXX]
              refine Nat.lt_of_lt_of_le (Nat.mul_lt_mul_of_pos_right (unhide HB40) (Nat.pow_pos (by decide))) ?_
              refine Nat.le_trans (Nat.mul_le_mul_left _ (Nat.pow_le_pow_right (by decide) (show j - m ≤ 6 by omega))) (by decide))
            have u0 := hbox.at' 0 (by omega)
            have u1 := hbox.at' 1 (by omega)
            have u2 := hbox.at' 2 (by omega)
            have u3 := hbox.at' 3 (by omega)
            have u4 := hbox.at' 4 (by omega)
            have u5 := hbox.at' 5 (by omega)
            have su := hbox.lt
            clear hbox hbel hx
            go_wp2
            refine wp_region_held_drew (S := fun _ => True) (by kernel_rfl) trivial (fun hHeld => ?_)
            refine wpAnyH_ready (rs := [0, 1]) (by kernel_rfl) (by simp) ?_
            refine AllReadyH.cons rfl (fun K hK => ?_) ?_
            · go_simp
              refine hK.out _ _ trivial (fun hHeld => ?_)
              clear hK K
              try (repeat (first | simp only [Act.put] | simp only [List.setIfInBounds_toArray] | simp only [List.set_cons_succ] | simp only [List.set_cons_zero]))
              refine wpAnyH_ready (rs := [1]) (by kernel_rfl) (by simp) ?_
              refine AllReadyH.cons rfl (fun K hK => ?_) ?_
              · go_simp
                refine (of_ten _).mono ?_
                rintro e w1 ⟨rfl, hb1⟩
                have B1 := Box.below' hb1 (unhide HX).lt (unhide HX).at' (unhide HX).fz
                have k0 := B1.at' 0 (by omega)
                have k1 := B1.at' 1 (by omega)
                have k2 := B1.at' 2 (by omega)
                have k3 := B1.at' 3 (by omega)
                have k4 := B1.at' 4 (by omega)
                have k5 := B1.at' 5 (by omega)
                dsimp only
                refine hK.out _ _ trivial (fun hHeld => ?_)
                clear hK K
                try (repeat (first | simp only [Act.put] | simp only [List.setIfInBounds_toArray] | simp only [List.set_cons_succ] | simp only [List.set_cons_zero]))
                refine wpAnyH_ready (rs := [2]) (by kernel_rfl) (by simp) ?_
                refine AllReadyH.cons rfl (fun K hK => ?_) ?_
                · go_simp
                  refine (times_ten' x (unhide HV2) _).mono ?_
                  rintro e w2 ⟨rfl, hb2⟩
                  have B2 := B1.below hb2
                  have hst := B2.there
                  dsimp only
                  refine hK.out _ _ trivial (fun hHeld => ?_)
                  clear hK K
                  try (repeat (first | simp only [Act.put] | simp only [List.setIfInBounds_toArray] | simp only [List.set_cons_succ] | simp only [List.set_cons_zero]))
                  refine wpAnyH_ready (rs := [3]) (by kernel_rfl) (by simp) ?_
                  refine AllReadyH.cons rfl (fun K hK => ?_) ?_
                  · go_simp
                    refine hK.out _ _ trivial (fun hHeld => ?_)
                    clear hK K
                    try (repeat (first | simp only [Act.put] | simp only [List.setIfInBounds_toArray] | simp only [List.set_cons_succ] | simp only [List.set_cons_zero]))
                    refine wpAnyH_done (by kernel_rfl) ?_ _
                    go_wp2
                    refine ⟨⟨j + 1, by omega, by omega, by go_num, ?_, below_put6 (((unhide HY).trans (undrew (hb1.mono (unhide HY).size))).trans (hb2.mono (Nat.le_trans (unhide HY).size hb1.size))) (Nat.le_refl _) _⟩, by simp [RowKit.intOf]; omega⟩
                    have e1 : v * 10 ^ (j + 1 - m) = x * 10 := by rw [← unhide HXX, show j + 1 - m = (j - m) + 1 by omega, Nat.pow_succ, Nat.mul_assoc]
                    rw [e1]
                    exact B2.put _
                  exact AllReadyH.nil
                exact AllReadyH.nil
              exact AllReadyH.nil
            refine AllReadyH.cons rfl (fun K hK => ?_) ?_
            · go_simp
              refine (of_ten _).mono ?_
              rintro e w1 ⟨rfl, hb1⟩
              have B1 := Box.below' hb1 (unhide HX).lt (unhide HX).at' (unhide HX).fz
              have k0 := B1.at' 0 (by omega)
              have k1 := B1.at' 1 (by omega)
              have k2 := B1.at' 2 (by omega)
              have k3 := B1.at' 3 (by omega)
              have k4 := B1.at' 4 (by omega)
              have k5 := B1.at' 5 (by omega)
              dsimp only
              refine hK.out _ _ trivial (fun hHeld => ?_)
              clear hK K
              try (repeat (first | simp only [Act.put] | simp only [List.setIfInBounds_toArray] | simp only [List.set_cons_succ] | simp only [List.set_cons_zero]))
              refine wpAnyH_ready (rs := [0]) (by kernel_rfl) (by simp) ?_
              refine AllReadyH.cons rfl (fun K hK => ?_) ?_
              · go_simp
                refine hK.out _ _ trivial (fun hHeld => ?_)
                clear hK K
                try (repeat (first | simp only [Act.put] | simp only [List.setIfInBounds_toArray] | simp only [List.set_cons_succ] | simp only [List.set_cons_zero]))
                refine wpAnyH_ready (rs := [2]) (by kernel_rfl) (by simp) ?_
                refine AllReadyH.cons rfl (fun K hK => ?_) ?_
                · go_simp
                  refine (times_ten' x (unhide HV2) _).mono ?_
                  rintro e w2 ⟨rfl, hb2⟩
                  have B2 := B1.below hb2
                  have hst := B2.there
                  dsimp only
                  refine hK.out _ _ trivial (fun hHeld => ?_)
                  clear hK K
                  try (repeat (first | simp only [Act.put] | simp only [List.setIfInBounds_toArray] | simp only [List.set_cons_succ] | simp only [List.set_cons_zero]))
                  refine wpAnyH_ready (rs := [3]) (by kernel_rfl) (by simp) ?_
                  refine AllReadyH.cons rfl (fun K hK => ?_) ?_
                  · go_simp
                    refine hK.out _ _ trivial (fun hHeld => ?_)
                    clear hK K
                    try (repeat (first | simp only [Act.put] | simp only [List.setIfInBounds_toArray] | simp only [List.set_cons_succ] | simp only [List.set_cons_zero]))
                    refine wpAnyH_done (by kernel_rfl) ?_ _
                    go_wp2
                    refine ⟨⟨j + 1, by omega, by omega, by go_num, ?_, below_put6 (((unhide HY).trans (undrew (hb1.mono (unhide HY).size))).trans (hb2.mono (Nat.le_trans (unhide HY).size hb1.size))) (Nat.le_refl _) _⟩, by simp [RowKit.intOf]; omega⟩
                    have e1 : v * 10 ^ (j + 1 - m) = x * 10 := by rw [← unhide HXX, show j + 1 - m = (j - m) + 1 by omega, Nat.pow_succ, Nat.mul_assoc]
                    rw [e1]
                    exact B2.put _
                  exact AllReadyH.nil
                exact AllReadyH.nil
              exact AllReadyH.nil
            exact AllReadyH.nil
          · have hIj : ¬ (j : Int) < (D : Int) := by omega
            have hjD : j = D := by omega
            subst hjD
            rw [unhide HN] at HX hbox
            have u0 := hbox.at' 0 (by omega)
            have u1 := hbox.at' 1 (by omega)
            have u2 := hbox.at' 2 (by omega)
            have u3 := hbox.at' 3 (by omega)
            have u4 := hbox.at' 4 (by omega)
            have u5 := hbox.at' 5 (by omega)
            have su := hbox.lt
            clear hbox hbel
            by_cases hfit : n < 9223372036854775808
            · have H1 := hide (unhide PF _ (unhide hsome) hfit)
              have AM := hide (fun W => amount_fits n hfit false W)
              clear hfit
              go_wp2_with fail
              refine (unhide AM _).mono ?_
              rintro e w5 ⟨rfl, hb5⟩
              go_wp2
              go_ret2
              exact ⟨by have hpq := unhide H1; obtain ⟨rfl, rfl⟩ := Prod.mk.inj hpq; rfl, (unhide HY).trans (hb5.mono (unhide HY).size)⟩
            · have H1 := hide (unhide PO _ (unhide hsome) (by omega))
              have AM := hide (fun W => amount_over n (Nat.lt_of_lt_of_le (unhide HN46) (by decide)) (by omega) false W)
              clear hfit
              go_wp2_with fail
              refine (unhide AM _).mono ?_
              rintro e w5 ⟨rfl, hb5⟩
              go_wp2
              go_ret2
              exact ⟨by have hpq := unhide H1; obtain ⟨rfl, rfl⟩ := Prod.mk.inj hpq; rfl, (unhide HY).trans (hb5.mono (unhide HY).size)⟩
end Go.Proofs.YtddpladmkmpoaabDoor
