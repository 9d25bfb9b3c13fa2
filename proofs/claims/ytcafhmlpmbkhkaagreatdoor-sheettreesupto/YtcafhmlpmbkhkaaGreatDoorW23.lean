import Derived.Test.YtcafhmlpmbkhkaaGreatDoorW22
namespace Go.Proofs.YtcafhmlpmbkhkaaGreatDoor.Mw
open Go.ChangeShapes Go.WideShapes Go.ChangeAt Go.RowKit
set_option linter.unusedVariables false
attribute [local go_sem] setCell_drewN alloc_drewN
attribute [local go_sem ↓] st46_is
attribute [local go_sem] run_st46 run_st46_new

/-- what holds at a round's head -/
structure SumAt (zs : Nat → Int) (w wr : World) (k : Nat) : Prop where
  fine : anyMin zs k = false
  up : Box wr w.heap.size (upN zs k)
  dn : Box wr (w.heap.size + 1) (dnN zs k)
  bel : Below w.heap.size w wr

theorem p128 : 340282366920938463463374607431768211456 + 9223372036854775808 < 4294967296 ^ 6 := by decide

set_option maxHeartbeats 4000000 in
theorem rsum_any (zs : Nat → Int) (b off len cap : Nat) (hl : len ≤ 9223372036854775807) (hz : ∀ k, k < len → -9223372036854775808 ≤ zs k ∧ zs k ≤ 9223372036854775807) (w : World) (hc : ∀ k, k < len → w.cell? ⟨b, off + k, none⟩ = some (.int .i64 (zs k))) (hb : b < w.heap.size) :
    Calls Tryz.prog 55 #[.slice (some ⟨b, off, none⟩) len cap] w fun e w' => e = .returned (.tuple #[.int .i64 (sumSpec zs len).1, .int .i64 (sumSpec zs len).2]) ∧ Below w.heap.size w w' := by
  have hroom := hide (room zs len hl hz)
  go_enter Tryz.func55, Tryz.ntmps55
  go_wp2
  go_loopw [6] (fun i wr => ∃ (k : Nat), k ≤ len ∧ i = .int .i64 k ∧ SumAt zs w wr k) (fun i _ => len - (intOf i).toNat)
  case atStart => exact ⟨0, by omega, rfl, rfl, (Box.zero _).alloc _, by have h := Box.zero (w.alloc (.cells #[.int .u64 0, .int .u64 0, .int .u64 0, .int .u64 0, .int .u64 0, .int .u64 0] 202)); rw [World.size_alloc] at h; exact h, bal (bal (Below.refl _ _) _) _⟩
  case round =>
    rename_i wr
    obtain ⟨k, hk, rfl, hs⟩ := hrel
    by_cases hlt : k < len
    · have hck : wr.cell? ⟨b, off + k, none⟩ = some (.int .i64 (zs k)) := by rw [hs.bel.cell hb]; exact hc k hlt
      have hzk := hz k hlt
      have hbr : b < wr.heap.size := Nat.lt_of_lt_of_le hb hs.bel.size
      have hrk := (unhide hroom) k hk
      have HS := hide hs
      clear hc hz hroom
      by_cases hm : zs k = -9223372036854775808
      · have hbad := hide (sumSpec_bad hlt hm)
        rw [hm] at hck
        clear hzk hm hs hrk
        go_wp2_with (go_at_call 143; refine (is_no _).mono ?_; rintro e w' ⟨rfl, hw⟩; subst hw)
        go_ret2
        exact ⟨by rw [unhide hbad]; rfl, (unhide HS).bel⟩
      · have hm' : -9223372036854775807 ≤ zs k := by omega
        have hfine := hide (anyMin_step hs.fine hm)
        by_cases h0 : 0 ≤ zs k
        · have bu := hs.up
          have fit : upN zs k + (zs k).natAbs < 4294967296 ^ 6 := by have := p128; omega
          have FIT := hide fit
          have u0 := bu.at' 0 (by omega)
          have u1 := bu.at' 1 (by omega)
          have u2 := bu.at' 2 (by omega)
          have u3 := bu.at' 3 (by omega)
          have u4 := bu.at' 4 (by omega)
          have u5 := bu.at' 5 (by omega)
          have su := bu.lt
          clear hs hrk fit hm bu
          go_wp2_with (go_at_call 143; refine (is_yes _ _ (by omega)).mono ?_; rintro e w' ⟨rfl, hw⟩; subst hw)
          go_region_with (first | (go_at_call 145; refine (of_any _ _ (by omega) (by omega)).mono ?_; rintro e w1 ⟨rfl, hb1⟩; have B1 := Box.below' hb1 (unhide HS).up.lt (unhide HS).up.at' (unhide HS).up.fz; have k0 := B1.at' 0 (by omega); have k1 := B1.at' 1 (by omega); have k2 := B1.at' 2 (by omega); have k3 := B1.at' 3 (by omega); have k4 := B1.at' 4 (by omega); have k5 := B1.at' 5 (by omega); have kb := keep1 hb1 hbr hck) | (go_at_call 144; refine (plus_open (upN zs k) (zs k).natAbs (unhide FIT) _).mono ?_; rintro e w2 ⟨rfl, hb2⟩; have B2 := B1.below hb2; have hst := B2.there; have hcc := hide (And.intro hb1 hb2)))
          all_goals
            go_wp2
            refine ⟨⟨k + 1, by omega, by go_num, unhide hfine, ?_, ?_, ?_⟩, by simp [intOf]; omega⟩
            · rw [upN_pos h0]; exact B2.put _
            · rw [dnN_pos h0]
              exact ((Box.below' hb1 (unhide HS).dn.lt (unhide HS).dn.at' (unhide HS).dn.fz).below hb2).other (by omega) _
            · exact below_put6 (((unhide HS).bel.trans (undrew (hb1.mono (unhide HS).bel.size))).trans (hb2.mono (Nat.le_trans (unhide HS).bel.size hb1.size))) (Nat.le_refl _) _
        · have bu := hs.dn
          have fit : dnN zs k + (zs k).natAbs < 4294967296 ^ 6 := by have := p128; omega
          have FIT := hide fit
          have u0 := bu.at' 0 (by omega)
          have u1 := bu.at' 1 (by omega)
          have u2 := bu.at' 2 (by omega)
          have u3 := bu.at' 3 (by omega)
          have u4 := bu.at' 4 (by omega)
          have u5 := bu.at' 5 (by omega)
          have su := bu.lt
          clear hs hrk fit hm bu
          go_wp2_with (go_at_call 143; refine (is_yes _ _ (by omega)).mono ?_; rintro e w' ⟨rfl, hw⟩; subst hw)
          go_region_with (first | (go_at_call 145; refine (of_any _ _ (by omega) (by omega)).mono ?_; rintro e w1 ⟨rfl, hb1⟩; have B1 := Box.below' hb1 (unhide HS).dn.lt (unhide HS).dn.at' (unhide HS).dn.fz; have k0 := B1.at' 0 (by omega); have k1 := B1.at' 1 (by omega); have k2 := B1.at' 2 (by omega); have k3 := B1.at' 3 (by omega); have k4 := B1.at' 4 (by omega); have k5 := B1.at' 5 (by omega); have kb := keep1 hb1 hbr hck) | (go_at_call 144; refine (plus_open (dnN zs k) (zs k).natAbs (unhide FIT) _).mono ?_; rintro e w2 ⟨rfl, hb2⟩; have B2 := B1.below hb2; have hst := B2.there; have hcc := hide (And.intro hb1 hb2)))
          all_goals
            go_wp2
            refine ⟨⟨k + 1, by omega, by go_num, unhide hfine, ?_, ?_, ?_⟩, by simp [intOf]; omega⟩
            · rw [upN_neg (by omega)]
              exact ((Box.below' hb1 (unhide HS).up.lt (unhide HS).up.at' (unhide HS).up.fz).below hb2).other (by omega) _
            · rw [dnN_neg (by omega)]; exact B2.put _
            · exact below_put6 (((unhide HS).bel.trans (undrew (hb1.mono (unhide HS).bel.size))).trans (hb2.mono (Nat.le_trans (unhide HS).bel.size hb1.size))) (by omega) _
    · have hkl : k = len := by omega
      subst hkl
      clear hc hz hk
      have hrk := (unhide hroom) k (Nat.le_refl _)
      have hud := up_dn zs k
      have hU : upN zs k < 4294967296 ^ 6 := by have := p128; omega
      have hD : dnN zs k < 4294967296 ^ 6 := by have := p128; omega
      have HU := hide hU
      have HD := hide hD
      clear hU hD hroom
      have HS := hide hs
      have bu := hs.up
      have bd := hs.dn
      have u0 := bu.at' 0 (by omega)
      have u1 := bu.at' 1 (by omega)
      have u2 := bu.at' 2 (by omega)
      have u3 := bu.at' 3 (by omega)
      have u4 := bu.at' 4 (by omega)
      have u5 := bu.at' 5 (by omega)
      have d0 := bd.at' 0 (by omega)
      have d1 := bd.at' 1 (by omega)
      have d2 := bd.at' 2 (by omega)
      have d3 := bd.at' 3 (by omega)
      have d4 := bd.at' 4 (by omega)
      have d5 := bd.at' 5 (by omega)
      have su := bu.lt
      have sd := bd.lt
      by_cases hcmp : upN zs k < dnN zs k
      · by_cases hfit : dnN zs k - upN zs k < 9223372036854775808
        · have hfin := hide (sumSpec_fits hs.fine (by omega) (by omega))
          have heq := hide (show sumZ zs k = -((dnN zs k - upN zs k : Nat) : Int) by omega)
          have hcm := hide hcmp
          have hft := hide hfit
          clear hs bu bd hrk hud hcmp hfit
          go_wp2_with (first | (go_at_call 146; refine (below_yes (upN zs k) (dnN zs k) (unhide HU) (unhide HD) (unhide hcm) _).mono ?_; rintro e w1 ⟨rfl, hb1⟩; have B1u := (unhide HS).up.below hb1; have B1d := (unhide HS).dn.below hb1; have a0 := B1u.at' 0 (by omega); have c0 := B1d.at' 0 (by omega); have a1 := B1u.at' 1 (by omega); have c1 := B1d.at' 1 (by omega); have a2 := B1u.at' 2 (by omega); have c2 := B1d.at' 2 (by omega); have a3 := B1u.at' 3 (by omega); have c3 := B1d.at' 3 (by omega); have a4 := B1u.at' 4 (by omega); have c4 := B1d.at' 4 (by omega); have a5 := B1u.at' 5 (by omega); have c5 := B1d.at' 5 (by omega); have s1u := B1u.lt; have s1d := B1d.lt) | (go_at_call 147; refine (minus_open (dnN zs k) (upN zs k) (unhide HD) (Nat.le_of_lt (unhide hcm)) _).mono ?_; rintro e w2 ⟨rfl, hb2⟩; have B2 := (Box.new w1 (upN zs k)).below hb2; have hst := B2.there; have B3 := hide (B2.put (dnN zs k - upN zs k)); have p0 := (unhide B3).at' 0 (by omega); have p1 := (unhide B3).at' 1 (by omega); have p2 := (unhide B3).at' 2 (by omega); have p3 := (unhide B3).at' 3 (by omega); have p4 := (unhide B3).at' 4 (by omega); have p5 := (unhide B3).at' 5 (by omega)) | (go_at_call 148; refine (amount_neg _ (unhide hft) _).mono ?_; rintro e w3 ⟨rfl, hb3⟩))
          go_ret2
          exact ⟨by rw [unhide hfin, unhide heq]; rfl, by have c1 := (unhide HS).bel.trans (hb1.mono (unhide HS).bel.size); have c2 := bal c1 (.cells #[.int .u64 (dg (upN zs k) 0), .int .u64 (dg (upN zs k) 1), .int .u64 (dg (upN zs k) 2), .int .u64 (dg (upN zs k) 3), .int .u64 (dg (upN zs k) 4), .int .u64 (dg (upN zs k) 5)] 202); have c3 := c2.trans (hb2.mono c2.size); have c4 := below_put6 c3 c1.size (dnN zs k - upN zs k); exact c4.trans (hb3.mono c4.size)⟩
        · have hfin := hide (sumSpec_over hs.fine (by omega))
          have hcm := hide hcmp
          have hft := hide (show 9223372036854775808 ≤ dnN zs k - upN zs k by omega)
          have hlt6 := hide (show dnN zs k - upN zs k < 4294967296 ^ 6 by have := unhide HD; omega)
          clear hs bu bd hrk hud hcmp hfit
          go_wp2_with (first | (go_at_call 146; refine (below_yes (upN zs k) (dnN zs k) (unhide HU) (unhide HD) (unhide hcm) _).mono ?_; rintro e w1 ⟨rfl, hb1⟩; have B1u := (unhide HS).up.below hb1; have B1d := (unhide HS).dn.below hb1; have a0 := B1u.at' 0 (by omega); have c0 := B1d.at' 0 (by omega); have a1 := B1u.at' 1 (by omega); have c1 := B1d.at' 1 (by omega); have a2 := B1u.at' 2 (by omega); have c2 := B1d.at' 2 (by omega); have a3 := B1u.at' 3 (by omega); have c3 := B1d.at' 3 (by omega); have a4 := B1u.at' 4 (by omega); have c4 := B1d.at' 4 (by omega); have a5 := B1u.at' 5 (by omega); have c5 := B1d.at' 5 (by omega); have s1u := B1u.lt; have s1d := B1d.lt) | (go_at_call 147; refine (minus_open (dnN zs k) (upN zs k) (unhide HD) (Nat.le_of_lt (unhide hcm)) _).mono ?_; rintro e w2 ⟨rfl, hb2⟩; have B2 := (Box.new w1 (upN zs k)).below hb2; have hst := B2.there; have B3 := hide (B2.put (dnN zs k - upN zs k)); have p0 := (unhide B3).at' 0 (by omega); have p1 := (unhide B3).at' 1 (by omega); have p2 := (unhide B3).at' 2 (by omega); have p3 := (unhide B3).at' 3 (by omega); have p4 := (unhide B3).at' 4 (by omega); have p5 := (unhide B3).at' 5 (by omega)) | (go_at_call 148; refine (amount_over _ (unhide hlt6) (unhide hft) true _).mono ?_; rintro e w3 ⟨rfl, hb3⟩))
          go_ret2
          exact ⟨by rw [unhide hfin]; rfl, by have c1 := (unhide HS).bel.trans (hb1.mono (unhide HS).bel.size); have c2 := bal c1 (.cells #[.int .u64 (dg (upN zs k) 0), .int .u64 (dg (upN zs k) 1), .int .u64 (dg (upN zs k) 2), .int .u64 (dg (upN zs k) 3), .int .u64 (dg (upN zs k) 4), .int .u64 (dg (upN zs k) 5)] 202); have c3 := c2.trans (hb2.mono c2.size); have c4 := below_put6 c3 c1.size (dnN zs k - upN zs k); exact c4.trans (hb3.mono c4.size)⟩
      · by_cases hfit : upN zs k - dnN zs k < 9223372036854775808
        · have hfin := hide (sumSpec_fits hs.fine (by omega) (by omega))
          have heq := hide (show sumZ zs k = ((upN zs k - dnN zs k : Nat) : Int) by omega)
          have hcm := hide hcmp
          have hft := hide hfit
          clear hs bu bd hrk hud hcmp hfit
          go_wp2_with (first | (go_at_call 146; refine (below_no (upN zs k) (dnN zs k) (unhide HU) (unhide HD) (unhide hcm) _).mono ?_; rintro e w1 ⟨rfl, hb1⟩; have B1u := (unhide HS).up.below hb1; have B1d := (unhide HS).dn.below hb1; have a0 := B1u.at' 0 (by omega); have c0 := B1d.at' 0 (by omega); have a1 := B1u.at' 1 (by omega); have c1 := B1d.at' 1 (by omega); have a2 := B1u.at' 2 (by omega); have c2 := B1d.at' 2 (by omega); have a3 := B1u.at' 3 (by omega); have c3 := B1d.at' 3 (by omega); have a4 := B1u.at' 4 (by omega); have c4 := B1d.at' 4 (by omega); have a5 := B1u.at' 5 (by omega); have c5 := B1d.at' 5 (by omega); have s1u := B1u.lt; have s1d := B1d.lt) | (go_at_call 147; refine (minus_open (upN zs k) (dnN zs k) (unhide HU) (Nat.le_of_not_lt (unhide hcm)) _).mono ?_; rintro e w2 ⟨rfl, hb2⟩; have B2 := (Box.new w1 (upN zs k)).below hb2; have hst := B2.there; have B3 := hide (B2.put (upN zs k - dnN zs k)); have p0 := (unhide B3).at' 0 (by omega); have p1 := (unhide B3).at' 1 (by omega); have p2 := (unhide B3).at' 2 (by omega); have p3 := (unhide B3).at' 3 (by omega); have p4 := (unhide B3).at' 4 (by omega); have p5 := (unhide B3).at' 5 (by omega)) | (go_at_call 148; refine ( amount_pos _ (unhide hft) _).mono ?_; rintro e w3 ⟨rfl, hb3⟩))
          go_ret2
          exact ⟨by rw [unhide hfin, unhide heq]; rfl, by have c1 := (unhide HS).bel.trans (hb1.mono (unhide HS).bel.size); have c2 := bal c1 (.cells #[.int .u64 (dg (upN zs k) 0), .int .u64 (dg (upN zs k) 1), .int .u64 (dg (upN zs k) 2), .int .u64 (dg (upN zs k) 3), .int .u64 (dg (upN zs k) 4), .int .u64 (dg (upN zs k) 5)] 202); have c3 := c2.trans (hb2.mono c2.size); have c4 := below_put6 c3 c1.size (upN zs k - dnN zs k); exact c4.trans (hb3.mono c4.size)⟩
        · have hfin := hide (sumSpec_over hs.fine (by omega))
          have hcm := hide hcmp
          have hft := hide (show 9223372036854775808 ≤ upN zs k - dnN zs k by omega)
          have hlt6 := hide (show upN zs k - dnN zs k < 4294967296 ^ 6 by have := unhide HU; omega)
          clear hs bu bd hrk hud hcmp hfit
          go_wp2_with (first | (go_at_call 146; refine (below_no (upN zs k) (dnN zs k) (unhide HU) (unhide HD) (unhide hcm) _).mono ?_; rintro e w1 ⟨rfl, hb1⟩; have B1u := (unhide HS).up.below hb1; have B1d := (unhide HS).dn.below hb1; have a0 := B1u.at' 0 (by omega); have c0 := B1d.at' 0 (by omega); have a1 := B1u.at' 1 (by omega); have c1 := B1d.at' 1 (by omega); have a2 := B1u.at' 2 (by omega); have c2 := B1d.at' 2 (by omega); have a3 := B1u.at' 3 (by omega); have c3 := B1d.at' 3 (by omega); have a4 := B1u.at' 4 (by omega); have c4 := B1d.at' 4 (by omega); have a5 := B1u.at' 5 (by omega); have c5 := B1d.at' 5 (by omega); have s1u := B1u.lt; have s1d := B1d.lt) | (go_at_call 147; refine (minus_open (upN zs k) (dnN zs k) (unhide HU) (Nat.le_of_not_lt (unhide hcm)) _).mono ?_; rintro e w2 ⟨rfl, hb2⟩; have B2 := (Box.new w1 (upN zs k)).below hb2; have hst := B2.there; have B3 := hide (B2.put (upN zs k - dnN zs k)); have p0 := (unhide B3).at' 0 (by omega); have p1 := (unhide B3).at' 1 (by omega); have p2 := (unhide B3).at' 2 (by omega); have p3 := (unhide B3).at' 3 (by omega); have p4 := (unhide B3).at' 4 (by omega); have p5 := (unhide B3).at' 5 (by omega)) | (go_at_call 148; refine ( amount_over _ (unhide hlt6) (unhide hft) false _).mono ?_; rintro e w3 ⟨rfl, hb3⟩))
          go_ret2
          exact ⟨by rw [unhide hfin]; rfl, by have c1 := (unhide HS).bel.trans (hb1.mono (unhide HS).bel.size); have c2 := bal c1 (.cells #[.int .u64 (dg (upN zs k) 0), .int .u64 (dg (upN zs k) 1), .int .u64 (dg (upN zs k) 2), .int .u64 (dg (upN zs k) 3), .int .u64 (dg (upN zs k) 4), .int .u64 (dg (upN zs k) 5)] 202); have c3 := c2.trans (hb2.mono c2.size); have c4 := below_put6 c3 c1.size (upN zs k - dnN zs k); exact c4.trans (hb3.mono c4.size)⟩
end Go.Proofs.YtcafhmlpmbkhkaaGreatDoor.Mw
namespace Go.Proofs.YtcafhmlpmbkhkaaGreatDoor.Mw
open Go.ChangeShapes Go.WideShapes Go.ChangeAt Go.RowKit
set_option linter.unusedVariables false
attribute [local go_sem] setCell_drewN alloc_drewN
attribute [local go_sem ↓] st46_is
attribute [local go_sem] run_st46 run_st46_new

set_option maxHeartbeats 4000000 in
theorem rsum_zero (zs : Nat → Int) (a0 : Option Addr) (cap : Nat) (w : World) :
    Calls Tryz.prog 55 #[.slice a0 0 cap] w fun e w' => e = .returned (.tuple #[.int .i64 (sumSpec zs 0).1, .int .i64 (sumSpec zs 0).2]) ∧ Below w.heap.size w w' := by
  have hroom := hide (room zs 0 (by omega) (fun k hk => by omega))
  go_enter Tryz.func55, Tryz.ntmps55
  go_wp2
  go_loopw [6] (fun i wr => ∃ (k : Nat), k ≤ 0 ∧ i = .int .i64 k ∧ SumAt zs w wr k) (fun i _ => 0 - (intOf i).toNat)
  case atStart => exact ⟨0, by omega, rfl, rfl, (Box.zero _).alloc _, by have h := Box.zero (w.alloc (.cells #[.int .u64 0, .int .u64 0, .int .u64 0, .int .u64 0, .int .u64 0, .int .u64 0] 202)); rw [World.size_alloc] at h; exact h, bal (bal (Below.refl _ _) _) _⟩
  case round =>
    rename_i wr
    obtain ⟨k, hk, rfl, hs⟩ := hrel
    by_cases hlt : k < 0
    · omega
    · have hkl : k = 0 := by omega
      rw [hkl] at hs
      clear hkl hk
      have hrk := (unhide hroom) 0 (Nat.le_refl _)
      have hud := up_dn zs 0
      have hU : upN zs 0 < 4294967296 ^ 6 := by have := p128; omega
      have hD : dnN zs 0 < 4294967296 ^ 6 := by have := p128; omega
      have HU := hide hU
      have HD := hide hD
      clear hU hD hroom
      have HS := hide hs
      have bu := hs.up
      have bd := hs.dn
      have u0 := bu.at' 0 (by omega)
      have u1 := bu.at' 1 (by omega)
      have u2 := bu.at' 2 (by omega)
      have u3 := bu.at' 3 (by omega)
      have u4 := bu.at' 4 (by omega)
      have u5 := bu.at' 5 (by omega)
      have d0 := bd.at' 0 (by omega)
      have d1 := bd.at' 1 (by omega)
      have d2 := bd.at' 2 (by omega)
      have d3 := bd.at' 3 (by omega)
      have d4 := bd.at' 4 (by omega)
      have d5 := bd.at' 5 (by omega)
      have su := bu.lt
      have sd := bd.lt
      have z1 : upN zs 0 = 0 := rfl
      have z2 : dnN zs 0 = 0 := rfl
      by_cases hcmp : upN zs 0 < dnN zs 0
      · omega
      · by_cases hfit : upN zs 0 - dnN zs 0 < 9223372036854775808
        · have hfin := hide (sumSpec_fits hs.fine (by omega) (by omega))
          have heq := hide (show sumZ zs 0 = ((upN zs 0 - dnN zs 0 : Nat) : Int) by omega)
          have hcm := hide hcmp
          have hft := hide hfit
          clear hs bu bd hrk hud hcmp hfit z1 z2
          go_wp2_with (first | (go_at_call 146; refine (below_no (upN zs 0) (dnN zs 0) (unhide HU) (unhide HD) (unhide hcm) _).mono ?_; rintro e w1 ⟨rfl, hb1⟩; have B1u := (unhide HS).up.below hb1; have B1d := (unhide HS).dn.below hb1; have a0 := B1u.at' 0 (by omega); have c0 := B1d.at' 0 (by omega); have a1 := B1u.at' 1 (by omega); have c1 := B1d.at' 1 (by omega); have a2 := B1u.at' 2 (by omega); have c2 := B1d.at' 2 (by omega); have a3 := B1u.at' 3 (by omega); have c3 := B1d.at' 3 (by omega); have a4 := B1u.at' 4 (by omega); have c4 := B1d.at' 4 (by omega); have a5 := B1u.at' 5 (by omega); have c5 := B1d.at' 5 (by omega); have s1u := B1u.lt; have s1d := B1d.lt) | (go_at_call 147; refine (minus_open (upN zs 0) (dnN zs 0) (unhide HU) (Nat.le_of_not_lt (unhide hcm)) _).mono ?_; rintro e w2 ⟨rfl, hb2⟩; have B2 := (Box.new w1 (upN zs 0)).below hb2; have hst := B2.there; have B3 := hide (B2.put (upN zs 0 - dnN zs 0)); have p0 := (unhide B3).at' 0 (by omega); have p1 := (unhide B3).at' 1 (by omega); have p2 := (unhide B3).at' 2 (by omega); have p3 := (unhide B3).at' 3 (by omega); have p4 := (unhide B3).at' 4 (by omega); have p5 := (unhide B3).at' 5 (by omega)) | (go_at_call 148; refine ( amount_pos _ (unhide hft) _).mono ?_; rintro e w3 ⟨rfl, hb3⟩))
          go_ret2
          exact ⟨by rw [unhide hfin, unhide heq]; rfl, by have c1 := (unhide HS).bel.trans (hb1.mono (unhide HS).bel.size); have c2 := bal c1 (.cells #[.int .u64 (dg (upN zs 0) 0), .int .u64 (dg (upN zs 0) 1), .int .u64 (dg (upN zs 0) 2), .int .u64 (dg (upN zs 0) 3), .int .u64 (dg (upN zs 0) 4), .int .u64 (dg (upN zs 0) 5)] 202); have c3 := c2.trans (hb2.mono c2.size); have c4 := below_put6 c3 c1.size (upN zs 0 - dnN zs 0); exact c4.trans (hb3.mono c4.size)⟩
        · omega
end Go.Proofs.YtcafhmlpmbkhkaaGreatDoor.Mw
