import Derived.Test.YtcafhmlpmbkhkaaGreatDoorSumR
namespace Go.Proofs.YtcafhmlpmbkhkaaGreatDoor.Mw
open Go.ChangeShapes Go.WideShapes Go.ChangeAt Go.RowKit
set_option linter.unusedVariables false
attribute [local go_sem] setCell_drewN alloc_drewN
attribute [local go_sem ↓] st46_is
attribute [local go_sem] run_st46 run_st46_new

set_option maxHeartbeats 4000000 in
theorem rsum_zero (zs : Nat → Int) (a0 : Option Addr) (cap : Nat) (w : World) :
    Calls Tryz.prog 55 #[.slice a0 0 cap] w fun e w' => e = .returned (.tuple #[.int .i64 (sumSpec zs 0).1, .int .i64 (sumSpec zs 0).2]) ∧ Below w.heap.size w w' := by
  have hroom := hide (room zs 0 (by omega) (fun k hk => by omega))
  go_enter Tryz.func55, Tryz.ntmps55
  go_wp2
  go_loopw [6] (fun i wr => ∃ (k : Nat), k ≤ 0 ∧ i = .int .i64 k ∧ SumAt zs w wr k) (fun i _ => 0 - (intOf i).toNat)
  case atStart => exact ⟨0, by omega, rfl, rfl, (Box.zero _).alloc _, by have h := Box.zero (w.alloc (.cells #[.int .u64 0, .int .u64 0, .int .u64 0, .int .u64 0, .int .u64 0, .int .u64 0] 202)); rw [World.size_alloc] at h; exact h, bal (bal (Below.refl _ _) _) _⟩
  case round =>
    rename_i wr
    obtain ⟨k, hk, rfl, hs⟩ := hrel
    by_cases hlt : k < 0
    · omega
    · have hkl : k = 0 := by omega
      rw [hkl] at hs
      clear hkl hk
      have hrk := (unhide hroom) 0 (Nat.le_refl _)
      have hud := up_dn zs 0
      have hU : upN zs 0 < 4294967296 ^ 6 := by have := p128; omega
      have hD : dnN zs 0 < 4294967296 ^ 6 := by have := p128; omega
      have HU := hide hU
      have HD := hide hD
      clear hU hD hroom
      have HS := hide hs
      have bu := hs.up
      have bd := hs.dn
      have u0 := bu.at' 0 (by omega)
      have u1 := bu.at' 1 (by omega)
      have u2 := bu.at' 2 (by omega)
      have u3 := bu.at' 3 (by omega)
      have u4 := bu.at' 4 (by omega)
      have u5 := bu.at' 5 (by omega)
      have d0 := bd.at' 0 (by omega)
      have d1 := bd.at' 1 (by omega)
      have d2 := bd.at' 2 (by omega)
      have d3 := bd.at' 3 (by omega)
      have d4 := bd.at' 4 (by omega)
      have d5 := bd.at' 5 (by omega)
      have su := bu.lt
      have sd := bd.lt
      have z1 : upN zs 0 = 0 := rfl
      have z2 : dnN zs 0 = 0 := rfl
      by_cases hcmp : upN zs 0 < dnN zs 0
      · omega
      · by_cases hfit : upN zs 0 - dnN zs 0 < 9223372036854775808
        · have hfin := hide (sumSpec_fits hs.fine (by omega) (by omega))
          have heq := hide (show sumZ zs 0 = ((upN zs 0 - dnN zs 0 : Nat) : Int) by omega)
          have hcm := hide hcmp
          have hft := hide hfit
          clear hs bu bd hrk hud hcmp hfit z1 z2
          go_wp2_with (first | (go_at_call 146; refine (below_no (upN zs 0) (dnN zs 0) (unhide HU) (unhide HD) (unhide hcm) _).mono ?_; rintro e w1 ⟨rfl, hb1⟩; have B1u := (unhide HS).up.below hb1; have B1d := (unhide HS).dn.below hb1; have a0 := B1u.at' 0 (by omega); have c0 := B1d.at' 0 (by omega); have a1 := B1u.at' 1 (by omega); have c1 := B1d.at' 1 (by omega); have a2 := B1u.at' 2 (by omega); have c2 := B1d.at' 2 (by omega); have a3 := B1u.at' 3 (by omega); have c3 := B1d.at' 3 (by omega); have a4 := B1u.at' 4 (by omega); have c4 := B1d.at' 4 (by omega); have a5 := B1u.at' 5 (by omega); have c5 := B1d.at' 5 (by omega); have s1u := B1u.lt; have s1d := B1d.lt) | (go_at_call 147; refine (minus_open (upN zs 0) (dnN zs 0) (unhide HU) (Nat.le_of_not_lt (unhide hcm)) _).mono ?_; rintro e w2 ⟨rfl, hb2⟩; have B2 := (Box.new w1 (upN zs 0)).below hb2; have hst := B2.there; have B3 := hide (B2.put (upN zs 0 - dnN zs 0)); have p0 := (unhide B3).at' 0 (by omega); have p1 := (unhide B3).at' 1 (by omega); have p2 := (unhide B3).at' 2 (by omega); have p3 := (unhide B3).at' 3 (by omega); have p4 := (unhide B3).at' 4 (by omega); have p5 := (unhide B3).at' 5 (by omega)) | (go_at_call 148; refine ( amount_pos _ (unhide hft) _).mono ?_; rintro e w3 ⟨rfl, hb3⟩))
          go_ret2
          exact ⟨by rw [unhide hfin, unhide heq]; rfl, by have c1 := (unhide HS).bel.trans (hb1.mono (unhide HS).bel.size); have c2 := bal c1 (.cells #[.int .u64 (dg (upN zs 0) 0), .int .u64 (dg (upN zs 0) 1), .int .u64 (dg (upN zs 0) 2), .int .u64 (dg (upN zs 0) 3), .int .u64 (dg (upN zs 0) 4), .int .u64 (dg (upN zs 0) 5)] 202); have c3 := c2.trans (hb2.mono c2.size); have c4 := below_put6 c3 c1.size (upN zs 0 - dnN zs 0); exact c4.trans (hb3.mono c4.size)⟩
        · omega
end Go.Proofs.YtcafhmlpmbkhkaaGreatDoor.Mw
