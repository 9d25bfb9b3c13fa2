import Derived.Test.YtddpladmkmpoaaaSix
import Derived.BigRegion
namespace Go.Proofs.Ytddpladmkmpoaaa
open Go.ChangeShapes Go.WideShapes Go.ChangeAt Go.RowKit
set_option linter.unusedVariables false
attribute [local go_sem] setCell_drewN alloc_drewN
attribute [local go_sem ↓] st46_is st40_is
attribute [local go_sem] run_st46 run_st46_new run_st40

set_option maxHeartbeats 4000000 in
theorem over_walk (M D : Nat) (hM : M < 4294967296 ^ 6) (hD : 0 < D) (hD2 : D < 18446744073709551616) (w : World) :
    Calls Try.prog 42 #[.agg #[.int .u64 (dg M 0), .int .u64 (dg M 1), .int .u64 (dg M 2), .int .u64 (dg M 3), .int .u64 (dg M 4), .int .u64 (dg M 5)], .agg #[.int .u64 (dg D 0), .int .u64 (dg D 1), .int .u64 (dg D 2), .int .u64 (dg D 3), .int .u64 (dg D 4), .int .u64 (dg D 5)]] w fun e w' => e = .returned (.tuple #[wv (M / D), wv (M % D)]) ∧ Below w.heap.size w w' := by
  have hst := hide (ov_start M D hM)
  have HD := hide (show D < 4294967296 ^ 6 by rw [p6n]; omega)
  clear hM
  go_enter Try.func42, Try.ntmps42
  go_wp2
  go_loopw [8] (fun i wr => ∃ (k : Nat) (z : Int), k ≤ 192 ∧ i = .int .i64 z ∧ z = (k : Int) - 1 ∧ Six M D (ovQ M D k) (ovR M D k) 0 0 w wr) (fun i _ => (intOf i + 1).toNat)
  case atStart => exact ⟨192, 191, by omega, rfl, by omega, by rw [(unhide hst).1, (unhide hst).2]; exact Six.start M D w⟩
  case round =>
    rename_i wr
    obtain ⟨k, z, hk, rfl, hz, hs⟩ := hrel
    have HS := hide hs
    by_cases hk0 : k = 0
    · subst hk0
      have hz' : z = -1 := by omega
      subst hz'
      rw [(ov_end M D).1, (ov_end M D).2] at hs
      clear HS hz hk
      have HS := hide hs
      have q0 := hs.q.at' 0 (by omega)
      have q1 := hs.q.at' 1 (by omega)
      have q2 := hs.q.at' 2 (by omega)
      have q3 := hs.q.at' 3 (by omega)
      have q4 := hs.q.at' 4 (by omega)
      have q5 := hs.q.at' 5 (by omega)
      have r0 := hs.r.at' 0 (by omega)
      have r1 := hs.r.at' 1 (by omega)
      have r2 := hs.r.at' 2 (by omega)
      have r3 := hs.r.at' 3 (by omega)
      have r4 := hs.r.at' 4 (by omega)
      have r5 := hs.r.at' 5 (by omega)
      have tA := hs.a.there
      have tAd : wr.drew.there (w.heap.size + 1 + 1) 0 6 := tA
      have SA := hs.drew.putA (M / D)
      have tB := SA.b.there
      have ra0 := SA.r.at' 0 (by omega)
      have ra1 := SA.r.at' 1 (by omega)
      have ra2 := SA.r.at' 2 (by omega)
      have ra3 := SA.r.at' 3 (by omega)
      have ra4 := SA.r.at' 4 (by omega)
      have ra5 := SA.r.at' 5 (by omega)
      have SAB := hide (SA.putB (M % D))
      clear hs SA
      go_wp2
      go_region
      go_wp2
      generalize put6 (put6 wr.drew (w.heap.size + 1 + 1) (M / D)) (w.heap.size + 1 + 1 + 1) (M % D) = WE at *
      have fa0 := (unhide SAB).a.at' 0 (by omega)
      have fa1 := (unhide SAB).a.at' 1 (by omega)
      have fa2 := (unhide SAB).a.at' 2 (by omega)
      have fa3 := (unhide SAB).a.at' 3 (by omega)
      have fa4 := (unhide SAB).a.at' 4 (by omega)
      have fa5 := (unhide SAB).a.at' 5 (by omega)
      have fb0 := (unhide SAB).b.at' 0 (by omega)
      have fb1 := (unhide SAB).b.at' 1 (by omega)
      have fb2 := (unhide SAB).b.at' 2 (by omega)
      have fb3 := (unhide SAB).b.at' 3 (by omega)
      have fb4 := (unhide SAB).b.at' 4 (by omega)
      have fb5 := (unhide SAB).b.at' 5 (by omega)
      exact bodyPost_ret (v := .tuple #[.agg #[.int .u64 (dg (M / D) 0), .int .u64 (dg (M / D) 1), .int .u64 (dg (M / D) 2), .int .u64 (dg (M / D) 3), .int .u64 (dg (M / D) 4), .int .u64 (dg (M / D) 5)], .agg #[.int .u64 (dg (M % D) 0), .int .u64 (dg (M % D) 1), .int .u64 (dg (M % D) 2), .int .u64 (dg (M % D) 3), .int .u64 (dg (M % D) 4), .int .u64 (dg (M % D) 5)]]) (by simp [results, Try.results42, go_sem, fa0, fa1, fa2, fa3, fa4, fa5, fb0, fb1, fb2, fb3, fb4, fb5]) rfl ⟨rfl, (unhide SAB).bel⟩
    · obtain ⟨i, rfl⟩ : ∃ i, k = i + 1 := ⟨k - 1, by omega⟩
      obtain ⟨j, t, hjt, ht⟩ : ∃ j t, i = 32 * j + t ∧ t < 32 := ⟨i / 32, i % 32, by omega, by omega⟩
      have hj : j < 6 := by omega
      have hz0 : 0 ≤ z := by omega
      have hz1 : z ≤ 191 := by omega
      have ez : z / 32 = (j : Int) := by omega
      have et : z % 32 = (t : Int) := by omega
      have bj0 : (0 : Int) ≤ (j : Int) := by omega
      have bj1 : (j : Int) < 6 := by omega
      have Hz := hide hz
      have Hjt := hide hjt
      have Hk := hide hk
      clear hz hjt hk hk0
      have hRlt := ovR_lt M D (i + 1) hD
      have fit := hide (show ovR M D (i + 1) + ovR M D (i + 1) < 4294967296 ^ 6 by rw [p6n]; omega)
      obtain ⟨R, hR⟩ : ∃ R, ovR M D (i + 1) = R := ⟨_, rfl⟩
      obtain ⟨Q, hQ⟩ : ∃ Q, ovQ M D (i + 1) = Q := ⟨_, rfl⟩
      rw [hR] at fit hRlt hs
      rw [hQ] at hs
      have HQ := hide hQ
      have HR := hide hR
      clear hQ hR HS
      have HS := hide hs
      have r0 := hs.r.at' 0 (by omega)
      have r1 := hs.r.at' 1 (by omega)
      have r2 := hs.r.at' 2 (by omega)
      have r3 := hs.r.at' 3 (by omega)
      have r4 := hs.r.at' 4 (by omega)
      have r5 := hs.r.at' 5 (by omega)
      clear hs
      go_wp2_with (go_at_call 29; refine (plus_any R R (unhide fit) _).mono ?_; rintro e w1 ⟨rfl, hb1⟩; have S1 := hide ((unhide HS).below hb1); have hth := (unhide S1).r.there; unfold wv)
      have S6 := hide ((unhide S1).putR (R + R))
      clear hth S1 hb1 HS r0 r1 r2 r3 r4 r5
      generalize put6 w1 (w.heap.size + 1 + 1 + 1 + 1 + 1) (R + R) = W6 at *
      have f0 := (unhide S6).r.at' 0 (by omega)
      have fx := (unhide S6).x.at' j hj
      have hm := (unhide S6).r.may (j := 0) (by omega)
      have hmd : may1 W6.drew (w.heap.size + 1 + 1 + 1 + 1 + 1) 0 := hm
      have bd0 := digs_dg (R + R) 0
      have bdx := digs_dg M j
      obtain ⟨P, hP⟩ : ∃ P : Int, ((2 ^ t : Nat) : Int) = P := ⟨_, rfl⟩
      have bP := pow_bd t ht
      rw [hP] at bP
      have eP : IntKind.u64.wrap (2 ^ t) = P := by rw [← hP]; exact wrap_pow t ht
      have HP := hide hP
      clear hP
      go_region
      obtain ⟨c, hc⟩ : ∃ c, M / 2 ^ i % 2 = c := ⟨_, rfl⟩
      have hc1 : c ≤ 1 := by omega
      have ev : IntKind.u64.wrap (dg (R + R) 0 + (dg M j / P).tmod 2) = dg (R + R) 0 + c := bit_val M j t i c _ P ht (unhide Hjt) hc (unhide HP) bd0
      rw [ev]
      have S7 := hide ((unhide S6).drew.bitR c hc1 _ rfl)
      have HC := hide hc
      clear ev hc S6 f0 fx hm hmd bd0 bdx
      generalize put1 W6.drew (w.heap.size + 1 + 1 + 1 + 1 + 1) 0 (dg (R + R) 0 + c) = W7 at *
      have e0 := (unhide S7).r.at' 0 (by omega)
      have e1 := (unhide S7).r.at' 1 (by omega)
      have e2 := (unhide S7).r.at' 2 (by omega)
      have e3 := (unhide S7).r.at' 3 (by omega)
      have e4 := (unhide S7).r.at' 4 (by omega)
      have e5 := (unhide S7).r.at' 5 (by omega)
      have y0 := (unhide S7).y.at' 0 (by omega)
      have y1 := (unhide S7).y.at' 1 (by omega)
      have y2 := (unhide S7).y.at' 2 (by omega)
      have y3 := (unhide S7).y.at' 3 (by omega)
      have y4 := (unhide S7).y.at' 4 (by omega)
      have y5 := (unhide S7).y.at' 5 (by omega)
      have hmore := hide (ov_more M D i hD)
      have hless := hide (ov_less M D i hD)
      rw [unhide HR, unhide HC] at hmore hless
      rw [unhide HQ] at hmore hless
      have fit2 := hide (show 2 * R + c < 4294967296 ^ 6 by rw [p6n]; omega)
      by_cases hcmp : 2 * R + c < D
      · have HCMP := hide hcmp
        clear hcmp
        go_wp2_with (go_at_call 31; refine (below_yes (2 * R + c) D (unhide fit2) (unhide HD) (unhide HCMP) _).mono ?_; rintro e w2 ⟨rfl, hb2⟩; have HB2 := hide hb2; clear hb2)
        refine ⟨⟨i, z - 1, by have := unhide Hk; omega, rfl, by have := unhide Hz; omega, ?_⟩, by simp [intOf]; omega⟩
        have hl := (unhide hless) (unhide HCMP)
        rw [hl.1, hl.2]
        exact (unhide S7).below (unhide HB2)
      · have HCMP := hide hcmp
        have hle : D ≤ 2 * R + c := by omega
        have HLE := hide hle
        clear hcmp hle
        go_wp2_with (first | (go_at_call 31; refine (below_no (2 * R + c) D (unhide fit2) (unhide HD) (unhide HCMP) _).mono ?_; rintro e w2 ⟨rfl, hb2⟩; have S8 := hide ((unhide S7).below hb2); clear hb2; have g0 := (unhide S8).r.at' 0 (by omega); have k0 := (unhide S8).y.at' 0 (by omega); have g1 := (unhide S8).r.at' 1 (by omega); have k1 := (unhide S8).y.at' 1 (by omega); have g2 := (unhide S8).r.at' 2 (by omega); have k2 := (unhide S8).y.at' 2 (by omega); have g3 := (unhide S8).r.at' 3 (by omega); have k3 := (unhide S8).y.at' 3 (by omega); have g4 := (unhide S8).r.at' 4 (by omega); have k4 := (unhide S8).y.at' 4 (by omega); have g5 := (unhide S8).r.at' 5 (by omega); have k5 := (unhide S8).y.at' 5 (by omega)) | (go_at_call 32; refine (minus_open (2 * R + c) D (unhide fit2) (unhide HLE) _).mono ?_; rintro e w3 ⟨rfl, hb3⟩; have S9 := hide ((unhide S8).below hb3); clear hb3; have hth9 := (unhide S9).r.there))
        have S10 := hide ((unhide S9).putR (2 * R + c - D))
        clear hth9 S9 S8 S7
        generalize put6 w3 (w.heap.size + 1 + 1 + 1 + 1 + 1) (2 * R + c - D) = W10 at *
        have fq := (unhide S10).q.at' j hj
        have hmq := (unhide S10).q.may (j := j) hj
        have hmqd : may1 W10.drew (w.heap.size + 1 + 1 + 1 + 1) j := hmq
        have bdq := digs_dg Q j
        go_region
        go_wp2
        refine ⟨⟨i, z - 1, by have := unhide Hk; omega, rfl, by have := unhide Hz; omega, ?_⟩, by simp [intOf]; omega⟩
        have hl := (unhide hmore) (unhide HLE)
        rw [hl.1, hl.2, unhide Hjt]
        refine (unhide S10).drew.bitQ j t hj ht ?_ _ ?_
        · have := ovQ_mod M D (i + 1)
          rw [unhide HQ, unhide Hjt] at this
          exact this
        · rw [unhide HP]
end Go.Proofs.Ytddpladmkmpoaaa
