/- ChartTwins (3): the walk. -/
import Derived.Test.YtgimeecklmmbjaaDoorChV
namespace Go.Proofs.YtgimeecklmmbjaaDoor
open Go Go.Shelf Go.ChangeShapes Go.WideShapes Go.ChangeAt Go.RowKit Go.Maps Go.Sort
set_option linter.unusedVariables false
section
attribute [local go_sem ↓] ld33_is
set_option maxRecDepth 100000 in
set_option maxHeartbeats 8000000 in
theorem twins_walk {W : World} {p1 p2 : Option Addr} {n1 c1 n2 c2 : Nat} {A B : List Av} (hA : A.length = n1) (hB : B.length = n2) (hn1 : n1 ≤ 2305843009213693951) (hn2 : n2 ≤ 2305843009213693951) (hL1 : ActsAt W p1 A) (hL2 : ActsAt W p2 B) (hok1 : ∀ v ∈ A, v.ok) (hok2 : ∀ v ∈ B, v.ok) :
    Calls Tryd.prog 3 #[.slice p1 n1 c1, .slice p2 n2 c2] W fun e w' => e = .returned (.bool true) ∧ Below W.heap.size W w' := by
  have d6 := hide (first_any W)
  have HL1 := hide hL1; have HL2 := hide hL2; have HA := hide hA; have HB := hide hB; have HOK1 := hide hok1; have HOK2 := hide hok2
  clear hL1 hL2 hA hB hok1 hok2
  go_enter Tryd.func3, Tryd.ntmps3
  go_upto_region 2 with (go_at_call 6; refine (unhide d6).mono ?_; rintro e X1 ⟨rfl, hb⟩; have B1 := hide hb; clear hb)
  have d7 := hide (played_any (c := c1) (unhide HA) hn1 ((unhide HL1).below (unhide B1)) (unhide HOK1))
  obtain ⟨L, hL⟩ : ∃ L, L = playL [] A := ⟨_, rfl⟩
  rw [← hL] at d7
  obtain ⟨d1, hd1⟩ : ∃ d1, d1 = X1.heap.size := ⟨_, rfl⟩
  rw [← hd1] at d7
  clear hL hd1
  go_upto_region 3 with (go_at_call 7; refine (unhide d7).mono ?_; rintro e X2 ⟨rfl, hn⟩; have N2 := hide hn; clear hn)
  go_upto_region 4 with first
    | (go_at_call 9; refine (new_accounts (unhide N2)).mono ?_; rintro e X3 ⟨ho, hn⟩; obtain ⟨p, c, rfl, hlies, _, _, _⟩ := ho; have N3 := hide hn; have L3 := hide hlies; clear hn hlies)
    | (go_at_call 8; refine (new_from_any (unhide N3) rfl (unhide L3)).mono ?_; rintro e X4 ⟨d2, rfl, ht⟩; have T4 := hide ht; clear ht)
  have P4 : Hid (TwoP X1 d1 L d2 L none [] X4) := ⟨none, unhide T4, fun _ => rfl⟩
  clear T4 N3 L3 N2 d7 d6
  go_wp2_with fail
  go_loopw [9] (fun v9 wr => ∃ (i : Nat) (M : List Ac), i ≤ n2 ∧ v9 = .int .i64 i ∧ Hid (TwoP X1 d1 M d2 M none [] wr)) (fun v9 _ => n2 - (intOf' v9).toNat)
  case atStart => exact ⟨0, L, Nat.zero_le _, rfl, unhide P4⟩
  case round =>
    obtain ⟨i, M, hi, rfl, P0⟩ := hrel
    by_cases hlt : i < n2
    · have hil : i < B.length := by rw [unhide HB]; exact hlt
      obtain ⟨b, off, hp, hbW, hr⟩ := ((unhide HL2).below (unhide B1)) i hil
      subst hp
      obtain ⟨v, hv⟩ : ∃ v, v = B[i] := ⟨_, rfl⟩
      rw [← hv] at hr
      have hvB : v ∈ B := by rw [hv]; exact List.getElem_mem hil
      have hvok := hide (unhide HOK2 v hvB)
      have HR : Hid (∀ Y, Below X1.heap.size X1 Y → Y.rangeAt b (off + i * 6) v.vals) := fun Y hY j u hu => (hY.cell (p := ⟨b, off + i * 6 + j, none⟩) hbW).trans (hr j u hu)
      clear hr hv hvB hbW
      have hwi : IntKind.i64.wrap ((i : Int) + 1) = (i : Int) + 1 := wrapI (by omega) (by omega)
      go_upto_region 10 with (go_at_call 9; refine (unhide P0).accounts.mono ?_; rintro e Y1 ⟨q9, c9, rfl, ht, _, _⟩; have P1 := hide ht; clear ht)
      have hld1 := run_ld33 (unhide HR _ (unhide P1).bel)
      have dA1 := hide ((unhide P1).answer v (unhide hvok))
      obtain ⟨V, hV⟩ : ∃ V, V = v.val := ⟨_, rfl⟩
      rw [← hV] at hld1 dA1
      have HV := hide hV
      clear hV
      obtain ⟨E, hE⟩ : ∃ E, E = ansE M v := ⟨_, rfl⟩
      obtain ⟨M', hM⟩ : ∃ M', M' = nxtL M v := ⟨_, rfl⟩
      rw [← hE, ← hM] at dA1
      have HE := hide hE; have HM := hide hM
      clear hE hM
      go_upto_region 11 with (go_at_call 10; refine (unhide dA1).mono ?_; rintro e Y2 ⟨rfl, ht⟩; have P2 := hide ht; clear ht)
      have hld2 := run_ld33 (unhide HR _ (unhide P2).bel)
      have dA2 := hide ((unhide P2).answer2 v (unhide hvok))
      rw [← unhide HV] at hld2 dA2
      rw [← unhide HE, ← unhide HM] at dA2
      clear hld1 dA1
      go_upto_region 12 with (go_at_call 10; refine (unhide dA2).mono ?_; rintro e Y3 ⟨rfl, ht⟩; have P3 := hide ht; clear ht)
      clear hld2 dA2
      have h100 : Hid (M'.length ≤ 2305843009213693951) := by have := (unhide P3).good.len; show _ ≤ _; omega
      have m100 : Hid (M.length ≤ 2305843009213693951) := by have := (unhide P0).good.len; show _ ≤ _; omega
      go_upto_region 13 with first
        | (go_at_call 9; with_reducible refine (unhide P3).accounts.mono ?_; rintro e Y4 ⟨q12, c12, rfl, hl, ht, _⟩; have P4 := hide ht; have L4 := hide hl.lies; clear ht hl)
        | (go_at_call 9; with_reducible refine (unhide P4).accounts2.mono ?_; rintro e Y5 ⟨q13, c13, rfl, hl, ht, hb⟩; have P5 := hide ht; have L5 := hide hl.lies; have L45 := hide ((unhide L4).below hb); clear ht hl hb)
        | (go_at_call 11; refine (same_any rfl rfl (unhide h100) (unhide L45) (unhide L5)).mono ?_; rintro e Y6 ⟨rfl, nd6, hY6⟩; have P6 := hide ((unhide P5).below (below_drewN (Below.refl _ _) nd6)); rw [← hY6] at P6; clear hY6; rw [sameB_self])
      go_upto_region 15 with fail
      go_upto_region 16 with first
        | (go_at_call 9; refine (unhide P6).accounts.mono ?_; rintro e Y7 ⟨q15, c15, rfl, hl, ht, _⟩; have P7 := hide ht; have L7 := hide hl.lies; clear ht hl)
        | (go_at_call 11; refine (same_any rfl rfl (unhide m100) (unhide P7).lies (unhide L7)).mono ?_; rintro e Y8 ⟨rfl, nd8, hY8⟩; have P8 := hide ((unhide P7).below (below_drewN (Below.refl _ _) nd8)); rw [← hY8] at P8; clear hY8)
      generalize hR : sameB M M' = R
      have hkc : Y8.cell? ⟨b, off + i * 6 + 1, none⟩ = some (.int .i64 v.kind) := unhide HR _ (unhide P8).bel 1 _ rfl
      have hcase : (E ≠ 0 ∨ v.kind = 3) → R = true := fun h => by
        rw [unhide HE] at h
        rw [← hR, unhide HM, nxt_err h, sameB_self]
      clear hR
      obtain ⟨kd, hkd⟩ : ∃ kd, kd = v.kind := ⟨_, rfl⟩
      rw [← hkd] at hkc hcase
      clear hkd
      have fin : Hid (∃ (j : Nat) (M : List Ac), j ≤ n2 ∧ Value.int .i64 ((i : Int) + 1) = .int .i64 j ∧ Hid (TwoP X1 d1 M d2 M none [] Y8)) := ⟨i + 1, M', by omega, by simp, (unhide P8).forget⟩
      clear P0 P1 P2 P3 P4 P5 P6 P7 P8 L4 L5 L45 L7
      by_cases hE0 : E = 0
      · subst hE0
        by_cases h3 : kd = 3
        · have hRt := hcase (.inr h3)
          subst h3 hRt
          clear hcase
          go_wp2_with fail
          refine ⟨unhide fin, ?_⟩
          show n2 - ((i : Int) + 1).toNat < n2 - ((i : Int)).toNat
          omega
        · have h3b : (kd == 3) = false := by simp [h3]
          clear hcase
          go_wp2_with fail
          refine ⟨unhide fin, ?_⟩
          show n2 - ((i : Int) + 1).toNat < n2 - ((i : Int)).toNat
          omega
      · have hRt := hcase (.inl hE0)
        subst hRt
        have hEb : (E == 0) = false := by simp [hE0]
        clear hcase
        by_cases h3 : kd = 3
        · subst h3
          go_wp2_with fail
          refine ⟨unhide fin, ?_⟩
          show n2 - ((i : Int) + 1).toNat < n2 - ((i : Int)).toNat
          omega
        · have h3b : (kd == 3) = false := by simp [h3]
          go_wp2_with fail
          refine ⟨unhide fin, ?_⟩
          show n2 - ((i : Int) + 1).toNat < n2 - ((i : Int)).toNat
          omega
    · have hin : i = n2 := by omega
      subst hin
      have BF : Hid (Below W.heap.size W wr) := (unhide B1).trans ((unhide P0).bel.mono (unhide B1).size)
      go_wp2_with fail
      go_ret
      exact ⟨rfl, unhide BF⟩
end
end Go.Proofs.YtgimeecklmmbjaaDoor
