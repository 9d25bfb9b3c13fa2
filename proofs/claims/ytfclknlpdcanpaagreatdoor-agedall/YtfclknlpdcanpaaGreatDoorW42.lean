import Derived.Test.YtfclknlpdcanpaaGreatDoorW37
import Derived.Test.YtfclknlpdcanpaaGreatDoorW38
import Derived.Test.YtfclknlpdcanpaaGreatDoorW41
/- A play: all views stand as the document's do (14). By tools/sda.py. -/
namespace Go.Proofs.YtfclknlpdcanpaaGreatDoor.Kg
open Go Go.Shelf Go.ChangeShapes Go.WideShapes Go.ChangeAt Go.RowKit Go.Maps
set_option linter.unusedVariables false
set_option linter.unusedSimpArgs false
set_option maxRecDepth 100000 in
set_option maxHeartbeats 16000000 in
theorem stands_any {w0 w : World} {y : Nat} {T : Nat → Option Tw} {U : Nat → Prop} (h : PlayIs w0 w y T U) :
    Calls Tryz.prog 14 #[.pointer (some ⟨y, 0, none⟩)] w fun e w' => e = .returned (.bool true) ∧ Below w.heap.size w w' := by
  have H := hide h
  clear h
  go_enter Tryz.func14, Tryz.ntmps14
  go_wp2_with fail
  go_loopw [3] (fun u wr => ∃ i : Nat, i ≤ 3 ∧ u = .int .i64 (i : Int) ∧ Hid (Below w.heap.size w wr)) (fun u _ => 3 - (intOf u).toNat)
  case atStart => exact ⟨0, by omega, rfl, Below.refl _ _⟩
  case round =>
    obtain ⟨i, hi, rfl, hb⟩ := hrel
    obtain ⟨wo, hwo⟩ : ∃ wo, wo = wr := ⟨wr, rfl⟩
    subst hwo
    have HP := hide ((unhide H).below (unhide hb))
    by_cases hlt : i < 3
    · have hI : (i : Int) < 3 := by omega
      have hI0 : (0 : Int) ≤ (i : Int) := by omega
      cases ht : T i with
      | none =>
        have yP : wo.cell? ⟨y, i, none⟩ = some (.pointer none) := by rw [(unhide HP).p i hlt, ht]; rfl
        have yD : wo.cell? ⟨y, 3 + i, none⟩ = some (.pointer none) := by rw [(unhide HP).d i hlt, ht]; rfl
        clear ht
        go_wp2_with fail
        exact ⟨⟨i + 1, by omega, by go_num, hb⟩, by simp [intOf]; omega⟩
      | some t =>
        have yP : wo.cell? ⟨y, i, none⟩ = some (.pointer (some ⟨t.pb, 0, none⟩)) := by rw [(unhide HP).p i hlt, ht]; rfl
        have yD : wo.cell? ⟨y, 3 + i, none⟩ = some (.pointer (some ⟨t.rb, 0, none⟩)) := by rw [(unhide HP).d i hlt, ht]; rfl
        have hT := (unhide HP).tw i hlt t ht
        have hG := hT.p.good
        obtain ⟨pr, cr, pq, cq, r0, r1, r2, hlr, hlq, _, _⟩ := Rv.lists hT.r
        have hrl : t.rb < wo.heap.size := World.block_lt_of_cell? wo _ r2
        have HTW : Hid (∀ W, Below wo.heap.size wo W → TwOK W t) := fun W hW => hT.below hW
        obtain ⟨n, hn⟩ : ∃ n, n = t.C.length := ⟨_, rfl⟩
        obtain ⟨m, hm⟩ : ∃ m, m = t.A.length := ⟨_, rfl⟩
        obtain ⟨D, hD⟩ : ∃ D, D = 1 + t.g := ⟨_, rfl⟩
        have hn1 : n ≤ 1000 := by rw [hn]; exact hG.l1
        have hm1 : m ≤ 1000 := by rw [hm]; exact hG.l2
        have HLR := hide hlr; have HLQ := hide hlq; have HG := hide hG
        rw [← hn] at r0; rw [← hm] at r1; rw [← hD] at r2
        have HS : Hid (∀ W, Below wo.heap.size wo W → W.cell? ⟨t.rb, 0, none⟩ = some (.slice pr n cr) ∧ W.cell? ⟨t.rb, 1, none⟩ = some (.slice pq m cq) ∧ W.cell? ⟨t.rb, 2, none⟩ = some (.int .i64 D)) := fun W hW => ⟨keep1 hW hrl r0, keep1 hW hrl r1, keep1 hW hrl r2⟩
        have hs0 := unhide HS wo.drew (below_drewN (Below.refl _ wo) 1)
        have HCL : Hid (∀ W, Below wo.heap.size wo W → Calls Tryz.prog 91 #[.pointer (some ⟨t.pb, 0, none⟩)] W fun e w' => ListOut kC W w' t.C e) := fun W hW => claims_vw (unhide HTW W hW).p
        have HAL : Hid (∀ W, Below wo.heap.size wo W → Calls Tryz.prog 93 #[.pointer (some ⟨t.pb, 0, none⟩)] W fun e w' => ListOut kA W w' t.A e) := fun W hW => allots_vw (unhide HTW W hW).p
        have HAO : Hid (∀ W, Below wo.heap.size wo W → Calls Tryz.prog 23 #[.pointer (some ⟨t.pb, 0, none⟩)] W fun e w' => e = .returned (.int .i64 D) ∧ w' = W) := fun W hW => by
          rw [hD]
          exact asOf_vw (unhide HTW W hW).p
        have HN := hide hn; have HM := hide hm; have HD := hide hD
        clear ht hT hG hlr hlq hn hm hD r0 r1 r2
        go_wp2_with fail
        refine wp_region_last (n := 27) (S := fun W => W.cell? ⟨t.rb, 0, none⟩ = some (.slice pr n cr) ∧ W.cell? ⟨t.rb, 1, none⟩ = some (.slice pq m cq) ∧ W.cell? ⟨t.rb, 2, none⟩ = some (.int .i64 D)) (by kernel_rfl) (by first | (exact hs0)) (fun hHeld => ?_)
        refine tkW 0 ?_
        refine tkW 2 ?_
        refine tkW 3 ?_
        refine tkW 4 ?_
        refine tkN 5 ?_
        refine wpAnyL_one (i := 1) (by kernel_rfl) rfl (fun KK hK => ?_)
        go_simp
        go_wp2_with (first | (go_at_call 91; refine (unhide HCL _ (below_drewN (Below.refl _ wo) 1)).mono ?_; rintro e w1 ⟨pa, ca, rfl, hl1, hb1, _⟩; have B1 : Hid (Below wo.heap.size wo w1) := (below_drewN (Below.refl _ wo) 1).trans hb1; have HL1 := hide hl1; have hs1 := unhide HS w1 (unhide B1); clear hl1 hb1; have hc1 : Hid (Calls Tryz.prog 90 #[.slice pa t.C.length ca, .slice pr n cr] w1 fun e w' => e = .returned (.bool true) ∧ ∃ k, w' = w1.drewN k) := (by rw [← unhide HN]; exact sameC_any (unhide HN).symm (by omega) (unhide HL1) ((unhide HLR).below (unhide B1)))))
        refine hK.out _ _ (by first | (exact hs1)) (fun hHeld => ?_)
        clear hK KK
        refine wpAnyL_one (i := 6) (by kernel_rfl) rfl (fun KK hK => ?_)
        go_simp
        go_wp2_with (first | (go_at_call 90; refine (unhide hc1).mono ?_; rintro e w2 ⟨rfl, k2, hw2⟩; have B2 : Hid (Below wo.heap.size wo w2) := (by rw [hw2]; exact below_drewN (unhide B1) k2); have hs2 := unhide HS w2 (unhide B2); clear hw2 hc1))
        refine hK.out _ _ (by first | (exact hs2)) (fun hHeld => ?_)
        clear hK KK
        refine tkW 7 ?_
        refine tkW 8 ?_
        refine tkW 9 ?_
        refine tkW 11 ?_
        refine tkW 12 ?_
        refine tkW 13 ?_
        refine tkN 14 ?_
        refine wpAnyL_one (i := 10) (by kernel_rfl) rfl (fun KK hK => ?_)
        go_simp
        go_wp2_with (first | (go_at_call 93; refine (unhide HAL w2 (unhide B2)).mono ?_; rintro e w3 ⟨pb, cb, rfl, hl3, hb3, _⟩; have B3 : Hid (Below wo.heap.size wo w3) := (unhide B2).trans (hb3.mono (unhide B2).size); have HL3 := hide hl3; have hs3 := unhide HS w3 (unhide B3); clear hl3 hb3; have hc3 : Hid (Calls Tryz.prog 92 #[.slice pb t.A.length cb, .slice pq m cq] w3 fun e w' => e = .returned (.bool true) ∧ ∃ k, w' = w3.drewN k) := (by rw [← unhide HM]; exact sameA_any (unhide HM).symm (by omega) (unhide HL3) ((unhide HLQ).below (unhide B3)))))
        refine hK.out _ _ (by first | (exact hs3)) (fun hHeld => ?_)
        clear hK KK
        refine wpAnyL_one (i := 15) (by kernel_rfl) rfl (fun KK hK => ?_)
        go_simp
        go_wp2_with (first | (go_at_call 92; refine (unhide hc3).mono ?_; rintro e w4 ⟨rfl, k4, hw4⟩; have B4 : Hid (Below wo.heap.size wo w4) := (by rw [hw4]; exact below_drewN (unhide B3) k4); have hs4 := unhide HS w4 (unhide B4); clear hw4 hc3))
        refine hK.out _ _ (by first | (exact hs4)) (fun hHeld => ?_)
        clear hK KK
        refine tkW 16 ?_
        refine tkW 17 ?_
        refine tkW 18 ?_
        refine tkW 19 ?_
        refine tkW 21 ?_
        refine tkW 22 ?_
        refine tkW 23 ?_
        refine tkN 24 ?_
        refine wpAnyL_one (i := 20) (by kernel_rfl) rfl (fun KK hK => ?_)
        go_simp
        go_wp2_with (first | (go_at_call 23; refine (unhide HAO w4 (unhide B4)).mono ?_; rintro e w5 ⟨rfl, hw5⟩; rw [hw5]; clear hw5 w5))
        refine hK.out _ _ (by first | (exact hs4)) (fun hHeld => ?_)
        clear hK KK
        refine tkW 25 ?_
        refine tkW 26 ?_
        refine wpAnyL_done (by kernel_rfl) ?_
        clear hs0 hs1 hs2 hs3 hs4 hHeld B1 B2 B3 HL1 HL3 HCL HAL HAO
        go_wp2_with fail
        go_loopw [6] (fun u wq => ∃ k : Nat, k ≤ n ∧ k ≤ 20 ∧ u = .int .i64 (k : Int) ∧ Hid (Below wo.heap.size wo wq)) (fun u _ => n - (intOf u).toNat)
        case atStart => exact ⟨0, by omega, by omega, rfl, unhide B4⟩
        case round =>
          obtain ⟨k, hk, hk20, rfl, hq⟩ := hrel
          obtain ⟨c0, c1, c2⟩ := unhide HS wr (unhide hq)
          by_cases hc : k < n ∧ k < 20
          · obtain ⟨hkn, hk2⟩ := hc
            have hIk : (k : Int) < (n : Int) := by omega
            have hI20 : (k : Int) < 20 := by omega
            have hK0 : (0 : Int) ≤ (k : Int) := by omega
            have hkl : k < t.C.length := by rw [← unhide HN]; exact hkn
            obtain ⟨bc, oc, e1, hbl, rng⟩ := (unhide HLR).2 k hkl
            subst e1
            obtain ⟨s, hs⟩ : ∃ s, s = (t.C[k]).acc := ⟨_, rfl⟩
            have hsz : s.size ≤ maxLen := by rw [hs]; exact ((unhide HG).ok _ (List.getElem_mem hkl)).s2
            have cs : wo.cell? ⟨bc, oc + k * 5 + 1, none⟩ = some (.string s) := by rw [hs]; exact rng 1 _ rfl
            have bP : ∀ P : Bel wr, Below wo.heap.size wo P.W := fun P => (unhide hq).trans (P.h.mono (unhide hq).size)
            obtain ⟨a0, a1, a2, a3, a4, hva⟩ : ∃ a0 a1 a2 a3 a4 : Int, .agg #[.int .i64 a0, .int .i64 a1, .int .i64 a2, .int .i64 a3, .int .i64 a4] = ag5 (ageS t.C t.A s.data.toList (1 + t.g)) := ⟨_, _, _, _, _, rfl⟩
            have q0 : ∀ P : Bel wr, P.W.cell? ⟨t.rb, 0, none⟩ = some (.slice (some ⟨bc, oc, none⟩) n cr) := fun P => (unhide HS P.W (bP P)).1
            have q2 : ∀ P : Bel wr, P.W.cell? ⟨t.rb, 2, none⟩ = some (.int .i64 D) := fun P => (unhide HS P.W (bP P)).2.2
            have qs : ∀ P : Bel wr, P.W.cell? ⟨bc, oc + k * 5 + 1, none⟩ = some (.string s) := fun P => keep1 (bP P) hbl cs
            have hst := arr39; have heg := eg39; have heq := eq39_same
            have HNW : Hid (∀ P : Bel wr, Calls Tryz.prog 24 #[.pointer (some ⟨t.pb, 0, none⟩), .string s] P.W fun e w'' => e = .returned (.agg #[.int .i64 a0, .int .i64 a1, .int .i64 a2, .int .i64 a3, .int .i64 a4]) ∧ ∃ q : Bel wr, w'' = q.W) := fun P => by
              rw [hva]
              exact (now_vw (unhide HTW _ (bP P)).p hsz).mono (fun e w' ⟨h1, h2⟩ => ⟨h1, ⟨w', P.h.trans (h2.mono P.h.size)⟩, rfl⟩)
            have HRA : Hid (∀ P : Bel wr, Calls Tryz.prog 25 #[.pointer (some ⟨t.rb, 0, none⟩), .string s, .int .i64 D] P.W fun e w'' => e = .returned (.agg #[.int .i64 a0, .int .i64 a1, .int .i64 a2, .int .i64 a3, .int .i64 a4]) ∧ ∃ q : Bel wr, w'' = q.W) := fun P => by
              have hg := (unhide HG).g
              have e1 : atS t.C t.A s.data.toList (1 + t.g) = ageS t.C t.A s.data.toList (1 + t.g) := funext fun i => by
                unfold atS
                rw [if_pos (by unfold dayB; rw [decide_eq_true (by omega), decide_eq_true (by omega)]; rfl)]
              rw [hva, ← e1, unhide HD]
              exact (rat_any (unhide HTW _ (bP P)).r (unhide HG) s (1 + t.g)).mono (fun e w' ⟨h1, h2⟩ => ⟨h1, ⟨w', P.h.trans (h2.mono P.h.size)⟩, rfl⟩)
            have HBP := hide bP
            clear hva hs rng cs hsz bP c1 c2
            go_wp2_with fail
            refine wp_region_quiet_below (by kernel_rfl) (by kernel_rfl) ?_
            repeat (go_big_quiet_step (first | (go_at_call 25; refine unhide HRA _) | (go_at_call 24; refine unhide HNW _)))
            refine wpQuiet_nil ?_
            rintro _ ⟨P, rfl⟩
            clear q0 q2 qs heq hst heg
            go_wp2_with fail
            exact ⟨⟨k + 1, by omega, by omega, by go_num, unhide HBP P⟩, by simp [intOf]; omega⟩
          · have hex : (¬ (k : Int) < (n : Int) ∧ decide ((k : Int) < (n : Int)) = false) ∨ ((k : Int) < (n : Int) ∧ ¬ (k : Int) < 20 ∧ decide ((k : Int) < 20) = false) := by
              by_cases h1 : (k : Int) < (n : Int)
              · exact .inr ⟨h1, by omega, decide_eq_false (by omega)⟩
              · exact .inl ⟨h1, decide_eq_false h1⟩
            clear hc c1 c2
            rcases hex with ⟨hIk, hDk⟩ | ⟨hIk, hI20, hDk⟩
            all_goals
              go_wp2_with fail
              exact ⟨⟨i + 1, by omega, by go_num, (unhide hb).trans ((unhide hq).mono (unhide hb).size)⟩, by simp [intOf]; omega⟩
    · have hI : ¬ (i : Int) < 3 := by omega
      go_wp2_with fail
      go_ret
      exact ⟨rfl, unhide hb⟩
end Go.Proofs.YtfclknlpdcanpaaGreatDoor.Kg
/- The play (8): whatever the script is, it answers true; the five laws. By tools/pya.py. -/
namespace Go.Proofs.YtfclknlpdcanpaaGreatDoor.Kg
open Go Go.Shelf Go.ChangeShapes Go.WideShapes Go.ChangeAt Go.RowKit Go.Maps
set_option linter.unusedVariables false
set_option linter.unusedSimpArgs false
theorem kb_new {w : World} {y : Nat} (c0 : w.cell? ⟨y, 6, none⟩ = some (.int .i64 0)) (ci : ∀ j, 7 ≤ j → j ≤ 26 → w.cell? ⟨y, j, none⟩ = some (.slice none 0 0)) (fz : ∀ i, w.frozen? ⟨y, i, none⟩ = false) (hP : Pw w) (hy : y ≠ 1) : KB w y (fun _ => False) := by
  have hn : ∀ {q : Nat}, (Value.slice none 0 0).ownBlock ≠ some q := fun e => by cases e
  refine ⟨0, 0, .slice none 0 0, fun _ => ⟨.slice none 0 0, 0, .slice none 0 0, .slice none 0 0, 0, 0, []⟩, 0, .slice none 0 0, fun _ => ⟨.slice none 0 0, 0, .slice none 0 0, .slice none 0 0, 0, 0, []⟩, ?_, fun i hi => by omega, fun i hi => by omega⟩
  refine ⟨c0, ⟨ci 12 (by omega) (by omega), fz, World.ownsRow_nil _ _ _ _, hn, fun i hi => by omega, fun i hi => by omega, fun i j hi => by omega, hP, hy, hn, fun i hi => by omega⟩, ⟨ci 13 (by omega) (by omega), fz, World.ownsRow_nil _ _ _ _, hn, fun i hi => by omega, fun i hi => by omega, fun i j hi => by omega, hP, hy, hn, fun i hi => by omega⟩, by omega, by omega, by omega, fun j h1 h2 _ _ => ci j h1 h2, ?_, ?_, ?_, fun q h => h.elim⟩
  · rintro q (h | ⟨i, hi, _⟩)
    · cases h
    · omega
  · rintro q (h | ⟨i, hi, _⟩)
    · cases h
    · omega
  · rintro q (h | ⟨i, hi, _⟩)
    · cases h
    · omega
theorem play_new {w0 w : World} {y : Nat} (hb : Below w0.heap.size w0 w) (hz : 1 < w0.heap.size) (hS : Stp w0) (hy : w0.heap.size ≤ y) (cp : ∀ i, i < 6 → w.cell? ⟨y, i, none⟩ = some (.pointer none)) (c0 : w.cell? ⟨y, 6, none⟩ = some (.int .i64 0)) (ci : ∀ j, 7 ≤ j → j ≤ 26 → w.cell? ⟨y, j, none⟩ = some (.slice none 0 0)) (fz : ∀ i, w.frozen? ⟨y, i, none⟩ = false) (hP : Pw w) : PlayIs w0 w y (fun _ => none) (fun _ => False) :=
  ⟨hb, hz, hS, hy, fun _ h => h.elim, fun _ _ _ h => (by cases h), fun i hi => cp i (by omega), fun i hi => cp (3 + i) (by omega), kb_new c0 ci fz hP (by omega), fun _ _ _ h => (by cases h), fun _ _ _ h => (by cases h), fun _ _ _ h => (by cases h), fun _ _ _ _ _ _ _ h => (by cases h)⟩
attribute [local go_sem ↓] ld62_is
set_option maxRecDepth 100000 in
set_option maxHeartbeats 16000000 in
theorem play_ok {w0 : World} (hP : Pw w0) (hS : Stp w0) (pu : Option Addr) (cu : Nat) (L : List OpV) (hO : OpsIn w0 pu L) (hI : ∀ o ∈ L, OpOk o ∧ OpIn w0 o) (hL : L.length ≤ maxLen) (part : Int) :
    Calls Tryz.prog 8 #[.slice pu L.length cu, .int .i64 part] w0 fun e w' => e = .returned (.bool true) ∧ Below w0.heap.size w0 w' := by
  have HNEW : Hid (PlayIs w0 (w0.alloc (.cells #[.pointer none, .pointer none, .pointer none, .pointer none, .pointer none, .pointer none, .int .i64 0, .slice none 0 0, .slice none 0 0, .slice none 0 0, .slice none 0 0, .slice none 0 0, .slice none 0 0, .slice none 0 0, .slice none 0 0, .slice none 0 0, .slice none 0 0, .slice none 0 0, .slice none 0 0, .slice none 0 0, .slice none 0 0, .slice none 0 0, .slice none 0 0, .slice none 0 0, .slice none 0 0, .slice none 0 0, .slice none 0 0] 53)) w0.heap.size (fun _ => none) (fun _ => False)) := by
    refine play_new (bal (Below.refl _ _) _) hP.lt hS (Nat.le_refl _) (fun i hi => ?_) (by go_simp) (fun i h1 h2 => ?_) (fun i => by go_simp) (hP.below (bal (Below.refl _ _) _))
    · match i, hi with
      | 0, _ => go_simp
      | 1, _ => go_simp
      | 2, _ => go_simp
      | 3, _ => go_simp
      | 4, _ => go_simp
      | 5, _ => go_simp
    · have h3 : i < 27 := by omega
      clear h2
      match i, h1, h3 with
      | 0, h, _ => omega
      | 1, h, _ => omega
      | 2, h, _ => omega
      | 3, h, _ => omega
      | 4, h, _ => omega
      | 5, h, _ => omega
      | 6, h, _ => omega
      | 7, _, _ => go_simp
      | 8, _, _ => go_simp
      | 9, _, _ => go_simp
      | 10, _, _ => go_simp
      | 11, _, _ => go_simp
      | 12, _, _ => go_simp
      | 13, _, _ => go_simp
      | 14, _, _ => go_simp
      | 15, _, _ => go_simp
      | 16, _, _ => go_simp
      | 17, _, _ => go_simp
      | 18, _, _ => go_simp
      | 19, _, _ => go_simp
      | 20, _, _ => go_simp
      | 21, _, _ => go_simp
      | 22, _, _ => go_simp
      | 23, _, _ => go_simp
      | 24, _, _ => go_simp
      | 25, _, _ => go_simp
      | 26, _, _ => go_simp
      | n + 27, _, h => omega
  obtain ⟨K, hK⟩ : ∃ K, K = L.length := ⟨_, rfl⟩
  have hK2 : K ≤ 9223372036854775807 := by rw [hK]; exact Nat.le_trans hL (by decide)
  have HO := hide hO
  have HI := hide hI
  have HK := hide hK
  rw [← hK]
  clear hP hO hI hS hK hL
  go_enter Tryz.func8, Tryz.ntmps8
  go_wp2_with fail
  go_loopw [6] (fun u wr => ∃ (i : Nat) (T : Nat → Option Tw) (U : Nat → Prop), i ≤ K ∧ i ≤ 300 ∧ u = .int .i64 (i : Int) ∧ PlayIs w0 wr w0.heap.size T U) (fun u _ => K - (intOf u).toNat)
  case atStart => exact ⟨0, _, _, by omega, by omega, rfl, unhide HNEW⟩
  case round =>
    obtain ⟨i0, T, U, hi, hi4, rfl, hPi⟩ := hrel
    have HPL := hide hPi
    by_cases hc : i0 < K ∧ i0 < 300
    · obtain ⟨hlt, h4⟩ := hc
      have hI : (i0 : Int) < (K : Int) := by omega
      have hI0 : (0 : Int) ≤ (i0 : Int) := by omega
      have hI4 : (i0 : Int) < 300 := by omega
      have hkl : i0 < L.length := by rw [← unhide HK]; exact hlt
      obtain ⟨b, off, hpu, hbl, rng⟩ := unhide HO i0 hkl
      subst hpu
      obtain ⟨o, ho⟩ : ∃ o, o = L[i0] := ⟨_, rfl⟩
      rw [← ho] at rng
      have hld : (ld62 (.pointer (some ⟨b, off + i0 * 15, none⟩))).run Tryz.prog wr = .ok (.agg o.arr) wr := run_ld62 (fun j u hu => keep1 hPi.bl hbl (rng j u hu))
      obtain ⟨ok, hin⟩ := unhide HI o (by rw [ho]; exact List.getElem_mem hkl)
      have HST := hide (step_any hPi ok ⟨hin.lC.below hPi.bl, hin.lA.below hPi.bl⟩)
      clear hPi rng ho ok hin
      go_wp2_with fail
      refine (unhide HST).mono ?_
      rintro r w2 ⟨rfl, T2, U2, h2⟩
      have H2 := hide h2
      clear h2 hld
      go_wp2_with fail
      refine (unhide H2).kb.intact.mono ?_
      rintro r w3 ⟨rfl, hb3⟩
      have H3 := hide ((unhide H2).below hb3)
      clear hb3
      go_wp2_with fail
      exact ⟨⟨i0 + 1, T2, U2, by omega, by omega, by go_num, unhide H3⟩, by simp [intOf]; omega⟩
    · have hex : (¬ (i0 : Int) < (K : Int) ∧ decide ((i0 : Int) < (K : Int)) = false) ∨ ((i0 : Int) < (K : Int) ∧ ¬ (i0 : Int) < 300 ∧ decide ((i0 : Int) < 300) = false) := by
        by_cases h1 : (i0 : Int) < (K : Int)
        · exact .inr ⟨h1, by omega, decide_eq_false (by omega)⟩
        · exact .inl ⟨h1, decide_eq_false h1⟩
      clear hPi hc
      rcases hex with ⟨hI, hD⟩ | ⟨hI, hI4, hD⟩
      all_goals
        go_wp2_with fail
        refine (unhide HPL).kb.settle.mono ?_
        rintro r w5 ⟨rfl, U5, hk5, hs5⟩
        have P5 := hide ((unhide HPL).settled hs5 hk5)
        clear hk5 hs5
        go_wp2_with fail
        refine (stands_any (unhide P5)).mono ?_
        rintro r w6 ⟨rfl, hb6⟩
        have P6 := hide ((unhide P5).below hb6)
        clear hb6
        go_wp2_with fail
        refine (unhide P6).kb.intact.mono ?_
        rintro r w8 ⟨rfl, hb8⟩
        have C8 := hide ((unhide P6).below hb8)
        clear hb8
        go_wp2_with fail
        refine (first_any (unhide C8).stp).mono ?_
        rintro r w9 ⟨rfl, hb9⟩
        have C9 := hide ((unhide C8).below hb9)
        clear hb9
        go_wp2_with fail
        go_ret
        exact ⟨rfl, (unhide C9).bl⟩
set_option maxRecDepth 100000 in
theorem walk_AgedTakes {w : World} (hP : Pw w) (hS : Stp w) (pu : Option Addr) (cu : Nat) (L : List OpV) (hO : OpsIn w pu L) (hI : ∀ o ∈ L, OpOk o ∧ OpIn w o) (hL : L.length ≤ maxLen) :
    Calls Tryz.prog 3 #[.slice pu L.length cu] w fun e w' => e = .returned (.bool true) ∧ Below w.heap.size w w' := by
  have HC := hide (play_ok hP hS pu cu L hO hI hL 1)
  clear hP hO hI hS
  go_enter Tryz.func3, Tryz.ntmps3
  go_wp2_with fail
  refine (unhide HC).mono ?_
  rintro e w' ⟨rfl, hb⟩
  have HB := hide hb
  clear hb
  go_wp2_with fail
  go_ret
  exact ⟨rfl, unhide HB⟩
set_option maxRecDepth 100000 in
theorem walk_AgedAdvances {w : World} (hP : Pw w) (hS : Stp w) (pu : Option Addr) (cu : Nat) (L : List OpV) (hO : OpsIn w pu L) (hI : ∀ o ∈ L, OpOk o ∧ OpIn w o) (hL : L.length ≤ maxLen) :
    Calls Tryz.prog 4 #[.slice pu L.length cu] w fun e w' => e = .returned (.bool true) ∧ Below w.heap.size w w' := by
  have HC := hide (play_ok hP hS pu cu L hO hI hL 2)
  clear hP hO hI hS
  go_enter Tryz.func4, Tryz.ntmps4
  go_wp2_with fail
  refine (unhide HC).mono ?_
  rintro e w' ⟨rfl, hb⟩
  have HB := hide hb
  clear hb
  go_wp2_with fail
  go_ret
  exact ⟨rfl, unhide HB⟩
set_option maxRecDepth 100000 in
theorem walk_AgedAsks {w : World} (hP : Pw w) (hS : Stp w) (pu : Option Addr) (cu : Nat) (L : List OpV) (hO : OpsIn w pu L) (hI : ∀ o ∈ L, OpOk o ∧ OpIn w o) (hL : L.length ≤ maxLen) :
    Calls Tryz.prog 5 #[.slice pu L.length cu] w fun e w' => e = .returned (.bool true) ∧ Below w.heap.size w w' := by
  have HC := hide (play_ok hP hS pu cu L hO hI hL 3)
  clear hP hO hI hS
  go_enter Tryz.func5, Tryz.ntmps5
  go_wp2_with fail
  refine (unhide HC).mono ?_
  rintro e w' ⟨rfl, hb⟩
  have HB := hide hb
  clear hb
  go_wp2_with fail
  go_ret
  exact ⟨rfl, unhide HB⟩
set_option maxRecDepth 100000 in
theorem walk_AgedStates {w : World} (hP : Pw w) (hS : Stp w) (pu : Option Addr) (cu : Nat) (L : List OpV) (hO : OpsIn w pu L) (hI : ∀ o ∈ L, OpOk o ∧ OpIn w o) (hL : L.length ≤ maxLen) :
    Calls Tryz.prog 6 #[.slice pu L.length cu] w fun e w' => e = .returned (.bool true) ∧ Below w.heap.size w w' := by
  have HC := hide (play_ok hP hS pu cu L hO hI hL 4)
  clear hP hO hI hS
  go_enter Tryz.func6, Tryz.ntmps6
  go_wp2_with fail
  refine (unhide HC).mono ?_
  rintro e w' ⟨rfl, hb⟩
  have HB := hide hb
  clear hb
  go_wp2_with fail
  go_ret
  exact ⟨rfl, unhide HB⟩
set_option maxRecDepth 100000 in
theorem walk_AgedAll {w : World} (hP : Pw w) (hS : Stp w) (pu : Option Addr) (cu : Nat) (L : List OpV) (hO : OpsIn w pu L) (hI : ∀ o ∈ L, OpOk o ∧ OpIn w o) (hL : L.length ≤ maxLen) :
    Calls Tryz.prog 7 #[.slice pu L.length cu] w fun e w' => e = .returned (.bool true) ∧ Below w.heap.size w w' := by
  have HC := hide (play_ok hP hS pu cu L hO hI hL 0)
  clear hP hO hI hS
  go_enter Tryz.func7, Tryz.ntmps7
  go_wp2_with fail
  refine (unhide HC).mono ?_
  rintro e w' ⟨rfl, hb⟩
  have HB := hide hb
  clear hb
  go_wp2_with fail
  go_ret
  exact ⟨rfl, unhide HB⟩
end Go.Proofs.YtfclknlpdcanpaaGreatDoor.Kg
