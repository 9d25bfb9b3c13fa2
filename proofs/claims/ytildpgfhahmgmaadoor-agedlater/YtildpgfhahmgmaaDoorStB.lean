/- AgedSteps: steps (18). -/
import Derived.Test.YtildpgfhahmgmaaDoorStA
import Derived.Test.YtildpgfhahmgmaaDoorRgs
import Derived.Test.YtildpgfhahmgmaaDoorAcA
namespace Go.Proofs.YtildpgfhahmgmaaDoor
open Go Go.Shelf Go.ChangeShapes Go.WideShapes Go.ChangeAt Go.RowKit Go.Maps
set_option linter.unusedVariables false
theorem sumDay_append (P Q : Pts) (d : Int) : sumDay (P ++ Q) d = sumDay P d + sumDay Q d := by
  induction P with
  | nil => show sumDay Q d = 0 + sumDay Q d; omega
  | cons p P ih => rw [List.cons_append]; show _ + sumDay (P ++ Q) d = _ + sumDay P d + _; rw [ih]; omega
theorem sumDay_bounds {P : Pts} (h : ∀ p ∈ P, 1 ≤ p.2) (d : Int) : 0 ≤ sumDay P d ∧ sumDay P d ≤ sumAll P := by
  induction P with
  | nil => exact ⟨Int.le_refl _, Int.le_refl _⟩
  | cons p P ih =>
    have h1 := h p (List.mem_cons_self ..)
    have h2 := ih (fun q hq => h q (List.mem_cons_of_mem _ hq))
    constructor
    · show 0 ≤ (if p.1 = d then p.2 else 0) + sumDay P d
      split <;> omega
    · show (if p.1 = d then p.2 else 0) + sumDay P d ≤ p.2 + sumAll P
      split <;> omega
/-- the allotments of a day, of the first ones -/
def dayP (A : List Al) (s : List UInt8) (d : Int) (k : Nat) : Int := sumDay (ptsOf (A.take k) s) d
theorem dayP_succ {A : List Al} {s : List UInt8} {d : Int} {k : Nat} (h : k < A.length) : dayP A s d (k + 1) = dayP A s d k + (if A[k].inv.data.toList = s ∧ A[k].day = d then A[k].amt else 0) := by
  unfold dayP
  rw [List.take_succ_eq_append_getElem h, ptsOf_append, sumDay_append, ptsOf_one]
  by_cases h1 : A[k].inv.data.toList = s
  · rw [if_pos h1]
    show _ + ((if A[k].day = d then A[k].amt else 0) + 0) = _
    by_cases h2 : A[k].day = d
    · rw [if_pos h2, if_pos ⟨h1, h2⟩]; omega
    · rw [if_neg h2, if_neg (fun h => h2 h.2)]; omega
  · rw [if_neg h1, if_neg (fun h => h1 h.1)]
    rfl
theorem Good.day_bounds {C : List Cl} {A : List Al} {g : Int} (h : Good C A g) {c : Cl} (hc : c ∈ C) (d : Int) (k : Nat) : 0 ≤ dayP A c.key.data.toList d k ∧ dayP A c.key.data.toList d k ≤ c.amt := by
  have h1 : ∀ p ∈ ptsOf A c.key.data.toList, 1 ≤ p.2 := fun p hp => (h.pts hc p hp).1
  have e : ptsOf A c.key.data.toList = ptsOf (A.take k) c.key.data.toList ++ ptsOf (A.drop k) c.key.data.toList := by rw [← ptsOf_append, List.take_append_drop]
  have hs := h.sum c hc
  rw [e] at h1 hs
  rw [sumAll_append] at hs
  have h2 := sumDay_bounds (P := ptsOf (A.take k) c.key.data.toList) (fun p hp => h1 p (List.mem_append_left _ hp)) d
  have h3 := sumDay_bounds (P := ptsOf (A.drop k) c.key.data.toList) (fun p hp => h1 p (List.mem_append_right _ hp)) d
  unfold dayP
  omega
theorem str_ne {x s : ByteArray} (h : ¬ x = s) : (x.toList == s.toList) = false := by
  rw [ByteArray.toList_eq, ByteArray.toList_eq, beq_eq_false_iff_ne]
  intro e
  apply h
  cases x with
  | mk dx => cases s with
    | mk ds => exact congrArg ByteArray.mk (Array.toList_inj.1 e)
theorem str_inj {x s : ByteArray} (e : x.data.toList = s.data.toList) : x = s := by
  cases x with
  | mk dx => cases s with
    | mk ds => exact congrArg ByteArray.mk (Array.toList_inj.1 e)
/-- what lies there all along -/
structure Al4 (W wi : World) (pc pa p1 p2 : Option Addr) (C R1 R2 : List Cl) (A : List Al) : Prop where
  c : Lies kC wi pc C
  a : Lies kA wi pa A
  r1 : Lies kC wi p1 R1
  r2 : Lies kC wi p2 R2
  bel : Below W.heap.size W wi
theorem Al4.below {W w w' : World} {pc pa p1 p2 : Option Addr} {C R1 R2 : List Cl} {A : List Al} (h : Al4 W w pc pa p1 p2 C R1 R2 A) (hb : Below w.heap.size w w') : Al4 W w' pc pa p1 p2 C R1 R2 A :=
  ⟨h.c.below hb, h.a.below hb, h.r1.below hb, h.r2.below hb, h.bel.trans (hb.mono h.bel.size)⟩
theorem bel_drew (w : World) : Below w.heap.size w w.drew := (Below.refl _ _).drew
set_option maxRecDepth 100000 in
set_option maxHeartbeats 16000000 in
theorem steps_any {W : World} {d : Nat} {S : Nat → Prop} {C : List Cl} {A : List Al} {g : Int} (hV : Vw W d S C A g) (hS : Stp W) {pc pa : Option Addr} {n m cc ca : Nat} (hn : C.length = n) (hm : A.length = m) (hC : Lies kC W pc C) (hA : Lies kA W pa A) (hc9 : ∀ c ∈ C, c.amt ≤ 1000000000) {s : ByteArray} (hs : s.size ≤ maxLen) {t : Int} (ht : 1 ≤ t ∧ t ≤ 3652058) :
    Calls Tryd.prog 18 #[ptr d, .slice pc n cc, .slice pa m ca, .string s, .int .i64 t] W fun e w' => e = .returned (.bool true) ∧ Below W.heap.size W w' := by
  have hG := hV.good
  have hnb : n ≤ 1000 := by rw [← hn]; exact hG.l1
  have hmb : m ≤ 1000 := by rw [← hm]; exact hG.l2
  have hd1 : dayB t = true := dayB_of (by omega) (by omega)
  have hd2 : dayB (t + 1) = true := dayB_of (by omega) (by omega)
  have hwt : IntKind.i64.wrap (t + 1) = t + 1 := by rw [IntKind.wrap_i64]; omega
  have dO := hide (open_vw hV hS hs t)
  have HV := hide hV; have HS := hide hS; have HG := hide hG; have HN := hide hn; have HM := hide hm; have HC := hide hC; have HA := hide hA; have HC9 := hide hc9; have HD1 := hide hd1; have HD2 := hide hd2
  unfold OpenOut at dO
  unfold ptr at dO ⊢
  clear hV hS hG hn hm hC hA hc9 hd1 hd2
  go_enter Tryd.func18, Tryd.ntmps18
  go_wp2_with fail
  refine (unhide dO).mono ?_
  rintro e w1 ⟨p1, c1, R1, rfl, ho1, hl1, hb1, hn1⟩
  have dO := hide (open_vw ((unhide HV).below hb1) ((unhide HS).below hb1) hs (t + 1))
  have HO1 := hide ho1; have HL1 := hide hl1; have HB1 := hide hb1
  unfold OpenOut at dO
  unfold ptr at dO
  clear ho1 hl1 hb1
  go_wp2_with fail
  refine (unhide dO).mono ?_
  rintro e w2 ⟨p2, c2, R2, rfl, ho2, hl2, hb2, hn2⟩
  have HO2 := hide ho2; have HL2 := hide hl2
  have HL1b : Hid (Lies kC w2 p1 R1) := (unhide HL1).below hb2
  have HB2 : Hid (Below W.heap.size W w2) := (unhide HB1).trans (hb2.mono (unhide HB1).size)
  have HCb : Hid (Lies kC w2 pc C) := ((unhide HC).below (unhide HB1)).below hb2
  have HAb : Hid (Lies kA w2 pa A) := ((unhide HA).below (unhide HB1)).below hb2
  have H42 : Hid (Al4 W w2 pc pa p1 p2 C R1 R2 A) := ⟨unhide HCb, unhide HAb, unhide HL1b, unhide HL2, unhide HB2⟩
  clear ho2 hl2 hb2 dO HL1 HC HA HCb HAb HL1b HL2 HB2
  go_wp2_with fail
  go_loopw [13] (fun v13 wr => ∃ (i : Nat), v13 = .int .i64 i ∧ i ≤ n ∧ Hid (Al4 W wr pc pa p1 p2 C R1 R2 A)) (fun v13 _ => n - (intOf v13).toNat)
  case atStart => exact ⟨0, rfl, by omega, unhide H42⟩
  case round =>
    obtain ⟨i, rfl, hi, H4⟩ := hrel
    clear H42
    by_cases hlt : i < n
    · have hil : i < C.length := by rw [unhide HN]; exact hlt
      obtain ⟨b, off, e, hbl, hr⟩ := (unhide H4).c.2 i hil
      obtain ⟨c, hc⟩ : ∃ c, c = C[i] := ⟨_, rfl⟩
      rw [← hc] at hr
      have hcm : c ∈ C := by rw [hc]; exact List.getElem_mem hil
      have k0 : wr.cell? ⟨b, off + i * 5, none⟩ = some (.string c.key) := by
        have h0 : wr.cell? ⟨b, off + i * 5 + 0, none⟩ = some (.string c.key) := hr 0 _ rfl
        exact h0
      have k1 : wr.cell? ⟨b, off + i * 5 + 1, none⟩ = some (.string c.acc) := hr 1 _ rfl
      have k2 : wr.cell? ⟨b, off + i * 5 + 2, none⟩ = some (.int .i64 c.day) := hr 2 _ rfl
      have k4 : wr.cell? ⟨b, off + i * 5 + 4, none⟩ = some (.int .i64 c.amt) := hr 4 _ rfl
      have HCM := hide hcm
      subst e
      have HBL := hide hbl
      clear hr hbl hc hil hcm
      by_cases hac : c.acc = s
      · rw [hac] at k1
        have hb0 := (unhide HG).oS_bounds (unhide HCM) t
        have hc9 := unhide HC9 c (unhide HCM)
        obtain ⟨v0, hv0⟩ : ∃ v0, v0 = oS A c t := ⟨_, rfl⟩
        rw [← hv0] at hb0
        have d41 := hide (open41_any (c := c1) rfl hn1 (unhide H4).r1 c.key)
        have HV0 : Hid (∀ v, IsOpen R1 c.key v → v = v0) := fun v h => by rw [hv0]; exact (unhide HG).is_open (unhide HCM) (by rw [hac]) (unhide HD1) (unhide HO1) h
        have HV1 : Hid (∀ v, IsOpen R2 c.key v → v = oS A c (t + 1)) := fun v h => (unhide HG).is_open (unhide HCM) (by rw [hac]) (unhide HD2) (unhide HO2) h
        obtain ⟨v1, hv1⟩ : ∃ v1, v1 = v0 + (if c.day = t + 1 then c.amt else 0) := ⟨_, rfl⟩
        have hvb : 0 ≤ v1 ∧ v1 ≤ 2000000000 := by rw [hv1]; have := (unhide HG).ok c (unhide HCM); have := this.a1; split <;> omega
        have HEQ : Hid (oS A c (t + 1) = v1 - dayP A c.key.data.toList (t + 1) m) := by
          show _ = _
          rw [oS_step t (fun p hp => ((unhide HG).pts (unhide HCM) p hp).2), hv1, hv0]
          unfold dayP
          rw [List.take_of_length_le (by rw [unhide HM]; exact Nat.le_refl _)]
        have HDB : Hid (∀ k, 0 ≤ dayP A c.key.data.toList (t + 1) k ∧ dayP A c.key.data.toList (t + 1) k ≤ 1000000000) := fun k => by have := (unhide HG).day_bounds (unhide HCM) (t + 1) k; omega
        have HV1D := hide hv1
        clear hv0 hac hv1
        have dO1 : Hid (Calls Tryd.prog 41 #[.slice p1 R1.length c1, .string c.key] wr fun e w' => e = .returned (.int .i64 v0) ∧ w' = wr) := (unhide d41).mono fun e w' ⟨v, h1, h2, h3⟩ => ⟨by rw [h1, unhide HV0 v h3], h2⟩
        clear d41 HV0
        go_upto_if 52 with (first | (go_at_call 41; refine (unhide dO1).mono ?_; rintro e w3 ⟨rfl, hw⟩; rw [hw]; clear hw w3))
        go_cut [14] (fun v14 wx => v14 = .int .i64 v1 ∧ Hid (wx = wr))
        case first =>
          have hv := unhide HV1D
          by_cases hday : c.day = t + 1
          · rw [if_pos hday] at hv
            have hw0 : IntKind.i64.wrap (v0 + c.amt) = v0 + c.amt := by rw [IntKind.wrap_i64]; omega
            go_wp2_with fail
            go_meet
            exact ⟨by rw [hv], rfl⟩
          · rw [if_neg hday] at hv
            go_wp2_with fail
            go_meet
            exact ⟨by rw [hv]; simp, rfl⟩
        obtain ⟨rfl, hwc⟩ := hcut
        rw [unhide hwc]
        clear hwc wc HV1D
        go_wp2_with fail
        obtain ⟨wo, hwo⟩ : ∃ wo, wo = wr := ⟨_, rfl⟩
        subst hwo
        go_loopw [14, 15] (fun v14 v15 wi => ∃ (k : Nat) (q : Int), v15 = .int .i64 k ∧ k ≤ m ∧ v14 = .int .i64 q ∧ Hid (Al4 W wi (some ⟨b, off, none⟩) pa p1 p2 C R1 R2 A ∧ Below wo.heap.size wo wi ∧ q = v1 - dayP A c.key.data.toList (t + 1) k)) (fun _ v15 _ => m - (intOf v15).toNat)
        case atStart => exact ⟨0, v1, rfl, by omega, rfl, unhide H4, Below.refl _ _, by rw [show dayP A c.key.data.toList (t + 1) 0 = 0 from rfl]; omega⟩
        case round =>
          obtain ⟨k, q, rfl, hk, rfl, hrel⟩ := hrel
          obtain ⟨h5, hbi, hq⟩ := unhide hrel
          have H5 := hide h5; have HBI := hide hbi
          have j0 : wr.cell? ⟨b, off + i * 5, none⟩ = some (.string c.key) := (hbi.cell (p := ⟨b, off + i * 5, none⟩) (unhide HBL)).trans k0
          clear h5 hbi hrel
          by_cases hlk : k < m
          · have hkl : k < A.length := by rw [unhide HM]; exact hlk
            obtain ⟨bp, op, ep, hbp, hrp⟩ := (unhide H5).a.2 k hkl
            obtain ⟨a, ha⟩ : ∃ a, a = A[k] := ⟨_, rfl⟩
            have hsc := dayP_succ (s := c.key.data.toList) (d := t + 1) hkl
            rw [← ha] at hrp hsc
            have g1 : wr.cell? ⟨bp, op + k * 4 + 1, none⟩ = some (.string a.inv) := hrp 1 _ rfl
            have g2 : wr.cell? ⟨bp, op + k * 4 + 2, none⟩ = some (.int .i64 a.day) := hrp 2 _ rfl
            have g3 : wr.cell? ⟨bp, op + k * 4 + 3, none⟩ = some (.int .i64 a.amt) := hrp 3 _ rfl
            have hb1 := unhide HDB k
            have hb2 := unhide HDB (k + 1)
            subst ep
            have HQ := hide hq; have HSC := hide hsc
            clear hrp hbp ha hkl hq hsc
            by_cases hin : a.inv = c.key
            · rw [hin] at g1
              have hbt : (c.key.toList == c.key.toList) = true := by simp
              go_upto_region 13 with fail
              refine wp_region_last (n := 21) (S := fun W' => W'.cell? ⟨bp, op + k * 4 + 1, none⟩ = some (.string c.key) ∧ W'.cell? ⟨b, off + i * 5, none⟩ = some (.string c.key) ∧ W'.cell? ⟨bp, op + k * 4 + 2, none⟩ = some (.int .i64 a.day)) (by kernel_rfl) (by exact ⟨g1, j0, g2⟩) (fun hHeld => ?_)
              refine tkW 0 ?_; refine tkW 1 ?_; refine tkW 2 ?_; refine tkW 3 ?_; refine tkN 4 ?_; refine tkW 5 ?_; refine tkW 6 ?_; refine tkW 7 ?_; refine tkW 8 ?_; refine tkN 9 ?_
              refine tkW 10 ?_; refine tkW 11 ?_; refine tkW 12 ?_; refine tkW 13 ?_; refine tkW 14 ?_; refine tkW 15 ?_; refine tkN 16 ?_; refine tkW 17 ?_; refine tkW 18 ?_; refine tkW 19 ?_; refine tkW 20 ?_
              refine wpAnyL_done (by kernel_rfl) ?_
              by_cases hda : a.day = t + 1
              · have hsc := unhide HSC
                rw [if_pos ⟨by rw [hin], hda⟩] at hsc
                have hq := unhide HQ
                have hwq : IntKind.i64.wrap (q - a.amt) = q - a.amt := by rw [IntKind.wrap_i64]; omega
                have HE : Hid (Al4 W wr.drew (some ⟨b, off, none⟩) (some ⟨bp, op, none⟩) p1 p2 C R1 R2 A ∧ Below wo.heap.size wo wr.drew ∧ q - a.amt = v1 - dayP A c.key.data.toList (t + 1) (k + 1)) := ⟨(unhide H5).below (bel_drew _), (unhide HBI).drew, by omega⟩
                clear hsc hq
                go_wp2_with fail
                exact ⟨⟨k + 1, q - a.amt, by simp, by omega, rfl, unhide HE⟩, by simp [intOf]; omega⟩
              · have hsc := unhide HSC
                rw [if_neg (fun h => hda h.2)] at hsc
                have hq := unhide HQ
                have HE : Hid (Al4 W wr.drew (some ⟨b, off, none⟩) (some ⟨bp, op, none⟩) p1 p2 C R1 R2 A ∧ Below wo.heap.size wo wr.drew ∧ q = v1 - dayP A c.key.data.toList (t + 1) (k + 1)) := ⟨(unhide H5).below (bel_drew _), (unhide HBI).drew, by omega⟩
                clear hsc hq
                go_wp2_with fail
                exact ⟨⟨k + 1, q, by simp, by omega, rfl, unhide HE⟩, by simp [intOf]; omega⟩
            · have hne := str_ne hin
              go_upto_region 13 with fail
              refine wp_region_last (n := 21) (S := fun W' => W'.cell? ⟨bp, op + k * 4 + 1, none⟩ = some (.string a.inv) ∧ W'.cell? ⟨b, off + i * 5, none⟩ = some (.string c.key) ∧ W'.cell? ⟨bp, op + k * 4 + 2, none⟩ = some (.int .i64 a.day)) (by kernel_rfl) (by exact ⟨g1, j0, g2⟩) (fun hHeld => ?_)
              refine tkW 0 ?_; refine tkW 1 ?_; refine tkW 2 ?_; refine tkW 3 ?_; refine tkN 4 ?_; refine tkW 5 ?_; refine tkW 6 ?_; refine tkW 7 ?_; refine tkW 8 ?_; refine tkN 9 ?_
              refine tkW 10 ?_; refine tkW 11 ?_; refine tkX 12 ?_; refine tkX 13 ?_; refine tkX 14 ?_; refine tkX 15 ?_; refine tkX 16 ?_; refine tkX 17 ?_; refine tkX 18 ?_; refine tkX 19 ?_; refine tkW 20 ?_
              refine wpAnyL_done (by kernel_rfl) ?_
              have hsc := unhide HSC
              rw [if_neg (fun h => hin (str_inj h.1))] at hsc
              have hq := unhide HQ
              have HE : Hid (Al4 W wr.drew (some ⟨b, off, none⟩) (some ⟨bp, op, none⟩) p1 p2 C R1 R2 A ∧ Below wo.heap.size wo wr.drew ∧ q = v1 - dayP A c.key.data.toList (t + 1) (k + 1)) := ⟨(unhide H5).below (bel_drew _), (unhide HBI).drew, by omega⟩
              clear hsc hq
              go_wp2_with fail
              exact ⟨⟨k + 1, q, by simp, by omega, rfl, unhide HE⟩, by simp [intOf]; omega⟩
          · have hkm : k = m := by omega
            subst hkm
            have hb := unhide HDB k
            have dO2 : Hid (Calls Tryd.prog 41 #[.slice p2 R2.length c2, .string c.key] wr fun e w' => e = .returned (.int .i64 q) ∧ w' = wr) := (open41_any (c := c2) rfl hn2 (unhide H5).r2 c.key).mono fun e w' ⟨v, h1, h2, h3⟩ => ⟨by rw [h1, unhide HV1 v h3, unhide HEQ, hq], h2⟩
            clear hb hq
            go_wp2_with (first | (go_at_call 41; refine (unhide dO2).mono ?_; rintro e w3 ⟨rfl, hw⟩; rw [hw]; clear hw w3))
            exact ⟨⟨i + 1, by simp, by omega, unhide H5⟩, by simp [intOf]; omega⟩
      · have hne := str_ne hac
        go_wp2_with fail
        exact ⟨⟨i + 1, by simp, by omega, unhide H4⟩, by simp [intOf]; omega⟩
    · go_wp2_with fail
      go_ret
      exact ⟨rfl, (unhide H4).bel⟩
end Go.Proofs.YtildpgfhahmgmaaDoor
