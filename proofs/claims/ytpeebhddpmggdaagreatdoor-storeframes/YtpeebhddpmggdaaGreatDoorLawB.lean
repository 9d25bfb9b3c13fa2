/- StoreFrames (7): its walk. -/
import Derived.Test.YtpeebhddpmggdaaGreatDoorLawA
namespace Go.Proofs.YtpeebhddpmggdaaGreatDoor
open Go Go.ChangeShapes Go.WideShapes Go.ChangeAt Go.RowKit
set_option linter.unusedVariables false
attribute [local go_sem] setCell_drewN alloc_drewN
set_option maxRecDepth 100000 in
set_option maxHeartbeats 8000000 in
theorem frames_walk (f g : Nat → Nat) (hf : ∀ k, f k < 256) (hg : ∀ k, g k < 256) (pa qa : Option Addr) (n m pc qc : Nat) (w : World) (hv : BLies f (.slice pa n pc) n w) (hu : BLies g (.slice qa m qc) m w) (hn : n ≤ 140737488351232) (hm : m ≤ 140737488351232) (hS : Stp w) :
    Calls Tryz.prog 7 #[.slice pa n pc, .slice qa m qc] w fun e w' => e = .returned (.bool true) ∧ Below w.heap.size w w' := by
  have HF := hide hf; have HG := hide hg; have HV := hide hv; have HU := hide hu; have HS := hide hS
  clear hf hg hv hu hS
  go_enter Tryz.func7, Tryz.ntmps7
  go_wp2_with fail
  refine (room_any hn (unhide HV)).mono ?_
  rintro e w1 ⟨g1, c1, rfl, ho1, hb1⟩
  have O1 := hide ho1; have B1 := hide hb1
  have hc1 : Hid (n ≤ c1 ∧ n + 64 ≤ c1) := by
    rcases ho1.2 with ⟨h, _⟩ | ⟨_, _, _, h, _, _, h2, _⟩
    · cases h
    · injection h with _ _ h; subst h; exact ⟨by omega, h2⟩
  have hL1 : Hid (BLies f (.slice (some ⟨g1, 0, none⟩) n c1) n w1) := .inr ⟨g1, 0, c1, rfl, fun _ => (ho1.lt g1 rfl).2, fun k hk => by
    rw [Nat.zero_add, ho1.cellAt k (by omega), bcells_get _ _ _ (by omega), cat_lt hk]⟩
  have hI1 : (0 : Int) ≤ (n : Int) := by omega
  have hI2 : (n : Int) ≤ (c1 : Int) := by have := (unhide hc1).1; omega
  clear ho1 hb1
  go_wp2_with fail
  refine (frame_any (unhide HF) (unhide hL1) ((unhide HS).below (unhide B1))).mono ?_
  intro e w2 hF2
  obtain ⟨vb, nb, eb, rfl, hb2⟩ := frAt hF2
  have F2 := hide hb2
  have B2 : Hid (Below w.heap.size w w2) := (unhide B1).trans (hb2.bel.mono (unhide B1).size)
  have hz2 := hb2.bel.size
  have hz1 := (unhide B1).size
  clear hF2 hb2
  have N2 := hide (World.ownsRow_lit (base := w2.heap.size) (e := 5) (size := 1) w2 #[] 0 (Nat.le_refl _) (by unfold maxLen; omega) rfl)
  have U2 := hide (fun o => ((unhide HU).below (unhide B2)).below (bal (Below.refl w2.heap.size w2) o))
  go_wp2_with (at_builtin; refine wpList_append_copy rfl _ _ rfl w2.heap.size _ rfl (unhide N2) _ m g rfl (unhide U2 _) hm (by simp) ?_; intro v3 w3 ho3 hg3; have O3 := hide ho3; have B3 := hide (Below.grown (bal (unhide B2) _) hg3 (by simp; omega) (fun k hk => Nat.le_trans (unhide B2).size ((unhide N2).lt k hk).1)); have C3 := hide (Below.grown (bal (Below.refl w2.heap.size w2) _) hg3 (by simp) (fun k hk => ((unhide N2).lt k hk).1)); clear ho3 hg3)
  refine (frame_any (unhide HG) (BLies.of_own (unhide O3)) ((unhide HS).below (unhide B3))).mono ?_
  intro e w4 hF4
  obtain ⟨vc, nc, ec, rfl, hb4⟩ := frAt hF4
  have F4 := hide hb4
  have B4 : Hid (Below w.heap.size w w4) := (unhide B3).trans (hb4.bel.mono (unhide B3).size)
  have C4 : Hid (Below w2.heap.size w2 w4) := (unhide C3).trans (hb4.bel.mono (unhide C3).size)
  have hz4 := (unhide C4).size
  have hz34 := hb4.bel.size
  have hz3 := (unhide C3).size
  have L4 : Hid (BLies f (.slice (some ⟨g1, 0, none⟩) n c1) n w4) := ((unhide hL1).below (unhide F2).bel).below (unhide C4)
  clear hF4 hb4
  go_wp2_with fail
  refine (frame_any (unhide HF) (unhide L4) ((unhide HS).below (unhide B4))).mono ?_
  intro e w5 hF5
  obtain ⟨vd, nd, ed, rfl, hb5⟩ := frAt hF5
  obtain ⟨e51, e52⟩ := (unhide F2).same hb5
  subst e51 e52
  have F5 := hide hb5
  have B5 : Hid (Below w.heap.size w w5) := (unhide B4).trans (hb5.bel.mono (unhide B4).size)
  have hz5 := hb5.bel.size
  clear hF5 hb5
  go_wp2_with fail
  refine (rframe_any (unhide HF) ((unhide HV).below (unhide B5))).mono ?_
  intro e w6 hF6
  obtain ⟨ve, ne, ee, rfl, hb6⟩ := frAt hF6
  obtain ⟨e61, e62⟩ := (unhide F2).same hb6
  subst e61 e62
  have F6 := hide hb6
  have B6 : Hid (Below w.heap.size w w6) := (unhide B5).trans (hb6.bel.mono (unhide B5).size)
  have hz6 := hb6.bel.size
  clear hF6 hb6
  go_wp2_with fail
  refine (rframe_any (unhide HG) ((unhide HU).below (unhide B6))).mono ?_
  intro e w7 hF7
  obtain ⟨vi, ni, ei, rfl, hb7⟩ := frAt hF7
  obtain ⟨e71, e72⟩ := (unhide F4).same hb7
  subst e71 e72
  have F7 := hide hb7
  have B7 : Hid (Below w.heap.size w w7) := (unhide B6).trans (hb7.bel.mono (unhide B6).size)
  have hz7 := hb7.bel.size
  clear hF7 hb7
  have T7 : Hid (Below w1.heap.size w1 w7) := ((((unhide F2).bel.trans ((unhide C4).mono hz2)).trans ((unhide F5).bel.mono (by omega))).trans ((unhide F6).bel.mono (by omega))).trans ((unhide F7).bel.mono (by omega))
  have O7 := hide (own_below (unhide O1) (unhide T7))
  go_wp2_with fail
  refine (kept_any hn ((unhide HV).below (unhide B7)) g1 c1 (fun k hk => by rw [(unhide O7).cellAt k (by omega)]; exact bcells_get _ _ _ hk)).mono ?_
  rintro e w8 ⟨rfl, dr, hw8⟩
  have B8 : Hid (Below w.heap.size w w8) := by rw [hw8]; exact below_drewN (unhide B7) dr
  have O8 : Hid (w8.ownsRow w.heap.size 5 1 (.slice (some ⟨g1, 0, none⟩) (n + 64) c1) (n + 64) (bcells (cat f n (patN 700000)) (n + 64))) := by rw [hw8]; exact unhide O7
  have Z8 : Hid (Below w6.heap.size w6 w8) := by rw [hw8]; exact below_drewN (unhide F7).bel dr
  have Ob : Hid (w8.ownsRow w1.heap.size 5 1 vb ne (bcells (frB f n) ne)) := own_below (own_below (own_below (own_below (unhide F2).own (unhide C4)) (unhide F5).bel) (unhide F6).bel) (unhide Z8)
  have Oc : Hid (w8.ownsRow w3.heap.size 5 1 vc ni (bcells (frB g m) ni)) := own_below (own_below (own_below (unhide F4).own (unhide F5).bel) (unhide F6).bel) (unhide Z8)
  have Od : Hid (w8.ownsRow w4.heap.size 5 1 vd ne (bcells (frB f n) ne)) := own_below (own_below (unhide F5).own (unhide F6).bel) (unhide Z8)
  have Oe : Hid (w8.ownsRow w5.heap.size 5 1 ve ne (bcells (frB f n) ne)) := own_below (unhide F6).own (unhide Z8)
  have Oi : Hid (w8.ownsRow w6.heap.size 5 1 vi ni (bcells (frB g m) ni)) := by rw [hw8]; exact (unhide F7).own
  have hz8 : Hid (w8.heap.size = w7.heap.size) := by rw [hw8]; rfl
  have kb := conv_own (unhide Ob)
  have kc := conv_own (unhide Oc)
  have kd := conv_own (unhide Od)
  have ke := conv_own (unhide Oe)
  have ki := conv_own (unhide Oi)
  clear hw8
  go_wp2_with fail
  clear kb kc kd ke ki
  have K9 := hide (book_alloc w8)
  obtain ⟨w9, hw9⟩ : ∃ w9, w9 = w8.alloc (.cells #[.int .i64 0, .slice none 0 0, .slice none 0 0, .slice none 0 0, .slice none 0 0, .slice none 0 0, .slice none 0 0, .slice none 0 0, .slice none 0 0, .slice none 0 0, .slice none 0 0, .slice none 0 0, .slice none 0 0, .slice none 0 0, .slice none 0 0, .slice none 0 0, .slice none 0 0, .slice none 0 0, .slice none 0 0, .slice none 0 0, .slice none 0 0] 86) := ⟨_, rfl⟩
  have b9 : Hid (Below w8.heap.size w8 w9) := by rw [hw9]; exact bal (Below.refl _ _) _
  have hz9 : Hid (w9.heap.size = w8.heap.size + 1) := by
    show w9.heap.size = w8.heap.size + 1
    rw [hw9]; simp
  rw [← hw9] at K9 ⊢
  have lb := hide (fun q hq => And.intro ((unhide F2).lt q hq).1 ((unhide F2).lt q hq).2)
  have lc := hide (fun q hq => And.intro ((unhide F4).lt q hq).1 ((unhide F4).lt q hq).2)
  have ld := hide (fun q hq => And.intro ((unhide F5).lt q hq).1 ((unhide F5).lt q hq).2)
  have Mb : Hid (Mine w9 w8.heap.size 0 (.slice none 0 0) noPg vb ne (frB f n)) := ⟨(own_below (unhide Ob) (unhide b9)).mono (Nat.zero_le _), (unhide F2).le, (unhide F2).pos, fun q hq => ⟨by have := ((unhide Ob).lt q hq).2; omega, by simp [Value.ownBlock], fun i hi => by omega⟩⟩
  have Mc : Hid (Mine w9 w8.heap.size 0 (.slice none 0 0) noPg vc ni (frB g m)) := ⟨(own_below (unhide Oc) (unhide b9)).mono (Nat.zero_le _), (unhide F4).le, (unhide F4).pos, fun q hq => ⟨by have := ((unhide Oc).lt q hq).2; omega, by simp [Value.ownBlock], fun i hi => by omega⟩⟩
  have Md : Hid (Mine w9 w8.heap.size 0 (.slice none 0 0) noPg vd ne (frB f n)) := ⟨(own_below (unhide Od) (unhide b9)).mono (Nat.zero_le _), (unhide F5).le, (unhide F5).pos, fun q hq => ⟨by have := ((unhide Od).lt q hq).2; omega, by simp [Value.ownBlock], fun i hi => by omega⟩⟩
  have T8 : Hid (Below w1.heap.size w1 w8) := by
    have h := unhide T7
    exact (((((unhide F2).bel.trans ((unhide C4).mono hz2)).trans ((unhide F5).bel.mono (by omega))).trans ((unhide F6).bel.mono (by omega))).trans ((unhide Z8).mono (by omega)))
  have hz18 := (unhide T8).size
  have T9 : Hid (Below w1.heap.size w1 w9) := (unhide T8).trans ((unhide b9).mono hz18)
  clear hw9
  refine (keep_book (unhide K9) (unhide Mb) (by omega) (by omega)).mono ?_
  rintro e w10 ⟨rfl, hm10⟩
  have M10 := hide hm10
  have b10 := hide (hm10.below (B := w1.heap.size) hz18 (unhide T9).size (fun q hq => by simp [Value.ownBlock] at hq) (fun q hq => (unhide lb q hq).1))
  obtain ⟨R1, P1, s1, K10, has1, rr1, z10, _, _, _, _⟩ := hm10
  have KK10 := hide K10; have HAS1 := hide has1; have RR1 := hide rr1
  have Mc1 := hide ((unhide Mc).next (n' := 0) (fun q hq e => by have h1 := unhide lc q hq; have h2 := unhide lb q e; omega) (unhide M10) R1 P1 has1 rr1)
  have Md1 := hide ((unhide Md).next (n' := 0) (fun q hq e => by have h1 := unhide ld q hq; have h2 := unhide lb q e; omega) (unhide M10) R1 P1 has1 rr1)
  clear K10 has1 rr1
  go_wp2_with fail
  refine (keep_book (unhide KK10) (unhide Mc1) (by omega) (by omega)).mono ?_
  rintro e w11 ⟨rfl, hm11⟩
  have z9 := unhide hz9
  have hR1 : Hid (∀ q, R1.ownBlock = some q → w1.heap.size ≤ q) := fun q hq => by
    rcases unhide RR1 q hq with h | h
    · simp [Value.ownBlock] at h
    · omega
  have b11 := hide (hm11.below (B := w1.heap.size) hz18 (by omega) (unhide hR1) (fun q hq => by have := unhide lc q hq; omega))
  have M11 := hide hm11
  obtain ⟨R2, P2, s2, K11, has2, rr2, z11, _, _, _, _⟩ := hm11
  have KK11 := hide K11; have HAS2 := hide has2; have RR2 := hide rr2
  have Md2 := hide ((unhide Md1).next (n' := 0) (fun q hq e => by have h1 := unhide ld q hq; have h2 := unhide lc q e; omega) (unhide M11) R2 P2 has2 rr2)
  have hR2 : Hid (∀ q, R2.ownBlock = some q → w1.heap.size ≤ q) := fun q hq => by
    rcases unhide RR2 q hq with h | h
    · exact unhide hR1 q h
    · omega
  clear K11 has2 rr2 z9
  go_wp2_with fail
  refine (write_book (unhide KK11) (unhide Md2) (by omega) (by omega)).mono ?_
  rintro e w12 ⟨rfl, hm12⟩
  have z9 := unhide hz9
  have b12 := hide (hm12.below (B := w1.heap.size) hz18 (by omega) (unhide hR2) (fun q hq => by have := unhide ld q hq; omega))
  obtain ⟨R3, P3, s3, K12, has3, rr3, z12, _, _, _, _⟩ := hm12
  have KK12 := hide K12
  have hR3 : Hid (∀ q, R3.ownBlock = some q → w1.heap.size ≤ q) := fun q hq => by
    rcases rr3 q hq with h | h
    · exact unhide hR2 q h
    · omega
  obtain ⟨p3, hp3⟩ : ∃ p3, p3 = upd (upd (upd noPg 0 P1) 1 P2) 2 P3 := ⟨_, rfl⟩
  have hS3 : Hid (∀ i, i < 3 → (p3 i).s ≠ 1) := fun i hi => by
    rw [hp3]
    have : i = 0 ∨ i = 1 ∨ i = 2 := by omega
    rcases this with rfl | rfl | rfl
    · rw [upd_other _ _ _ _ (by omega), upd_other _ _ _ _ (by omega), upd_same, s1]; omega
    · rw [upd_other _ _ _ _ (by omega), upd_same, s2]; omega
    · rw [upd_same, s3]; omega
  have hH3 : Hid (∀ i, i < 3 → ∀ q, (p3 i).has q → w1.heap.size ≤ q) := fun i hi q hq => by
    rw [hp3] at hq
    have : i = 0 ∨ i = 1 ∨ i = 2 := by omega
    rcases this with rfl | rfl | rfl
    · rw [upd_other _ _ _ _ (by omega), upd_other _ _ _ _ (by omega), upd_same] at hq
      rcases unhide HAS1 q hq with h | h
      · have := unhide lb q h; omega
      · omega
    · rw [upd_other _ _ _ _ (by omega), upd_same] at hq
      rcases unhide HAS2 q hq with h | h
      · have := unhide lc q h; omega
      · omega
    · rw [upd_same] at hq
      rcases has3 q hq with h | h
      · have := unhide ld q h; omega
      · omega
  have KB : Hid (BookAt w12 w8.heap.size 3 3 R3 p3) := by rw [hp3]; exact unhide KK12
  have T12 : Hid (Below w1.heap.size w1 w12) := (((unhide T9).trans (unhide b10)).trans (unhide b11)).trans (unhide b12)
  have B12 : Hid (Below w.heap.size w w12) := (unhide B1).trans ((unhide T12).mono hz1)
  have O12 := hide (own_below (unhide O1) (unhide T12))
  have hz12 : w1.heap.size ≤ w12.heap.size := (unhide T12).size
  clear K12 has3 rr3 z9 hp3 s1 s2 s3
  have hbg := hide (And.intro ((unhide O1).lt g1 rfl).1 ((unhide O1).lt g1 rfl).2)
  have hFF := hide (cat_lt256 (n := n) (unhide HF) (patN_lt 700000))
  obtain ⟨F, hF⟩ : ∃ F, F = cat f n (patN 700000) := ⟨_, rfl⟩
  rw [← hF] at O12 hFF
  clear hF
  go_wp2_with fail
  go_loopw [18] (fun i wr => ∃ j : Nat, j ≤ n + 64 ∧ i = .int .i64 (j : Int) ∧ wr.ownsRow w.heap.size 5 1 (.slice (some ⟨g1, 0, none⟩) (n + 64) c1) (n + 64) (bcells (mixX F j) (n + 64)) ∧ w12.grownBy wr (some g1)) (fun i _ => n + 64 - (intOf i).toNat)
  case atStart => exact ⟨0, by omega, rfl, unhide O12, ⟨rfl, rfl, rfl, Nat.le_refl _, fun _ _ _ => rfl⟩⟩
  case round =>
    obtain ⟨j, hj, rfl, hown, hgr⟩ := hrel
    have OW := hide hown
    have GR := hide hgr
    have hI0 : (0 : Int) ≤ (j : Int) := by omega
    by_cases hlt : j < n + 64
    · have hc : wr.cell? ⟨g1, j, none⟩ = some (.int .u8 (F j : Int)) := by
        rw [hown.cellAt j (by omega), bcells_get _ _ _ hlt]
        simp [mixX]
      have hfz := hown.frozenAt j
      have hI : (j : Int) < (n : Int) + 64 := by omega
      have hX := unhide hFF j
      have HX : Hid (bits .xor .u8 (F j : Int) ((j : Int) % 2 + 1) = ((F j ^^^ (j % 2 + 1) : Nat) : Int)) := by
        have hx := u8_xor_nat (F j) (j % 2 + 1) (by omega) (by omega)
        have e : ((j % 2 + 1 : Nat) : Int) = (j : Int) % 2 + 1 := by omega
        rw [e] at hx
        exact hx
      have hst := hide (hown.stored j (.int .u8 ((F j ^^^ (j % 2 + 1) : Nat) : Int)))
      have hset := hide (mixX_set F j (n + 64) hlt)
      clear hown hgr
      go_wp2_with fail
      rw [unhide HX]
      refine ⟨⟨j + 1, by omega, by go_num, ?_, ?_⟩, by simp [intOf]; omega⟩
      · rw [← unhide hset]
        exact (unhide hst).1
      · have h1 := unhide GR
        have h2 := (unhide hst).2
        exact ⟨h2.os.trans h1.os, h2.tape.trans h1.tape, h2.output.trans h1.output, Nat.le_trans h1.size h2.size, fun k hk hne => (h2.block k (Nat.lt_of_lt_of_le hk h1.size) hne).trans (h1.block k hk hne)⟩
    · have hjn : j = n + 64 := by omega
      subst hjn
      have hI : ¬ ((n + 64 : Nat) : Int) < (n : Int) + 64 := by omega
      have hbg' := unhide hbg
      have K13 : Hid (BookAt wr w8.heap.size 3 3 R3 p3) := (unhide KB).stay hgr.size (hgr.block _ (unhide KB).lt (by simp; omega)) (fun q hq => hgr.block q ((unhide KB).row.lt q hq).2 (by have := unhide hR3 q hq; simp; omega)) (fun i hi q hq => hgr.block q ((unhide KB).far i hi q hq).2.2 (by have := unhide hH3 i hi q hq; simp; omega))
      have B13 : Hid (Below w.heap.size w wr) := (unhide B12).grown hgr (by omega) (fun k hk => by injection hk with hk; omega)
      have L13 : Hid (BLies (mixX F (n + 64)) (.slice (some ⟨g1, 0, none⟩) n c1) n wr) := .inr ⟨g1, 0, c1, rfl, fun _ => by have := hgr.size; omega, fun k hk => by
        rw [Nat.zero_add, hown.cellAt k (by omega), bcells_get _ _ _ (by omega)]⟩
      have hFX := hide (mixX_lt (unhide hFF) (n + 64))
      clear hown hgr hbg'
      go_wp2_with fail
      refine (frame_any (unhide hFX) (unhide L13) ((unhide HS).below (unhide B13))).mono ?_
      intro e w14 hF14
      obtain ⟨vx, nx, ex, rfl, hb14⟩ := frAt hF14
      have F14 := hide hb14
      have B14 : Hid (Below w.heap.size w w14) := (unhide B13).trans (hb14.bel.mono (unhide B13).size)
      have L14 := hide ((unhide L13).below hb14.bel)
      have K14 := hide ((unhide K13).below hb14.bel)
      have hz14 := hb14.bel.size
      clear hF14 hb14
      go_wp2_with fail
      refine (rframe_any (unhide hFX) (unhide L14)).mono ?_
      intro e w15 hF15
      obtain ⟨vy, ny, ey, rfl, hb15⟩ := frAt hF15
      obtain ⟨e1, e2⟩ := (unhide F14).same hb15
      subst e1 e2
      have F15 := hide hb15
      have B15 : Hid (Below w.heap.size w w15) := (unhide B14).trans (hb15.bel.mono (unhide B14).size)
      have K15 := hide ((unhide K14).below hb15.bel)
      have hz15 := hb15.bel.size
      clear hF15 hb15
      go_wp2_with fail
      refine (settle_all (unhide K15) (by omega) (unhide hS3)).mono ?_
      rintro e w16 ⟨rfl, hrest⟩
      have hap : ∀ q, wr.heap.size ≤ q → q < w15.heap.size → w16.heap[q]? = w15.heap[q]? := fun q h1 h2 => hrest.block q h2 (fun e => by have := ((unhide K13).row.lt q e).2; omega) (fun i hi hq => by have := ((unhide K13).far i hi q hq).2.2; omega)
      have Ox : Hid (w16.ownsRow wr.heap.size 5 1 vx ny (bcells (frB (mixX F (n + 64)) n) ny)) := row_far (own_below (unhide F14).own (unhide F15).bel) (fun q hq => by have := (unhide F14).lt q hq; exact hap q this.1 (by omega))
      have Oy : Hid (w16.ownsRow w14.heap.size 5 1 vy ny (bcells (frB (mixX F (n + 64)) n) ny)) := row_far (unhide F15).own (fun q hq => by have := (unhide F15).lt q hq; exact hap q (by omega) this.2)
      have B16 : Hid (Below w.heap.size w w16) := (unhide B15).trans ⟨hrest.os, hrest.tape, hrest.output, hrest.size, fun q hq => hrest.block q (by have := (unhide B15).size; omega) (fun e => by have := unhide hR3 q e; omega) (fun i hi hh => by have := unhide hH3 i hi q hh; omega)⟩
      have kx := conv_own (unhide Ox)
      have ky := conv_own (unhide Oy)
      clear hap hrest
      go_wp2_with fail
      go_ret
      exact ⟨rfl, unhide B16⟩
end Go.Proofs.YtpeebhddpmggdaaGreatDoor
