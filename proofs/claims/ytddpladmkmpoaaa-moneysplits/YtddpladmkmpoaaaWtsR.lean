/- The document's weights (49): at a list that may be shared by, and at one that may not. -/
import Derived.Test.YtddpladmkmpoaaaRatB
import Derived.Test.YtddpladmkmpoaaaSumR
namespace Go.Proofs.Ytddpladmkmpoaaa
open Go.ChangeShapes Go.WideShapes Go.ChangeAt Go.RowKit
set_option linter.unusedVariables false
attribute [local go_sem] setCell_drewN alloc_drewN
attribute [local go_sem ↓] st46_is
attribute [local go_sem] run_st46 run_st46_new run_st46_past
/-- what weights hands back -/
def WtsOut (s : Nat) (b : Bool) (w : World) (e : Ending) (w' : World) : Prop := (∃ t, e = .returned (.tuple #[wv t, .bool b]) ∧ (b = true → t = s)) ∧ Below w.heap.size w w'
set_option maxHeartbeats 1000000 in
theorem rwts_none (a0 : Option Addr) (cap s : Nat) (w : World) : Calls Try.prog 49 #[.slice a0 0 cap] w fun e w' => WtsOut s false w e w' := by
  go_enter Try.func49, Try.ntmps49
  go_wp2
  exact bodyPost_ret (v := .tuple #[wv 0, .bool false]) (by simp [results, Try.results49, go_sem, wv, dg_zero]) rfl ⟨⟨0, rfl, fun h => by cases h⟩, bal (bal (Below.refl _ _) _) _⟩
set_option maxHeartbeats 1000000 in
theorem rwts_many (a0 : Option Addr) (len cap s : Nat) (hl : 1000 < len) (w : World) : Calls Try.prog 49 #[.slice a0 len cap] w fun e w' => WtsOut s false w e w' := by
  have h0 : ¬ (len : Int) = 0 := by omega
  have h1 : (1000 : Int) < (len : Int) := by omega
  clear hl
  go_enter Try.func49, Try.ntmps49
  go_wp2
  exact bodyPost_ret (v := .tuple #[wv 0, .bool false]) (by simp [results, Try.results49, go_sem, wv, dg_zero]) rfl ⟨⟨0, rfl, fun h => by cases h⟩, bal (bal (Below.refl _ _) _) _⟩
structure WtAt (zs : Nat → Int) (w wr : World) (k : Nat) : Prop where
  pos : ∀ j, j < k → 0 ≤ zs j
  res : Box wr w.heap.size 0
  up : Box wr (w.heap.size + 1) (upN zs k)
  bel : Below w.heap.size w wr
set_option maxHeartbeats 4000000 in
theorem rwts_any (zs : Nat → Int) (b off len cap : Nat) (hl0 : 0 < len) (hl : len ≤ 1000) (hz : Hid (∀ k, k < len → -9223372036854775808 ≤ zs k ∧ zs k ≤ 9223372036854775807)) (good : Bool) (hg : Hid (good = true ↔ (∀ k, k < len → 0 ≤ zs k) ∧ 0 < upN zs len ∧ upN zs len < 9223372036854775808)) (w : World) (hc : Hid (∀ k, k < len → w.cell? ⟨b, off + k, none⟩ = some (.int .i64 (zs k)))) (hb : b < w.heap.size) :
    Calls Try.prog 49 #[.slice (some ⟨b, off, none⟩) len cap] w fun e w' => WtsOut (upN zs len) good w e w' := by
  have hroom := hide (room zs len (by omega) (unhide hz))
  have h0 : ¬ (len : Int) = 0 := by omega
  have h1 : ¬ (1000 : Int) < (len : Int) := by omega
  go_enter Try.func49, Try.ntmps49
  go_wp2
  go_loopw [5] (fun i wr => ∃ (k : Nat), k ≤ len ∧ i = .int .i64 k ∧ WtAt zs w wr k) (fun i _ => len - (intOf i).toNat)
  case atStart => exact ⟨0, by omega, rfl, fun j hj => by omega, (Box.zero _).alloc _, (by have h := Box.zero (w.alloc (.cells #[.int .u64 0, .int .u64 0, .int .u64 0, .int .u64 0, .int .u64 0, .int .u64 0] 46)); rw [World.size_alloc] at h; exact h), bal (bal (Below.refl _ _) _) _⟩
  case round =>
    rename_i wr
    obtain ⟨k, hk, rfl, hs⟩ := hrel
    have HS := hide hs
    have bu := hs.up
    have u0 := bu.at' 0 (by omega)
    have u1 := bu.at' 1 (by omega)
    have u2 := bu.at' 2 (by omega)
    have u3 := bu.at' 3 (by omega)
    have u4 := bu.at' 4 (by omega)
    have u5 := bu.at' 5 (by omega)
    have su := bu.lt
    have hrk := (unhide hroom) k hk
    by_cases hlt : k < len
    · have hck : wr.cell? ⟨b, off + k, none⟩ = some (.int .i64 (zs k)) := by rw [hs.bel.cell hb]; exact (unhide hc) k hlt
      have hzk := (unhide hz) k hlt
      have hbr : b < wr.heap.size := Nat.lt_of_lt_of_le hb hs.bel.size
      have fit : upN zs k + (zs k).natAbs < 4294967296 ^ 6 := by have := p128; omega
      have FIT := hide fit
      have hI : (k : Int) < (len : Int) := by omega
      clear hc hz hroom hs bu hrk fit
      by_cases hn : zs k < 0
      · have FIN : Hid (WtsOut (upN zs len) good w (.returned (.tuple #[wv (upN zs k), .bool false])) (put6 wr w.heap.size (upN zs k))) := by
          have hgf : good = false := by cases hgg : good with | false => rfl | true => have := ((unhide hg).1 hgg).1 k hlt; omega
          rw [hgf]
          exact ⟨⟨_, rfl, fun h => by cases h⟩, below_put6 (unhide HS).bel (Nat.le_refl _) _⟩
        have hst := (unhide HS).res.there
        have BR := hide ((unhide HS).res.put (upN zs k))
        go_wp2
        generalize put6 wr w.heap.size (upN zs k) = WE at *
        have f0 := (unhide BR).at' 0 (by omega)
        have f1 := (unhide BR).at' 1 (by omega)
        have f2 := (unhide BR).at' 2 (by omega)
        have f3 := (unhide BR).at' 3 (by omega)
        have f4 := (unhide BR).at' 4 (by omega)
        have f5 := (unhide BR).at' 5 (by omega)
        exact bodyPost_ret (v := .tuple #[wv (upN zs k), .bool false]) (by simp [results, Try.results49, go_sem, wv, f0, f1, f2, f3, f4, f5]) rfl (unhide FIN)
      · have h0' : 0 ≤ zs k := by omega
        go_wp2
        go_region_with (first | (go_at_call 30; refine (of_any _ _ (by omega) (by omega)).mono ?_; rintro e w1 ⟨rfl, hb1⟩; have B1 := Box.below' hb1 (unhide HS).up.lt (unhide HS).up.at' (unhide HS).up.fz; have k0 := B1.at' 0 (by omega); have k1 := B1.at' 1 (by omega); have k2 := B1.at' 2 (by omega); have k3 := B1.at' 3 (by omega); have k4 := B1.at' 4 (by omega); have k5 := B1.at' 5 (by omega); have kb := keep1 hb1 hbr hck) | (go_at_call 29; refine (plus_open (upN zs k) (zs k).natAbs (unhide FIT) _).mono ?_; rintro e w2 ⟨rfl, hb2⟩; have B2 := B1.below hb2; have hst := B2.there; have hcc := hide (And.intro hb1 hb2)))
        all_goals
          go_wp2
          refine ⟨⟨k + 1, by omega, by go_num, ?_, ?_, ?_, ?_⟩, by simp [intOf]; omega⟩
          · intro j hj
            by_cases e : j = k
            · rw [e]; exact h0'
            · exact (unhide HS).pos j (by omega)
          · exact ((Box.below' hb1 (unhide HS).res.lt (unhide HS).res.at' (unhide HS).res.fz).below hb2).other (by omega) _
          · rw [upN_pos h0']; exact B2.put _
          · exact below_put6 (((unhide HS).bel.trans (undrew (hb1.mono (unhide HS).bel.size))).trans (hb2.mono (Nat.le_trans (unhide HS).bel.size hb1.size))) (by omega) _
    · have hkl : k = len := by omega
      subst hkl
      have hI : ¬ (k : Int) < (k : Int) := by omega
      have hU : upN zs k < 4294967296 ^ 6 := by have := p128; omega
      have HU := hide hU
      clear hc hz hroom hs bu hrk hU
      by_cases hfit : upN zs k < 9223372036854775808
      · have HF := hide hfit
        by_cases hz0 : upN zs k = 0
        · have hez := fun W => eq_zero (upN zs k) (unhide HU) hz0 W
          have HG := hide (show good = false from by cases hgg : good with | false => rfl | true => have := ((unhide hg).1 hgg).2.1; omega)
          clear hfit hz0 hg
          go_wp2_with (go_at_call 33; refine (amount_pos _ (unhide HF) _).mono ?_; rintro e w1 ⟨rfl, hb1⟩; have B1 := (unhide HS).up.below hb1; have R1 := hide ((unhide HS).res.below hb1); have hst := (unhide R1).there; have HB1 := hide hb1; clear hb1; have k0 := B1.at' 0 (by omega); have k1 := B1.at' 1 (by omega); have k2 := B1.at' 2 (by omega); have k3 := B1.at' 3 (by omega); have k4 := B1.at' 4 (by omega); have k5 := B1.at' 5 (by omega))
          have hstd : w1.drew.there w.heap.size 0 6 := hst
          have BO := B1.drew.other (c := w.heap.size) (by omega) (upN zs k)
          have o0 := BO.at' 0 (by omega)
          have o1 := BO.at' 1 (by omega)
          have o2 := BO.at' 2 (by omega)
          have o3 := BO.at' 3 (by omega)
          have o4 := BO.at' 4 (by omega)
          have o5 := BO.at' 5 (by omega)
          have BR := hide ((unhide R1).drew.put (upN zs k))
          clear BO
          go_region
          go_wp2
          have FIN : Hid (WtsOut (upN zs k) good w (.returned (.tuple #[wv (upN zs k), .bool false])) (put6 w1.drew w.heap.size (upN zs k))) := by
            rw [unhide HG]
            exact ⟨⟨_, rfl, fun h => rfl⟩, below_put6 ((unhide HS).bel.trans ((unhide HB1).mono (unhide HS).bel.size)).drew (Nat.le_refl _) _⟩
          generalize put6 w1.drew w.heap.size (upN zs k) = WE at *
          have f0 := (unhide BR).at' 0 (by omega)
          have f1 := (unhide BR).at' 1 (by omega)
          have f2 := (unhide BR).at' 2 (by omega)
          have f3 := (unhide BR).at' 3 (by omega)
          have f4 := (unhide BR).at' 4 (by omega)
          have f5 := (unhide BR).at' 5 (by omega)
          exact bodyPost_ret (v := .tuple #[wv (upN zs k), .bool false]) (by simp [results, Try.results49, go_sem, wv, f0, f1, f2, f3, f4, f5]) rfl (unhide FIN)
        · have hez := fun W => ne_zero (upN zs k) (unhide HU) hz0 W
          have HG := hide (show good = true from (unhide hg).2 ⟨(unhide HS).pos, by omega, hfit⟩)
          clear hfit hz0 hg
          go_wp2_with (go_at_call 33; refine (amount_pos _ (unhide HF) _).mono ?_; rintro e w1 ⟨rfl, hb1⟩; have B1 := (unhide HS).up.below hb1; have R1 := hide ((unhide HS).res.below hb1); have hst := (unhide R1).there; have HB1 := hide hb1; clear hb1; have k0 := B1.at' 0 (by omega); have k1 := B1.at' 1 (by omega); have k2 := B1.at' 2 (by omega); have k3 := B1.at' 3 (by omega); have k4 := B1.at' 4 (by omega); have k5 := B1.at' 5 (by omega))
          have hstd : w1.drew.there w.heap.size 0 6 := hst
          have BO := B1.drew.other (c := w.heap.size) (by omega) (upN zs k)
          have o0 := BO.at' 0 (by omega)
          have o1 := BO.at' 1 (by omega)
          have o2 := BO.at' 2 (by omega)
          have o3 := BO.at' 3 (by omega)
          have o4 := BO.at' 4 (by omega)
          have o5 := BO.at' 5 (by omega)
          have BR := hide ((unhide R1).drew.put (upN zs k))
          clear BO
          go_region
          go_wp2
          have FIN : Hid (WtsOut (upN zs k) good w (.returned (.tuple #[wv (upN zs k), .bool true])) (put6 w1.drew w.heap.size (upN zs k))) := by
            rw [unhide HG]
            exact ⟨⟨_, rfl, fun h => rfl⟩, below_put6 ((unhide HS).bel.trans ((unhide HB1).mono (unhide HS).bel.size)).drew (Nat.le_refl _) _⟩
          generalize put6 w1.drew w.heap.size (upN zs k) = WE at *
          have f0 := (unhide BR).at' 0 (by omega)
          have f1 := (unhide BR).at' 1 (by omega)
          have f2 := (unhide BR).at' 2 (by omega)
          have f3 := (unhide BR).at' 3 (by omega)
          have f4 := (unhide BR).at' 4 (by omega)
          have f5 := (unhide BR).at' 5 (by omega)
          exact bodyPost_ret (v := .tuple #[wv (upN zs k), .bool true]) (by simp [results, Try.results49, go_sem, wv, f0, f1, f2, f3, f4, f5]) rfl (unhide FIN)
      · have HF := hide (show 9223372036854775808 ≤ upN zs k by omega)
        have HG := hide (show good = false from by cases hgg : good with | false => rfl | true => have := ((unhide hg).1 hgg).2.2; omega)
        clear hfit hg
        go_wp2_with (go_at_call 33; refine (amount_over _ (unhide HU) (unhide HF) false _).mono ?_; rintro e w1 ⟨rfl, hb1⟩; have B1 := (unhide HS).up.below hb1; have R1 := hide ((unhide HS).res.below hb1); have hst := (unhide R1).there; have HB1 := hide hb1; clear hb1; have k0 := B1.at' 0 (by omega); have k1 := B1.at' 1 (by omega); have k2 := B1.at' 2 (by omega); have k3 := B1.at' 3 (by omega); have k4 := B1.at' 4 (by omega); have k5 := B1.at' 5 (by omega))
        have hstd : w1.drew.there w.heap.size 0 6 := hst
        have BO := B1.drew.other (c := w.heap.size) (by omega) (upN zs k)
        have o0 := BO.at' 0 (by omega)
        have o1 := BO.at' 1 (by omega)
        have o2 := BO.at' 2 (by omega)
        have o3 := BO.at' 3 (by omega)
        have o4 := BO.at' 4 (by omega)
        have o5 := BO.at' 5 (by omega)
        have BR := hide ((unhide R1).drew.put (upN zs k))
        clear BO
        go_region
        go_wp2
        have FIN : Hid (WtsOut (upN zs k) good w (.returned (.tuple #[wv (upN zs k), .bool false])) (put6 w1.drew w.heap.size (upN zs k))) := by
          rw [unhide HG]
          exact ⟨⟨_, rfl, fun h => rfl⟩, below_put6 ((unhide HS).bel.trans ((unhide HB1).mono (unhide HS).bel.size)).drew (Nat.le_refl _) _⟩
        generalize put6 w1.drew w.heap.size (upN zs k) = WE at *
        have f0 := (unhide BR).at' 0 (by omega)
        have f1 := (unhide BR).at' 1 (by omega)
        have f2 := (unhide BR).at' 2 (by omega)
        have f3 := (unhide BR).at' 3 (by omega)
        have f4 := (unhide BR).at' 4 (by omega)
        have f5 := (unhide BR).at' 5 (by omega)
        exact bodyPost_ret (v := .tuple #[wv (upN zs k), .bool false]) (by simp [results, Try.results49, go_sem, wv, f0, f1, f2, f3, f4, f5]) rfl (unhide FIN)
end Go.Proofs.Ytddpladmkmpoaaa
