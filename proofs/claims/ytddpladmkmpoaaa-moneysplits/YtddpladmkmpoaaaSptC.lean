/- The law of the splits, walked. -/
import Derived.Test.YtddpladmkmpoaaaSptB
namespace Go.Proofs.Ytddpladmkmpoaaa
open Go Go.ChangeShapes Go.WideShapes Go.ChangeAt Go.RowKit
set_option linter.unusedVariables false
attribute [local go_sem] setCell_drewN alloc_drewN
/-- the remainder by a hundred -/
def md (z : Int) : Int := z.tmod 100
theorem md_bd (z : Int) : -9223372036854775808 ≤ md z ∧ md z ≤ 9223372036854775807 := by
  unfold md
  have h1 := Int.tmod_lt_of_pos z (show (0 : Int) < 100 by decide)
  have h2 := Int.lt_tmod_of_pos z (show (0 : Int) < 100 by decide)
  omega
theorem Lies.below {zs : Nat → Int} {v : Value} {len : Nat} {w w' : World} (h : Lies zs v len w) (hb : Below w.heap.size w w') : Lies zs v len w' := by
  rcases h with h | ⟨b, off, cap, h1, h2, h3⟩
  · exact .inl h
  · exact .inr ⟨b, off, cap, h1, Nat.lt_of_lt_of_le h2 hb.size, fun k hk => keep1 hb h2 (h3 k hk)⟩
theorem Lies.grown {zs : Nat → Int} {g len cg : Nat} {w w' : World} {row : Option Nat} (h : ∀ k, k < len → w.cell? ⟨g, k, none⟩ = some (.int .i64 (zs k))) (hl : g < w.heap.size) (hg : w.grownBy w' row) (hr : some g ≠ row) : ∀ k, k < len → w'.cell? ⟨g, k, none⟩ = some (.int .i64 (zs k)) :=
  fun k hk => (hg.cell_far ⟨g, k, none⟩ hl hr).trans (h k hk)
theorem step_below {B : Nat} {a W w1 : World} (h : Below B a W) (hB : B ≤ a.heap.size) (hb : Below W.heap.size W w1) : Below B a w1 := h.trans (hb.mono (Nat.le_trans hB h.size))
/-- p's row while it is written over and grown: all other old blocks stand -/
structure Pat (B : Nat) (w8 : World) (row : Option Nat) (n : Nat) (v : Value) (wr : World) : Prop where
  own : ∃ xs, wr.ownsRow B 2 1 v n xs
  gr : w8.grownBy wr row
  at' : v.ownBlock = row ∨ ∀ k, v.ownBlock = some k → w8.heap.size ≤ k
theorem Pat.app {B n n' : Nat} {w8 wr w9 : World} {row : Option Nat} {v v' : Value} {xs : List Value} (h : Pat B w8 row n v wr) (o : Obj) (hg : (wr.alloc o).grownBy w9 v.ownBlock) (hat : v'.ownBlock = v.ownBlock ∨ v'.ownBlock = some (wr.alloc o).heap.size) (hown : w9.ownsRow B 2 1 v' n' xs) : Pat B w8 row n' v' w9 := by
  have hs := h.gr.size
  have hsa : (wr.alloc o).heap.size = wr.heap.size + 1 := World.size_alloc _ _
  have hb : Below wr.heap.size wr (wr.alloc o) := bal (Below.refl _ _) o
  refine ⟨⟨_, hown⟩, ⟨hg.os.trans (hb.os.trans h.gr.os), hg.tape.trans (hb.tape.trans h.gr.tape), hg.output.trans (hb.output.trans h.gr.output), Nat.le_trans hs (Nat.le_trans hb.size hg.size), fun k hk hne => ?_⟩, ?_⟩
  · have e1 := h.gr.block k hk hne
    have e2 := hb.block k (Nat.lt_of_lt_of_le hk hs)
    have e3 := hg.block k (by omega) (fun e => by
      rcases h.at' with h' | h'
      · exact hne (by rw [e, h'])
      · have := h' k e.symm; omega)
    exact e3.trans (e2.trans e1)
  · rcases hat with h1 | h1
    · rw [h1]; exact h.at'
    · refine .inr fun k hk => ?_
      rw [h1] at hk
      injection hk with hk
      omega
/-- the first k are remainders -/
structure ModAt (zs : Nat → Int) (w wr : World) (g len k : Nat) : Prop where
  bel : Below w.heap.size w wr
  lt : g < wr.heap.size
  cells : ∀ j, j < len → wr.cell? ⟨g, j, none⟩ = some (.int .i64 (if j < k then md (zs j) else zs j))
  fz : ∀ j, wr.frozen? ⟨g, j, none⟩ = false
theorem ModAt.step {zs : Nat → Int} {w wr : World} {g len k : Nat} (h : ModAt zs w wr g len k) (hk : k < len) (hg : w.heap.size ≤ g) : ModAt zs w (wr.setCell ⟨g, k, none⟩ (.int .i64 (md (zs k)))) g len (k + 1) := by
  refine ⟨h.bel.setCell hg _, by simpa using h.lt, fun j hj => ?_, fun j => by simpa using h.fz j⟩
  by_cases e : j = k
  · subst e
    rw [World.cell?_setCell_same _ _ _ (h.cells j hj), if_pos (by omega)]
  · rw [World.cell?_setCell_other _ _ _ _ (by intro h'; injection h' with _ h' _; omega), h.cells j hj]
    have : j < k + 1 ↔ j < k := by omega
    simp only [this]
theorem below_of_grown {w w' : World} (h : w.grownBy w' none) : Below w.heap.size w w' := ⟨h.os, h.tape, h.output, h.size, fun k hk => h.block k hk (by simp)⟩
/-- the small question between -/
theorem split_seven (b : Nat) (w : World) (hb : b < w.heap.size) (c0 : w.cell? ⟨b, 0, none⟩ = some (.int .i64 1)) (c1 : w.cell? ⟨b, 1, none⟩ = some (.int .i64 2)) : Calls Try.prog 23 #[.int .i64 7, .slice (some ⟨b, 0, none⟩) 2 2] w fun e w' => (∃ v, e = .returned v) ∧ Below w.heap.size w w' := by
  have h : Wts 3 (fun i => if i = 0 then 1 else 2) b 0 2 w := by
    refine ⟨by omega, by omega, by decide, by omega, by omega, hb, fun k hk => ?_, fun k hk => ?_⟩
    · show 0 ≤ (if k = 0 then (1 : Int) else 2) ∧ (if k = 0 then (1 : Int) else 2) ≤ 9223372036854775807
      split <;> omega
    · have : k = 0 ∨ k = 1 := by omega
      rcases this with rfl | rfl
      · exact c0
      · exact c1
  refine (split_hands h 2 7 7 rfl (by omega)).mono ?_
  rintro e w' ⟨v, rfl, _, hB⟩
  exact ⟨⟨_, rfl⟩, hB⟩
set_option maxRecDepth 100000 in
set_option maxHeartbeats 4000000 in
theorem splits_walk (total : Int) (ht : -9223372036854775808 ≤ total) (ht' : total ≤ 9223372036854775807) (zs : Nat → Int) (a0 : Option Addr) (len cap : Nat) (w : World) (h : LIn zs w a0 len cap) :
    Calls Try.prog 6 #[.int .i64 total, .slice a0 len cap] w fun e w' => e = .returned (.bool true) ∧ Below w.heap.size w w' := by
  obtain ⟨m, f, c, hm, M1, R1⟩ := both total ht ht' zs len h.bd
  obtain ⟨m2, f2, c2, hm2, M2, R2⟩ := both total ht ht' (fun j => md (zs j)) len (fun k _ => md_bd (zs k))
  have hm3 := hide M2
  have hr3 := hide R2
  have hm1 := hide M1
  have hr1 := hide R1
  have H := hide h
  have hr := h.reach
  clear h M1 R1 M2 R2
  go_enter Try.func6, Try.ntmps6
  go_wp2_with fail
  refine (piece_any (unhide H)).mono ?_
  rintro e w1 ⟨g, cg, rfl, hown, hb1⟩
  have hc1 : ∀ k, k < len + 64 → w1.cell? ⟨g, k, none⟩ = some (.int .i64 (pz zs len k)) := fun k hk => by rw [hown.cellAt k (by omega)]; exact cellsOf_get _ _ k hk
  have hfz := fun j => hown.frozenAt j
  have hgl := hown.lt g rfl
  have hcap : (len : Int) + 64 ≤ (cg : Int) := by
    rcases hown.2 with ⟨hv, _⟩ | ⟨g', c', cur, hv, _, _, hle, _⟩
    · cases hv
    · injection hv with _ _ hv
      subst hv
      omega
  have HC1 := hide hc1
  have HF := hide hfz
  have HB1 := hide hb1
  have L1 := hide (show Lies zs (.slice (some ⟨g, 0, none⟩) len cg) len w1 from .inr ⟨g, 0, cg, rfl, hgl.2, fun k hk => by rw [Nat.zero_add, hc1 k (by omega), pz_lt hk]⟩)
  clear hown hb1 hc1 hfz
  go_wp2_with fail
  refine (unhide hm1 _ _ (unhide L1)).mono ?_
  rintro e w2 ⟨vp, rfl, hpo, hb2⟩
  have PO := hide hpo
  have HB2 := hide hb2
  clear hpo hb2
  go_wp2_with fail
  refine (split_seven _ _ (by simp) (by simp) (by simp)).mono ?_
  rintro e w3 ⟨⟨v3, rfl⟩, hb3⟩
  have D3 := hide (show Below w2.heap.size w2 w3 from step_below (bal (Below.refl _ _) (.cells #[.int .i64 1, .int .i64 2] 2)) (Nat.le_refl _) hb3)
  clear hb3
  have D13 := hide (step_below (unhide HB2) (Nat.le_refl _) (unhide D3))
  go_wp2_with fail
  refine (unhide hm1 _ _ ((unhide L1).below (unhide D13))).mono ?_
  rintro e w4 ⟨vq, rfl, hqo, hb4⟩
  have QO := hide (Shows.of_own hqo)
  have HB4 := hide hb4
  clear hqo hb4
  have C4 := hide (step_below (step_below (unhide HB1) (Nat.le_refl _) (unhide D13)) (Nat.le_refl _) (unhide HB4))
  go_wp2_with fail
  refine (unhide hr1 _ _ (Lies.of_in (unhide H) (unhide C4))).mono ?_
  rintro e w5 ⟨vw, rfl, hwo, hb5⟩
  have VO := hide hwo
  have HB5 := hide hb5
  clear hwo hb5
  have D15 := hide (step_below (step_below (unhide D13) (Nat.le_refl _) (unhide HB4)) (Nat.le_refl _) (unhide HB5))
  have C5 := hide (step_below (unhide C4) (Nat.le_refl _) (unhide HB5))
  go_wp2_with fail
  refine (kept_in (unhide H) _ (unhide C5) g cg (fun k hk => keep1 (unhide D15) hgl.2 ((unhide HC1) k hk))).mono ?_
  rintro e w6 ⟨rfl, n6, hw⟩
  have HB6 := hide (show Below w5.heap.size w5 w6 from by rw [hw]; exact below_drewN (Below.refl _ _) n6)
  clear hw
  have P6 := hide ((Shows.of_own (unhide PO)).below (step_below (step_below (step_below (unhide D3) (Nat.le_refl _) (unhide HB4)) (Nat.le_refl _) (unhide HB5)) (Nat.le_refl _) (unhide HB6)))
  have V6 := hide ((unhide VO).below (unhide HB6))
  have Q6 := hide ((unhide QO).below (step_below (unhide HB5) (Nat.le_refl _) (unhide HB6)))
  go_wp2_with fail
  refine (same_shows (unhide P6) (unhide V6) hm).mono ?_
  rintro e w7 ⟨rfl, n7, hw⟩
  have HB7 := hide (show Below w6.heap.size w6 w7 from by rw [hw]; exact below_drewN (Below.refl _ _) n7)
  clear hw
  go_wp2_with fail
  refine (same_shows ((unhide Q6).below (unhide HB7)) ((unhide V6).below (unhide HB7)) hm).mono ?_
  rintro e w8 ⟨rfl, n8, hw⟩
  have HB8 := hide (show Below w7.heap.size w7 w8 from by rw [hw]; exact below_drewN (Below.refl _ _) n8)
  clear hw
  have hcc : (c != c) = false := by simp
  have D68 := hide (step_below (unhide HB7) (Nat.le_refl _) (unhide HB8))
  have D58 := hide (step_below (unhide HB6) (Nat.le_refl _) (unhide D68))
  have C8 := hide (step_below (unhide C5) (Nat.le_refl _) (unhide D58))
  have D18 := hide (step_below (unhide D15) (Nat.le_refl _) (unhide D58))
  have D28 := hide (step_below (step_below (step_below (unhide D3) (Nat.le_refl _) (unhide HB4)) (Nat.le_refl _) (unhide HB5)) (Nat.le_refl _) (unhide D58))
  have P8 := hide (own_below (unhide PO) (unhide D28))
  have Q8 := hide ((unhide Q6).below (unhide D68))
  have V8 := hide ((unhide V6).below (unhide D68))
  have F8 := hide (show ∀ k, k < len + 64 → w8.cell? ⟨g, k, none⟩ = some (.int .i64 (pz zs len k)) from fun k hk => keep1 (unhide D18) hgl.2 ((unhide HC1) k hk))
  have Z8 := hide (show ∀ j, w8.frozen? ⟨g, j, none⟩ = false from fun j => keepF (unhide D18) hgl.2 ((unhide HF) j))
  have hg8 : g < w8.heap.size := Nat.lt_of_lt_of_le hgl.2 (unhide D18).size
  have s23 : w2.heap.size ≤ w3.heap.size := (unhide D3).size
  have s34 : w3.heap.size ≤ w4.heap.size := (unhide HB4).size
  have s12 : w1.heap.size ≤ w2.heap.size := (unhide HB2).size
  have s38 : w3.heap.size ≤ w8.heap.size := Nat.le_trans s34 (Nat.le_trans (unhide HB5).size (unhide D58).size)
  have PL := hide (show ∀ k, vp.ownBlock = some k → w1.heap.size ≤ k ∧ k < w3.heap.size from fun k hk => by have := (unhide PO).lt k hk; omega)
  obtain ⟨ap, cp, hvp⟩ : ∃ ap cp, vp = .slice ap m cp := by
    rcases (unhide PO).2 with ⟨hv, h0⟩ | ⟨g', c', cur, hv, _⟩
    · exact ⟨none, 0, by rw [hv, h0]⟩
    · exact ⟨_, _, hv⟩
  subst hvp
  clear PO QO VO P6 V6 Q6 HB2 D3 D13 HB4 C4 HB5 D15 C5 HB6 HB7 HB8 D68 D58 D28 HC1 HF L1
  have PA0 : Hid (Pat w1.heap.size w8 (Value.slice ap m cp).ownBlock m (.slice ap m cp) w8) := ⟨⟨_, unhide P8⟩, ⟨rfl, rfl, rfl, Nat.le_refl _, fun _ _ _ => rfl⟩, .inl rfl⟩
  have s18 : w1.heap.size ≤ w8.heap.size := by omega
  clear P8
  generalize hrow : (Value.slice ap m cp).ownBlock = row at *
  have HROW := hide hrow
  clear hrow
  go_wp2_with fail
  go_loopw [15] (fun i wr => ∃ k : Nat, k ≤ m ∧ i = .int .i64 (k : Int) ∧ Pat w1.heap.size w8 row m (.slice ap m cp) wr) (fun i _ => m - (intOf i).toNat)
  case atStart => exact ⟨0, by omega, rfl, unhide PA0⟩
  case round =>
    obtain ⟨k, hk, rfl, hP⟩ := hrel
    have HP := hide hP
    clear PA0
    by_cases hlt : k < m
    · obtain ⟨xs, hown⟩ := hP.own
      obtain ⟨pb, hap⟩ : ∃ pb, ap = some ⟨pb, 0, none⟩ := by
        rcases hown.2 with ⟨hv, h0⟩ | ⟨g', c', cur, hv, _⟩
        · omega
        · injection hv with hv _ _; exact ⟨g', hv⟩
      subst hap
      have hxl : k < xs.length := by have := hown.1; omega
      have hce : wr.cell? ⟨pb, k, none⟩ = some xs[k] := by rw [hown.cellAt k (by omega)]; simp [hxl]
      have hfe := hown.frozenAt k
      have hI : (k : Int) < (m : Int) := by omega
      have hI0 : (0 : Int) ≤ (k : Int) := by omega
      have HS := hide (hown.stored k (.int .i64 (-1000 - (k : Int))))
      clear hown hP
      go_wp2_with fail
      refine ⟨⟨k + 1, by omega, by go_num, ⟨_, (unhide HS).1⟩, ?_, (unhide HP).at'⟩, by simp [intOf]; omega⟩
      have e1 : row = some pb := (unhide HROW).symm
      rw [e1]
      exact (by have := (unhide HP).gr; rwa [e1] at this : w8.grownBy wr (some pb)).trans (unhide HS).2
    · have hI : ¬ (k : Int) < (m : Int) := by omega
      clear hP
      go_wp2_with fail
      go_loopw [6, 16] (fun v i wr => ∃ j : Nat, j ≤ 64 ∧ i = .int .i64 (j : Int) ∧ Pat w1.heap.size w8 row (m + j) v wr) (fun _ i _ => 64 - (intOf i).toNat)
      case atStart => exact ⟨0, by omega, rfl, unhide HP⟩
      case round =>
        obtain ⟨j, hj, rfl, hP⟩ := hrel
        have HP2 := hide hP
        clear HP
        by_cases hlj : j < 64
        · obtain ⟨xs, hown⟩ := hP.own
          have OWN := hide hown
          obtain ⟨i0, hi, hz0, hz1, hz2⟩ := info_parts info2
          have HI := hide hi; have HZ0 := hide hz0; have HZ1 := hide hz1; have HZ2 := hide hz2
          have hws := hP.gr.size
          clear hi hz0 hz1 hz2 hown hP
          go_wp2_with (at_builtin; refine wpList_append_own_at _ rfl _ _ 22 rfl w1.heap.size 2 i0 (.int .i64 0) 1 8 Try.underlying22 (unhide HI) (unhide HZ0) (unhide HZ1) (unhide HZ2) rfl (by decide) _ _ _ rfl ((unhide OWN).alloc _) ⟨wr.heap.size, 0, none⟩ 1 1 [.int .i64 (-5000)] rfl rfl (cell_one_new _ _ _) (by intro u hu; simp at hu; subst hu; rfl) (by unfold maxLen; omega) (by omega) (by simp; omega) ?_; intro v9 w9 hown9 hgrow9 _ hat9)
          have N9 := hide ((unhide HP2).app _ hgrow9 hat9 hown9)
          clear hown9 hgrow9 hat9
          go_wp2_with fail
          go_roundw
          case rel => exact ⟨j + 1, by omega, by go_num, unhide N9⟩
          case measure => simp [intOf]; omega
        · have hI2 : ¬ (j : Int) < 64 := by omega
          have hnr : some g ≠ row := fun e => by have := (unhide PL g e.symm).1; omega
          have hws := hP.gr.size
          have F9 := hide (show ∀ k, k < len + 64 → wr.cell? ⟨g, k, none⟩ = some (.int .i64 (pz zs len k)) from fun k hk => (hP.gr.cell_far ⟨g, k, none⟩ hg8 hnr).trans (unhide F8 k hk))
          have Z9 := hide (show ∀ j, wr.frozen? ⟨g, j, none⟩ = false from fun j => (hP.gr.frozen_far ⟨g, j, none⟩ hg8 hnr).trans (unhide Z8 j))
          have Q9 := hide ((unhide Q8).grown hP.gr (fun k hk => (unhide PL k hk).2))
          have V9 := hide ((unhide V8).grown hP.gr (fun k hk => by have := (unhide PL k hk).2; omega))
          have C9 := hide ((unhide C8).grown hP.gr (unhide C8).size (fun k hk => by have := (unhide PL k hk).1; have := (unhide HB1).size; omega))
          have L9 := hide (show Lies zs (.slice (some ⟨g, 0, none⟩) len cg) len wr from .inr ⟨g, 0, cg, rfl, by omega, fun k hk => by rw [Nat.zero_add, unhide F9 k (by omega), pz_lt hk]⟩)
          have hg9 : g < wr.heap.size := by omega
          clear hP HP2 Q8 V8 C8 F8 Z8 PL HROW D18
          go_wp2_with fail
          refine (unhide hm1 _ _ (unhide L9)).mono ?_
          rintro e w10 ⟨vt, rfl, hto, hb10⟩
          have T10 := hide (Shows.of_own hto)
          have HB10 := hide hb10
          clear hto hb10
          go_wp2_with fail
          refine (same_shows (unhide T10) ((unhide V9).below (unhide HB10)) hm).mono ?_
          rintro e w11 ⟨rfl, n11, hw⟩
          have HB11 := hide (show Below w10.heap.size w10 w11 from by rw [hw]; exact below_drewN (Below.refl _ _) n11)
          clear hw
          have D11 := hide (step_below (unhide HB10) (Nat.le_refl _) (unhide HB11))
          go_wp2_with fail
          refine (same_shows ((unhide Q9).below (unhide D11)) ((unhide V9).below (unhide D11)) hm).mono ?_
          rintro e w12 ⟨rfl, n12, hw⟩
          have HB12 := hide (show Below w11.heap.size w11 w12 from by rw [hw]; exact below_drewN (Below.refl _ _) n12)
          clear hw
          have D12 := hide (step_below (unhide D11) (Nat.le_refl _) (unhide HB12))
          have C12 := hide (step_below (unhide C9) (Nat.le_refl _) (unhide D12))
          go_wp2_with fail
          refine (kept_in (unhide H) _ (unhide C12) g cg (fun k hk => keep1 (unhide D12) hg9 ((unhide F9) k hk))).mono ?_
          rintro e w13 ⟨rfl, n13, hw⟩
          have HB13 := hide (show Below w12.heap.size w12 w13 from by rw [hw]; exact below_drewN (Below.refl _ _) n13)
          clear hw
          have D13 := hide (step_below (unhide D12) (Nat.le_refl _) (unhide HB13))
          have C13 := hide (step_below (unhide C12) (Nat.le_refl _) (unhide HB13))
          have F13 := hide (show ∀ k, k < len → w13.cell? ⟨g, k, none⟩ = some (.int .i64 (zs k)) from fun k hk => by rw [← pz_lt (zs := zs) hk]; exact keep1 (unhide D13) hg9 (unhide F9 k (by omega)))
          have Z13 := hide (show ∀ j, w13.frozen? ⟨g, j, none⟩ = false from fun j => keepF (unhide D13) hg9 (unhide Z9 j))
          have hg13 : g < w13.heap.size := Nat.lt_of_lt_of_le hg9 (unhide D13).size
          clear T10 Q9 V9 C9 L9 HB10 HB11 D11 HB12 D12 C12 HB13 D13 F9 Z9 hm1 hr1
          have M13 : Hid (ModAt zs w w13 g len 0) := ⟨unhide C13, hg13, fun j hj => by rw [unhide F13 j hj, if_neg (by omega)], unhide Z13⟩
          clear C13 F13 Z13
          go_wp2_with fail
          go_loopw [19] (fun i wr => ∃ x : Nat, x ≤ len ∧ i = .int .i64 (x : Int) ∧ ModAt zs w wr g len x) (fun i _ => len - (intOf i).toNat)
          case atStart => exact ⟨0, by omega, rfl, unhide M13⟩
          case round =>
            obtain ⟨x, hx, rfl, hs⟩ := hrel
            have HS := hide hs
            clear M13
            by_cases hlx : x < len
            · have hck : wr.cell? ⟨g, x, none⟩ = some (.int .i64 (zs x)) := by rw [hs.cells x hlx, if_neg (by omega)]
              have hfk := hs.fz x
              have hzk := (unhide H).bd x hlx
              have hlt1 : (x : Int) < (len : Int) + 64 := by omega
              have hI3 : (x : Int) < (len : Int) := by omega
              have hI4 : (0 : Int) ≤ (x : Int) := by omega
              clear hs
              by_cases h0 : 0 ≤ zs x
              · go_wp2_with fail
                refine ⟨⟨x + 1, by omega, by go_num, ?_⟩, by simp [intOf]; omega⟩
                rw [show zs x % 100 = md (zs x) from by unfold md; rw [Int.tmod_eq_emod_of_nonneg h0]]
                exact (unhide HS).step hlx hgl.1
              · go_wp2_with fail
                refine ⟨⟨x + 1, by omega, by go_num, ?_⟩, by simp [intOf]; omega⟩
                exact (unhide HS).step hlx hgl.1
            · have hxl : x = len := by omega
              subst hxl
              have hI3 : ¬ (x : Int) < (x : Int) := by omega
              have hcs := hide (fun j (hj : j < x) => (hs.cells j hj).trans (by rw [if_pos hj]))
              have L14 := hide (show Lies (fun j => md (zs j)) (.slice (some ⟨g, 0, none⟩) x cg) x wr from .inr ⟨g, 0, cg, rfl, hs.lt, fun k hk => by rw [Nat.zero_add]; exact unhide hcs k hk⟩)
              obtain ⟨i0, hi, hz0, hz1, hz2⟩ := info_parts info2
              have HI := hide hi; have HZ0 := hide hz0; have HZ1 := hide hz1; have HZ2 := hide hz2
              have hsz := hs.bel.size
              have hlg := hs.lt
              clear hi hz0 hz1 hz2 hs
              have hcc2 : (c2 == c2) = true := by simp
              go_wp2_with fail
              refine (unhide hm3 _ _ (unhide L14)).mono ?_
              rintro e w15 ⟨vp2, rfl, ho, hb15⟩
              have O15 := hide (Shows.of_own ho)
              have HB15 := hide hb15
              have hsz15 : w.heap.size ≤ w15.heap.size := Nat.le_trans hsz hb15.size
              have hc15 := hide (fun j (hj : j < x) => keep1 hb15 hlg (unhide hcs j hj))
              clear ho hb15
              go_wp2_with (at_builtin; refine wpList_append_own _ rfl _ _ 22 rfl w.heap.size 2 i0 (.int .i64 0) 1 8 Try.underlying22 (unhide HI) (unhide HZ0) (unhide HZ1) (unhide HZ2) rfl (by decide) _ _ _ rfl (World.ownsRow_nil _ _ _ _) ⟨g, 0, none⟩ x cg (cellsOf (fun j => md (zs j)) x) rfl (by rw [cellsOf_length]; omega) (fun j u hj => by obtain ⟨h1, h2⟩ := cellsOf_get' hj; rw [h2, Addr.add_mid, Nat.zero_add]; exact (unhide hc15) j h1) (cellsOf_one _ _) (by unfold maxLen; omega) (by omega) hsz15 ?_; intro v16 w16 hown16 hgrow16 _; have O16 := hide hown16; have G16 := hide hgrow16; clear hown16 hgrow16)
              refine (unhide hr3 _ _ (Lies.of_own (B := w.heap.size) (by have h := unhide O16; rwa [Nat.zero_add, List.nil_append] at h))).mono ?_
              rintro e w17 ⟨vw2, rfl, hv17, hb17⟩
              have B16 := hide (below_of_grown (unhide G16))
              have V17 := hide hv17
              have HB17 := hide hb17
              clear hv17 hb17
              have D17 := hide (step_below (unhide B16) (Nat.le_refl _) (unhide HB17))
              go_wp2_with fail
              refine (same_shows ((unhide O15).below (unhide D17)) (unhide V17) hm2).mono ?_
              rintro e w18 ⟨rfl, n18, hw⟩
              have HB18 := hide (show Below w17.heap.size w17 w18 from by rw [hw]; exact below_drewN (Below.refl _ _) n18)
              clear hw
              have C18 := hide (step_below (step_below (step_below (unhide HS).bel (Nat.le_refl _) (unhide HB15)) (Nat.le_refl _) (unhide D17)) (Nat.le_refl _) (unhide HB18))
              go_wp2_with fail
              go_ret
              exact ⟨rfl, unhide C18⟩
end Go.Proofs.Ytddpladmkmpoaaa
