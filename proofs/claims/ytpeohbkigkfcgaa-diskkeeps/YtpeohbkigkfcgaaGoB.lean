/- goes (12). -/
import Derived.Test.YtpeohbkigkfcgaaGoA
namespace Go.Proofs.Ytpeohbkigkfcgaa
open Go Go.Shelf Go.ChangeShapes Go.WideShapes Go.ChangeAt Go.RowKit Go.Maps Go.Sort
set_option linter.unusedVariables false
theorem state_kd {w : World} {d N : Nat} {S : Nat → Prop} {c : Int} {A : Fs} (h : DiskOK w d N (Kd c A) S) (hI : Inv (Kd c A)) : Calls Try.prog 9 #[.pointer (some ⟨d, 0, none⟩)] w fun e w' => (∃ p cc, e = .returned (.agg #[.int .i64 c, .slice p A.length cc, .int .i64 (-1), .bool false])) ∧ Below w.heap.size w w' := by
  obtain ⟨mo, n, es, h⟩ := h
  refine (state_ok h hI).mono ?_
  rintro e w' ⟨⟨v, rfl, b, _, hf⟩, hb⟩
  obtain ⟨p, cc, rfl⟩ := hf.form
  exact ⟨⟨p, cc, rfl⟩, hb⟩
theorem free_kd {w : World} {d N : Nat} {S : Nat → Prop} {c : Int} {A : Fs} (h : DiskOK w d N (Kd c A) S) (hc : c ≤ 1048576) (f : Nat) (hf : (f : Int) + (totF A : Int) = c) : Calls Try.prog 28 #[.pointer (some ⟨d, 0, none⟩)] w fun e w' => e = .returned (.int .i64 (f : Int)) ∧ Below w.heap.size w w' := by
  have := freed_ok h hc (by omega) (by omega)
  rw [show c - (totF A : Int) = (f : Int) by omega] at this
  exact this
theorem run_mk27 (f : Nat) (hf : f ≤ 1048576) (w : World) : (Instr.makeSlice 27 (.int .i64 ((f : Int) + 1)) (.int .i64 ((f : Int) + 1))).run Try.prog w = .ok (.slice (some ⟨w.heap.size, 0, none⟩) (f + 1) (f + 1)) (w.alloc (.cells (madeCells #[.int .u8 0] (f + 1)) 5)) := by
  obtain ⟨i0, hi, hz0, hsz, hz2⟩ := info_parts info5
  have h := run_make (P := Try.prog) w 27 5 i0 (.int .u8 0) Try.underlying27 hi hz0 .i64 .i64 ((f : Int) + 1) ((f : Int) + 1) (by omega) (by omega) (by rw [hz2]; omega) (by omega)
  rw [hsz, show ((f : Int) + 1).toNat = f + 1 by omega, Nat.mul_one] at h
  exact h
theorem made_at (w : World) (m : Nat) : BytesAt (w.alloc (.cells (madeCells #[.int .u8 0] m) 5)) (.slice (some ⟨w.heap.size, 0, none⟩) m m) (List.replicate m 0) := by
  refine .inr ⟨w.heap.size, 0, m, by simp, fun j u hj => ?_⟩
  have hj' : j < m := by
    have := (List.getElem?_eq_some_iff.1 hj).1
    rw [bcs_len, List.length_replicate] at this
    exact this
  rw [Nat.zero_add, World.cell?_alloc_new]
  simp [bcs, hj'] at hj
  subst hj
  simp [madeCells, hj', Nat.mod_one]
/-- bytes more than there is room -/
theorem full0_ok {w : World} {d N : Nat} {S : Nat → Prop} {c : Int} {A : Fs} (h : DiskOK w d N (Kd c A) S) (hN : N < 1000000) (hc : c ≤ 1048576) (hc0 : 0 ≤ c) (ht : totF A ≤ 1048576) {x : Fl} (hg : getF gS.data.toList A = some x) (b m : Nat) (hu : BytesAt w (.slice (some ⟨b, 0, none⟩) m m) (List.replicate m 0)) (hus : b ≠ d) (hr : c - (totF A : Int) < (m : Int)) :
    Calls Try.prog 23 #[.pointer (some ⟨d, 0, none⟩), .string ⟨#[103, 111, 101, 115]⟩, .slice (some ⟨b, 0, none⟩) m m] w fun e w' => e = .returned (.int .i64 30) ∧ ∃ S', DiskOK w' d (N + 1) (Kd c A) S' ∧ Sep w w' S S' := by
  have h1 : (List.replicate m (0 : UInt8)).length = m := List.length_replicate
  have := full_ok h hN hc hc0 ht gS (by decide) g_name hg (some ⟨b, 0, none⟩) m (List.replicate m 0) (by rw [h1]; exact hu) (fun q hq => by simp only [Value.ownBlock, Option.some.injEq] at hq; omega) (by rw [h1]; exact hr)
  rw [h1] at this
  exact this
/-- one byte where there is room -/
theorem more7_ok {w : World} {d N : Nat} {S : Nat → Prop} {c : Int} {A : Fs} (h : DiskOK w d N (Kd c A) S) (hN : N < 1000000) (hc : c ≤ 1048576) (hc0 : 0 ≤ c) (ht : totF A ≤ 1048576) (hg : getF gS.data.toList A = some ⟨[], 0⟩) (b cc : Nat) (hu : w.cell? ⟨b, 0, none⟩ = some (.int .u8 7)) (hus : b ≠ d) (hr : (totF A : Int) < c) :
    Calls Try.prog 23 #[.pointer (some ⟨d, 0, none⟩), .string ⟨#[103, 111, 101, 115]⟩, .slice (some ⟨b, 0, none⟩) 1 cc] w fun e w' => e = .returned (.int .i64 0) ∧ ∃ S', DiskOK w' d (N + 1) (Kd c (putF gS.data.toList ⟨[7], 0⟩ A)) S' ∧ Sep w w' S S' := by
  exact more_ok h hN hc hc0 ht gS (by decide) g_name hg (some ⟨b, 0, none⟩) cc [7] (.inr ⟨b, 0, cc, rfl, fun j u hj => by
    match j, hj with
    | 0, hj => simp [bcs] at hj; subst hj; exact hu⟩) (fun q hq => by simp only [Value.ownBlock, Option.some.injEq] at hq; omega) (by show (1 : Int) ≤ _; omega)
theorem six_crash {K : Dk} (h : SixK K) : SixK (crashK [] K) := by
  have := six_act (o := ⟨14, ⟨#[]⟩, ⟨#[]⟩, [], 0, []⟩) h
  simpa [actK] using this
theorem Sep.out {w w' : World} {S S' : Nat → Prop} (h : Sep w w' S S') {b : Nat} (hb : ¬ S b) (hl : b < w.heap.size) : ¬ S' b := fun h' => by
  rcases h.new b h' with h1 | h1
  · exact hb h1
  · omega
theorem sep_ne {w w' : World} {S S' : Nat → Prop} (h : Sep w w' S S') {a : Addr} {v : Value} (hv : w.cell? a = some v) (hS : ¬ S a.block) : w'.cell? a = some v := (World.cell?_of_block (h.block a.block (World.block_lt_of_cell? w a hv) hS)).trans hv
set_option maxRecDepth 100000 in
set_option maxHeartbeats 4000000 in
theorem goes_pos {w : World} {d N : Nat} {K : Dk} {S : Nat → Prop} (h : DiskOK w d N K S) (hN : N < 800000) (hI : Inv K) (h6 : SixK K) (f : Nat) (hf : (f : Int) + (totF (crashK [] K).A : Int) = K.cap) (hp : 0 < f) :
    Calls Try.prog 12 #[.pointer (some ⟨d, 0, none⟩)] w fun e w' => e = .returned (.bool true) ∧ ∃ S', Sep w w' S S' := by
  obtain ⟨c, hc⟩ : ∃ c, c = K.cap := ⟨_, rfl⟩
  obtain ⟨A, hA⟩ : ∃ A, A = (crashK [] K).A := ⟨_, rfl⟩
  have hcr : crashK [] K = Kd c A := by rw [hc, hA]; rfl
  rw [← hA, ← hc] at hf
  have hI1 : Inv (Kd c A) := by rw [← hcr]; exact hI.crash []
  have h61 : SixK (Kd c A) := by rw [← hcr]; exact six_crash h6
  have hl6 : K.A.length ≤ 6 := six_len hI.ord h6
  have hAl : A.length ≤ 6 := six_len (K := Kd c A) hI1.ord h61
  have hc1 : c ≤ 1048576 := hI1.cap1
  have G0 : Hid (Gw A none none (totF A)) := ⟨hI1.ord, six_out h61 six_g, six_out h61 six_w, by simp [lo]⟩
  have HI1 := hide hI1
  obtain ⟨t, ht⟩ : ∃ t, t = totF A := ⟨_, rfl⟩
  rw [← ht] at hf G0
  have HT := hide ht
  have HC := crash_ok h (by omega) hI none 0 [] (.inl ⟨rfl, rfl⟩) (fun q hq => by cases hq) (by decide)
  rw [hcr] at HC
  have hdl : d < w.heap.size := by obtain ⟨_, _, _, h⟩ := h; exact h.at'.lt
  obtain ⟨L, hL⟩ : ∃ L, L = A.length := ⟨_, rfl⟩
  have HL := hide hL
  rw [← hL] at hAl
  have HC := hide HC
  clear h hI h6 hI1 h61 ht hL hc hA hcr
  have c0 : (0 : Int) ≤ c := by omega
  have f0 : (0 : Int) ≤ (f : Int) := by omega
  have f1 : (f : Int) ≤ 1048576 := by omega
  have l0 : ¬ (64 : Int) ≤ (L : Int) := by omega
  have hmk := run_mk27 f (by omega)
  have fp : (0 : Int) < (f : Int) := by omega
  have fm : ∀ (W : World) (ts : Array TypeId) (t : TypeId), (Builtin.min_ ts t #[.int .i64 (f : Int), .int .i64 1]).run Try.prog W = .ok (.int .i64 1) W := fun W ts t => by rw [run_min_int2]; congr 2; split <;> omega
  clear hp
  go_enter Try.func12, Try.ntmps12
  go_wp2_with fail
  refine (unhide HC).mono ?_
  rintro e w1 ⟨⟨r, rfl⟩, S1, hd1, hs1⟩
  have z1 := hs1.size
  have D1 := hide hd1; have P1 := hide hs1
  clear hd1 hs1
  go_wp2_with fail
  refine (state_kd (unhide D1) (unhide HI1)).mono ?_
  rintro e w2 ⟨⟨p2, c2, rfl⟩, hb2⟩
  rw [← unhide HL]
  have z2 := hb2.size
  have D2 := hide ((unhide D1).below hb2)
  have P2 : Hid (Sep w w2 S S1) := (unhide P1).trans (Sep.of_below S1 hb2)
  clear hb2
  go_wp2_with fail
  obtain ⟨w3, hw3⟩ : ∃ w3, w3 = w2.alloc (.cells #[.int .i64 c, .slice p2 L c2, .int .i64 (-1), .bool false] 31) := ⟨_, rfl⟩
  have b3 : Below w2.heap.size w2 w3 := by rw [hw3]; exact bal (Below.refl _ _) _
  have s3 : w3.cell? ⟨w2.heap.size, 1, none⟩ = some (.slice p2 L c2) := by rw [hw3]; simp
  have z3 : w3.heap.size = w2.heap.size + 1 := by rw [hw3]; simp
  have n1 : Hid (¬ S1 w2.heap.size) := fun h' => by obtain ⟨_, _, _, h⟩ := unhide D2; have := h.sl _ h'; omega
  rw [← hw3]
  clear hw3
  have D3 := hide ((unhide D2).below b3)
  have P3 : Hid (Sep w w3 S S1) := (unhide P2).trans (Sep.of_below S1 b3)
  clear b3
  refine (free_kd (unhide D3) hc1 f (by rw [← unhide HT]; exact hf)).mono ?_
  rintro e w4 ⟨rfl, hb4⟩
  have z4 := hb4.size
  have s4 := keep1 hb4 (by omega) s3
  have D4 := hide ((unhide D3).below hb4)
  have P4 : Hid (Sep w w4 S S1) := (unhide P3).trans (Sep.of_below S1 hb4)
  clear hb4 s3
  go_wp2_with fail
  refine (gone_ok (unhide D4) (by omega) gS (by decide) g_name (unhide G0).hg).mono ?_
  rintro e w5 ⟨rfl, S5, hd5, hs5⟩
  have z5 := hs5.size
  have s5 := sep_ne hs5 s4 (unhide n1)
  have n5 : Hid (¬ S5 w2.heap.size) := hs5.out (unhide n1) (by omega)
  have D5 := hide hd5
  have P5 : Hid (Sep w w5 S S5) := (unhide P4).trans hs5
  clear hd5 hs5 s4
  go_wp2_with fail
  refine (gone_ok (unhide D5) (by omega) wS (by decide) w_name (unhide G0).hw).mono ?_
  rintro e w6 ⟨rfl, S6, hd6, hs6⟩
  have z6 := hs6.size
  have s6 := sep_ne hs6 s5 (unhide n5)
  have D6 := hide hd6
  have P6 : Hid (Sep w w6 S S6) := (unhide P5).trans hs6
  clear hd6 hs6 s5
  go_wp2_with (first | (go_at_call 14; refine (num_ok _ _ (by omega) (by omega)).mono ?_; rintro e wn ⟨rfl, hw⟩; rw [hw]; clear hw wn))
  refine (make_ok (unhide D6) (by omega) gS (by decide) g_name (unhide G0).hg (by rw [← unhide HL]; omega)).mono ?_
  rintro e w7 ⟨rfl, S7, hd7, hs7⟩
  have z7 := hs7.size
  have G7 := hide ((unhide G0).putg ⟨[], 0⟩)
  obtain ⟨A7, hA7⟩ : ∃ A7, A7 = putF gS.data.toList ⟨[], 0⟩ A := ⟨_, rfl⟩
  rw [← hA7] at hd7 G7
  have D7 := hide hd7
  have P7 : Hid (Sep w w7 S S7) := (unhide P6).trans hs7
  clear hd7 hs7 hA7
  go_wp2_with (first | (go_at_call 14; refine (num_ok _ _ (by omega) (by omega)).mono ?_; rintro e wn ⟨rfl, hw⟩; rw [hw]; clear hw wn))
  refine (there_ok (unhide D7) (by omega) gS (by decide) g_name (unhide G7).hg).mono ?_
  rintro e w8 ⟨rfl, S8, hd8, hs8⟩
  have z8 := hs8.size
  have D8 := hide hd8
  have P8 : Hid (Sep w w8 S S8) := (unhide P7).trans hs8
  have t8 : totF A7 = t := by have := (unhide G7).ht; simp [lo] at this; exact this
  clear hd8 hs8
  go_wp2_with (first | (go_at_call 14; refine (num_ok _ _ (by omega) (by omega)).mono ?_; rintro e wn ⟨rfl, hw⟩; rw [hw]; clear hw wn))
  obtain ⟨w9, hw9⟩ : ∃ w9, w9 = w8.alloc (.cells #[.int .u8 7] 5) := ⟨_, rfl⟩
  have b9 : Below w8.heap.size w8 w9 := by rw [hw9]; exact bal (Below.refl _ _) _
  have s9 : w9.cell? ⟨w8.heap.size, 0, none⟩ = some (.int .u8 7) := by rw [hw9]; simp
  rw [← hw9]
  clear hw9
  have D9 := hide ((unhide D8).below b9)
  have z9 := b9.size
  have P9 : Hid (Sep w w9 S S8) := (unhide P8).trans (Sep.of_below S8 b9)
  clear b9
  refine (more7_ok (unhide D9) (by omega) hc1 c0 (by omega) (unhide G7).hg w8.heap.size 1 s9 (by omega) (by omega)).mono ?_
  rintro e w10 ⟨rfl, S10, hd10, hs10⟩
  have z10 := hs10.size
  have G10 := hide ((unhide G7).putg ⟨[7], 0⟩)
  obtain ⟨A10, hA10⟩ : ∃ A10, A10 = putF gS.data.toList ⟨[7], 0⟩ A7 := ⟨_, rfl⟩
  rw [← hA10] at hd10 G10
  have D10 := hide hd10
  have P10 : Hid (Sep w w10 S S10) := (unhide P9).trans hs10
  have t10 : totF A10 = t + 1 := by have := (unhide G10).ht; simp [lo] at this; exact this
  clear hd10 hs10 hA10 s9
  go_wp2_with (first | (go_at_call 14; refine (num_ok _ _ (by omega) (by omega)).mono ?_; rintro e wn ⟨rfl, hw⟩; rw [hw]; clear hw wn))
  obtain ⟨w11, hw11⟩ : ∃ w11, w11 = w10.alloc (.cells (madeCells #[.int .u8 0] (f + 1)) 5) := ⟨_, rfl⟩
  have b11 : Below w10.heap.size w10 w11 := by rw [hw11]; exact bal (Below.refl _ _) _
  have s11 : Hid (BytesAt w11 (.slice (some ⟨w10.heap.size, 0, none⟩) (f + 1) (f + 1)) (List.replicate (f + 1) 0)) := by rw [hw11]; exact made_at w10 (f + 1)
  rw [← hw11]
  clear hw11
  have D11 := hide ((unhide D10).below b11)
  have z11 := b11.size
  have P11 : Hid (Sep w w11 S S10) := (unhide P10).trans (Sep.of_below S10 b11)
  clear b11
  refine (full0_ok (unhide D11) (by omega) hc1 c0 (by omega) (unhide G10).hg w10.heap.size (f + 1) (unhide s11) (by omega) (by omega)).mono ?_
  rintro e w12 ⟨rfl, S12, hd12, hs12⟩
  have D12 := hide hd12
  have P12 : Hid (Sep w w12 S S12) := (unhide P11).trans hs12
  clear hd12 hs12 s11
  go_wp2_with (first | (go_at_call 14; refine (num_ok _ _ (by omega) (by omega)).mono ?_; rintro e wn ⟨rfl, hw⟩; rw [hw]; clear hw wn))
  refine (synd_ok (unhide D12) (by omega) gS (by decide) g_name (unhide G10).hg).mono ?_
  rintro e w13 ⟨rfl, S13, hd13, hs13⟩
  have G13 := hide ((unhide G10).putg ⟨[7], 1⟩)
  obtain ⟨A13, hA13⟩ : ∃ A13, A13 = putF gS.data.toList ⟨[7], 1⟩ A10 := ⟨_, rfl⟩
  have hd13 : DiskOK w13 d _ (Kd c (putF gS.data.toList ⟨[7], 1⟩ A10)) S13 := hd13
  rw [← hA13] at hd13 G13
  have D13 := hide hd13
  have P13 : Hid (Sep w w13 S S13) := (unhide P12).trans hs13
  clear hd13 hs13 hA13
  go_wp2_with (first | (go_at_call 14; refine (num_ok _ _ (by omega) (by omega)).mono ?_; rintro e wn ⟨rfl, hw⟩; rw [hw]; clear hw wn))
  refine (ren_ok (unhide D13) (by omega) gS wS (by decide) (by decide) g_name w_name (unhide G13).hg).mono ?_
  rintro e w14 ⟨rfl, S14, hd14, hs14⟩
  have G14 := hide ((unhide G13).delg.putw ⟨[7], 1⟩)
  obtain ⟨A14, hA14⟩ : ∃ A14, A14 = putF wS.data.toList ⟨[7], 1⟩ (delF gS.data.toList A13) := ⟨_, rfl⟩
  rw [← hA14] at hd14 G14
  have D14 := hide hd14
  have P14 : Hid (Sep w w14 S S14) := (unhide P13).trans hs14
  clear hd14 hs14 hA14
  go_wp2_with (first | (go_at_call 14; refine (num_ok _ _ (by omega) (by omega)).mono ?_; rintro e wn ⟨rfl, hw⟩; rw [hw]; clear hw wn))
  refine (renN_ok (unhide D14) (by omega) gS wS (by decide) (by decide) g_name w_name (unhide G14).hg).mono ?_
  rintro e w15 ⟨rfl, S15, hd15, hs15⟩
  have D15 := hide hd15
  have P15 : Hid (Sep w w15 S S15) := (unhide P14).trans hs15
  clear hd15 hs15
  go_wp2_with (first | (go_at_call 14; refine (num_ok _ _ (by omega) (by omega)).mono ?_; rintro e wn ⟨rfl, hw⟩; rw [hw]; clear hw wn))
  refine (sized_ok (unhide D15) wS (by decide) w_name (unhide G14).hw).mono ?_
  rintro e w16 ⟨he16, hb16⟩
  have he16 : e = .returned (.tuple #[.int .i64 1, .int .i64 0]) := he16
  subst he16
  have D16 := hide ((unhide D15).below hb16)
  have P16 : Hid (Sep w w16 S S15) := (unhide P15).trans (Sep.of_below S15 hb16)
  clear hb16
  go_wp2_with (first | (go_at_call 14; refine (num_ok _ _ (by omega) (by omega)).mono ?_; rintro e wn ⟨rfl, hw⟩; rw [hw]; clear hw wn))
  refine (rem_ok (unhide D16) (by omega) wS (by decide) w_name (unhide G14).hw).mono ?_
  rintro e w17 ⟨rfl, S17, hd17, hs17⟩
  have G17 := hide ((unhide G14).delw)
  obtain ⟨A17, hA17⟩ : ∃ A17, A17 = delF wS.data.toList A14 := ⟨_, rfl⟩
  rw [← hA17] at hd17 G17
  have D17 := hide hd17
  have P17 : Hid (Sep w w17 S S17) := (unhide P16).trans hs17
  have t17 : totF A17 = t := by have := (unhide G17).ht; simp [lo] at this; exact this
  clear hd17 hs17 hA17
  go_wp2_with (first | (go_at_call 14; refine (num_ok _ _ (by omega) (by omega)).mono ?_; rintro e wn ⟨rfl, hw⟩; rw [hw]; clear hw wn))
  refine (gone_ok (unhide D17) (by omega) wS (by decide) w_name (unhide G17).hw).mono ?_
  rintro e w18 ⟨rfl, S18, hd18, hs18⟩
  have D18 := hide hd18
  have P18 : Hid (Sep w w18 S S18) := (unhide P17).trans hs18
  clear hd18 hs18
  go_wp2_with (first | (go_at_call 14; refine (num_ok _ _ (by omega) (by omega)).mono ?_; rintro e wn ⟨rfl, hw⟩; rw [hw]; clear hw wn))
  refine (free_kd (unhide D18) hc1 f (by omega)).mono ?_
  rintro e w19 ⟨rfl, hb19⟩
  have P19 : Hid (Sep w w19 S S18) := (unhide P18).trans (Sep.of_below S18 hb19)
  clear hb19
  go_wp2_with (first | (go_at_call 14; refine (num_ok _ _ (by omega) (by omega)).mono ?_; rintro e wn ⟨rfl, hw⟩; rw [hw]; clear hw wn))
  go_ret
  exact ⟨rfl, S18, unhide P19⟩
set_option maxRecDepth 100000 in
set_option maxHeartbeats 4000000 in
theorem goes_nil {w : World} {d N : Nat} {K : Dk} {S : Nat → Prop} (h : DiskOK w d N K S) (hN : N < 800000) (hI : Inv K) (h6 : SixK K) (f : Nat) (hf : (f : Int) + (totF (crashK [] K).A : Int) = K.cap) (hp : f = 0) :
    Calls Try.prog 12 #[.pointer (some ⟨d, 0, none⟩)] w fun e w' => e = .returned (.bool true) ∧ ∃ S', Sep w w' S S' := by
  obtain ⟨c, hc⟩ : ∃ c, c = K.cap := ⟨_, rfl⟩
  obtain ⟨A, hA⟩ : ∃ A, A = (crashK [] K).A := ⟨_, rfl⟩
  have hcr : crashK [] K = Kd c A := by rw [hc, hA]; rfl
  rw [← hA, ← hc] at hf
  have hI1 : Inv (Kd c A) := by rw [← hcr]; exact hI.crash []
  have h61 : SixK (Kd c A) := by rw [← hcr]; exact six_crash h6
  have hl6 : K.A.length ≤ 6 := six_len hI.ord h6
  have hAl : A.length ≤ 6 := six_len (K := Kd c A) hI1.ord h61
  have hc1 : c ≤ 1048576 := hI1.cap1
  have G0 : Hid (Gw A none none (totF A)) := ⟨hI1.ord, six_out h61 six_g, six_out h61 six_w, by simp [lo]⟩
  have HI1 := hide hI1
  obtain ⟨t, ht⟩ : ∃ t, t = totF A := ⟨_, rfl⟩
  rw [← ht] at hf G0
  have HT := hide ht
  have HC := crash_ok h (by omega) hI none 0 [] (.inl ⟨rfl, rfl⟩) (fun q hq => by cases hq) (by decide)
  rw [hcr] at HC
  have hdl : d < w.heap.size := by obtain ⟨_, _, _, h⟩ := h; exact h.at'.lt
  obtain ⟨L, hL⟩ : ∃ L, L = A.length := ⟨_, rfl⟩
  have HL := hide hL
  rw [← hL] at hAl
  have HC := hide HC
  clear h hI h6 hI1 h61 ht hL hc hA hcr
  have c0 : (0 : Int) ≤ c := by omega
  have f0 : (0 : Int) ≤ (f : Int) := by omega
  have f1 : (f : Int) ≤ 1048576 := by omega
  have l0 : ¬ (64 : Int) ≤ (L : Int) := by omega
  have hmk := run_mk27 f (by omega)
  have fp : ¬ (0 : Int) < (f : Int) := by omega
  have fm : ∀ (W : World) (ts : Array TypeId) (t : TypeId), (Builtin.min_ ts t #[.int .i64 (f : Int), .int .i64 1]).run Try.prog W = .ok (.int .i64 0) W := fun W ts t => by rw [run_min_int2]; congr 2; split <;> omega
  have hp0 := hide hp
  clear hp
  go_enter Try.func12, Try.ntmps12
  go_wp2_with fail
  refine (unhide HC).mono ?_
  rintro e w1 ⟨⟨r, rfl⟩, S1, hd1, hs1⟩
  have z1 := hs1.size
  have D1 := hide hd1; have P1 := hide hs1
  clear hd1 hs1
  go_wp2_with fail
  refine (state_kd (unhide D1) (unhide HI1)).mono ?_
  rintro e w2 ⟨⟨p2, c2, rfl⟩, hb2⟩
  rw [← unhide HL]
  have z2 := hb2.size
  have D2 := hide ((unhide D1).below hb2)
  have P2 : Hid (Sep w w2 S S1) := (unhide P1).trans (Sep.of_below S1 hb2)
  clear hb2
  go_wp2_with fail
  obtain ⟨w3, hw3⟩ : ∃ w3, w3 = w2.alloc (.cells #[.int .i64 c, .slice p2 L c2, .int .i64 (-1), .bool false] 31) := ⟨_, rfl⟩
  have b3 : Below w2.heap.size w2 w3 := by rw [hw3]; exact bal (Below.refl _ _) _
  have s3 : w3.cell? ⟨w2.heap.size, 1, none⟩ = some (.slice p2 L c2) := by rw [hw3]; simp
  have z3 : w3.heap.size = w2.heap.size + 1 := by rw [hw3]; simp
  have n1 : Hid (¬ S1 w2.heap.size) := fun h' => by obtain ⟨_, _, _, h⟩ := unhide D2; have := h.sl _ h'; omega
  rw [← hw3]
  clear hw3
  have D3 := hide ((unhide D2).below b3)
  have P3 : Hid (Sep w w3 S S1) := (unhide P2).trans (Sep.of_below S1 b3)
  clear b3
  refine (free_kd (unhide D3) hc1 f (by rw [← unhide HT]; exact hf)).mono ?_
  rintro e w4 ⟨rfl, hb4⟩
  have z4 := hb4.size
  have s4 := keep1 hb4 (by omega) s3
  have D4 := hide ((unhide D3).below hb4)
  have P4 : Hid (Sep w w4 S S1) := (unhide P3).trans (Sep.of_below S1 hb4)
  clear hb4 s3
  go_wp2_with fail
  refine (gone_ok (unhide D4) (by omega) gS (by decide) g_name (unhide G0).hg).mono ?_
  rintro e w5 ⟨rfl, S5, hd5, hs5⟩
  have z5 := hs5.size
  have s5 := sep_ne hs5 s4 (unhide n1)
  have n5 : Hid (¬ S5 w2.heap.size) := hs5.out (unhide n1) (by omega)
  have D5 := hide hd5
  have P5 : Hid (Sep w w5 S S5) := (unhide P4).trans hs5
  clear hd5 hs5 s4
  go_wp2_with fail
  refine (gone_ok (unhide D5) (by omega) wS (by decide) w_name (unhide G0).hw).mono ?_
  rintro e w6 ⟨rfl, S6, hd6, hs6⟩
  have z6 := hs6.size
  have s6 := sep_ne hs6 s5 (unhide n5)
  have D6 := hide hd6
  have P6 : Hid (Sep w w6 S S6) := (unhide P5).trans hs6
  clear hd6 hs6 s5
  go_wp2_with (first | (go_at_call 14; refine (num_ok _ _ (by omega) (by omega)).mono ?_; rintro e wn ⟨rfl, hw⟩; rw [hw]; clear hw wn))
  refine (make_ok (unhide D6) (by omega) gS (by decide) g_name (unhide G0).hg (by rw [← unhide HL]; omega)).mono ?_
  rintro e w7 ⟨rfl, S7, hd7, hs7⟩
  have z7 := hs7.size
  have G7 := hide ((unhide G0).putg ⟨[], 0⟩)
  obtain ⟨A7, hA7⟩ : ∃ A7, A7 = putF gS.data.toList ⟨[], 0⟩ A := ⟨_, rfl⟩
  rw [← hA7] at hd7 G7
  have D7 := hide hd7
  have P7 : Hid (Sep w w7 S S7) := (unhide P6).trans hs7
  clear hd7 hs7 hA7
  go_wp2_with (first | (go_at_call 14; refine (num_ok _ _ (by omega) (by omega)).mono ?_; rintro e wn ⟨rfl, hw⟩; rw [hw]; clear hw wn))
  refine (there_ok (unhide D7) (by omega) gS (by decide) g_name (unhide G7).hg).mono ?_
  rintro e w8 ⟨rfl, S8, hd8, hs8⟩
  have z8 := hs8.size
  have D8 := hide hd8
  have P8 : Hid (Sep w w8 S S8) := (unhide P7).trans hs8
  have t8 : totF A7 = t := by have := (unhide G7).ht; simp [lo] at this; exact this
  clear hd8 hs8
  go_wp2_with (first | (go_at_call 14; refine (num_ok _ _ (by omega) (by omega)).mono ?_; rintro e wn ⟨rfl, hw⟩; rw [hw]; clear hw wn))
  obtain ⟨w10, hw10⟩ : ∃ w10, w10 = w8 := ⟨_, rfl⟩
  obtain ⟨A10, hA10⟩ : ∃ A10, A10 = A7 := ⟨_, rfl⟩
  have z10 := z8
  have t10 := t8
  have G10 := G7
  have D10 := D8
  have P10 := P8
  obtain ⟨S10, hS10⟩ : ∃ S10, S10 = S8 := ⟨_, rfl⟩
  rw [← hS10] at D10 P10
  clear hS10
  rw [← hw10] at z10 D10 P10 ⊢
  rw [← hA10] at t10 G10 D10
  clear hw10 hA10
  obtain ⟨w11, hw11⟩ : ∃ w11, w11 = w10.alloc (.cells (madeCells #[.int .u8 0] (f + 1)) 5) := ⟨_, rfl⟩
  have b11 : Below w10.heap.size w10 w11 := by rw [hw11]; exact bal (Below.refl _ _) _
  have s11 : Hid (BytesAt w11 (.slice (some ⟨w10.heap.size, 0, none⟩) (f + 1) (f + 1)) (List.replicate (f + 1) 0)) := by rw [hw11]; exact made_at w10 (f + 1)
  rw [← hw11]
  clear hw11
  have D11 := hide ((unhide D10).below b11)
  have z11 := b11.size
  have P11 : Hid (Sep w w11 S S10) := (unhide P10).trans (Sep.of_below S10 b11)
  clear b11
  refine (full0_ok (unhide D11) (by omega) hc1 c0 (by omega) (unhide G10).hg w10.heap.size (f + 1) (unhide s11) (by omega) (by omega)).mono ?_
  rintro e w12 ⟨rfl, S12, hd12, hs12⟩
  have D12 := hide hd12
  have P12 : Hid (Sep w w12 S S12) := (unhide P11).trans hs12
  clear hd12 hs12 s11
  go_wp2_with (first | (go_at_call 14; refine (num_ok _ _ (by omega) (by omega)).mono ?_; rintro e wn ⟨rfl, hw⟩; rw [hw]; clear hw wn))
  refine (synd_ok (unhide D12) (by omega) gS (by decide) g_name (unhide G10).hg).mono ?_
  rintro e w13 ⟨rfl, S13, hd13, hs13⟩
  have G13 := hide ((unhide G10).putg ⟨[], 0⟩)
  obtain ⟨A13, hA13⟩ : ∃ A13, A13 = putF gS.data.toList ⟨[], 0⟩ A10 := ⟨_, rfl⟩
  have hd13 : DiskOK w13 d _ (Kd c (putF gS.data.toList ⟨[], 0⟩ A10)) S13 := hd13
  rw [← hA13] at hd13 G13
  have D13 := hide hd13
  have P13 : Hid (Sep w w13 S S13) := (unhide P12).trans hs13
  clear hd13 hs13 hA13
  go_wp2_with (first | (go_at_call 14; refine (num_ok _ _ (by omega) (by omega)).mono ?_; rintro e wn ⟨rfl, hw⟩; rw [hw]; clear hw wn))
  refine (ren_ok (unhide D13) (by omega) gS wS (by decide) (by decide) g_name w_name (unhide G13).hg).mono ?_
  rintro e w14 ⟨rfl, S14, hd14, hs14⟩
  have G14 := hide ((unhide G13).delg.putw ⟨[], 0⟩)
  obtain ⟨A14, hA14⟩ : ∃ A14, A14 = putF wS.data.toList ⟨[], 0⟩ (delF gS.data.toList A13) := ⟨_, rfl⟩
  rw [← hA14] at hd14 G14
  have D14 := hide hd14
  have P14 : Hid (Sep w w14 S S14) := (unhide P13).trans hs14
  clear hd14 hs14 hA14
  go_wp2_with (first | (go_at_call 14; refine (num_ok _ _ (by omega) (by omega)).mono ?_; rintro e wn ⟨rfl, hw⟩; rw [hw]; clear hw wn))
  refine (renN_ok (unhide D14) (by omega) gS wS (by decide) (by decide) g_name w_name (unhide G14).hg).mono ?_
  rintro e w15 ⟨rfl, S15, hd15, hs15⟩
  have D15 := hide hd15
  have P15 : Hid (Sep w w15 S S15) := (unhide P14).trans hs15
  clear hd15 hs15
  go_wp2_with (first | (go_at_call 14; refine (num_ok _ _ (by omega) (by omega)).mono ?_; rintro e wn ⟨rfl, hw⟩; rw [hw]; clear hw wn))
  refine (sized_ok (unhide D15) wS (by decide) w_name (unhide G14).hw).mono ?_
  rintro e w16 ⟨he16, hb16⟩
  have he16 : e = .returned (.tuple #[.int .i64 0, .int .i64 0]) := he16
  subst he16
  have D16 := hide ((unhide D15).below hb16)
  have P16 : Hid (Sep w w16 S S15) := (unhide P15).trans (Sep.of_below S15 hb16)
  clear hb16
  go_wp2_with (first | (go_at_call 14; refine (num_ok _ _ (by omega) (by omega)).mono ?_; rintro e wn ⟨rfl, hw⟩; rw [hw]; clear hw wn))
  refine (rem_ok (unhide D16) (by omega) wS (by decide) w_name (unhide G14).hw).mono ?_
  rintro e w17 ⟨rfl, S17, hd17, hs17⟩
  have G17 := hide ((unhide G14).delw)
  obtain ⟨A17, hA17⟩ : ∃ A17, A17 = delF wS.data.toList A14 := ⟨_, rfl⟩
  rw [← hA17] at hd17 G17
  have D17 := hide hd17
  have P17 : Hid (Sep w w17 S S17) := (unhide P16).trans hs17
  have t17 : totF A17 = t := by have := (unhide G17).ht; simp [lo] at this; exact this
  clear hd17 hs17 hA17
  go_wp2_with (first | (go_at_call 14; refine (num_ok _ _ (by omega) (by omega)).mono ?_; rintro e wn ⟨rfl, hw⟩; rw [hw]; clear hw wn))
  refine (gone_ok (unhide D17) (by omega) wS (by decide) w_name (unhide G17).hw).mono ?_
  rintro e w18 ⟨rfl, S18, hd18, hs18⟩
  have D18 := hide hd18
  have P18 : Hid (Sep w w18 S S18) := (unhide P17).trans hs18
  clear hd18 hs18
  go_wp2_with (first | (go_at_call 14; refine (num_ok _ _ (by omega) (by omega)).mono ?_; rintro e wn ⟨rfl, hw⟩; rw [hw]; clear hw wn))
  refine (free_kd (unhide D18) hc1 f (by omega)).mono ?_
  rintro e w19 ⟨rfl, hb19⟩
  have P19 : Hid (Sep w w19 S S18) := (unhide P18).trans (Sep.of_below S18 hb19)
  clear hb19
  go_wp2_with (first | (go_at_call 14; refine (num_ok _ _ (by omega) (by omega)).mono ?_; rintro e wn ⟨rfl, hw⟩; rw [hw]; clear hw wn))
  go_ret
  exact ⟨rfl, S18, unhide P19⟩
theorem goes_ok {w : World} {d N : Nat} {K : Dk} {S : Nat → Prop} (h : DiskOK w d N K S) (hN : N < 800000) (hI : Inv K) (h6 : SixK K) :
    Calls Try.prog 12 #[.pointer (some ⟨d, 0, none⟩)] w fun e w' => e = .returned (.bool true) ∧ ∃ S', Sep w w' S S' := by
  have ht := (hI.crash []).tot
  have hc : (crashK [] K).cap = K.cap := rfl
  rw [hc] at ht
  obtain ⟨f, hf⟩ : ∃ f : Nat, (f : Int) + (totF (crashK [] K).A : Int) = K.cap := ⟨(K.cap - (totF (crashK [] K).A : Int)).toNat, by omega⟩
  rcases Nat.eq_zero_or_pos f with h0 | h0
  · exact goes_nil h hN hI h6 f hf h0
  · exact goes_pos h hN hI h6 f hf h0
end Go.Proofs.Ytpeohbkigkfcgaa
