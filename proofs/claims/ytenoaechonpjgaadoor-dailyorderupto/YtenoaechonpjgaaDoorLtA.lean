/- DailyLater (3): its walk. -/
import Derived.Test.YtenoaechonpjgaaDoorBkA
namespace Go.Proofs.YtenoaechonpjgaaDoor
open Go Go.Shelf Go.ChangeShapes Go.WideShapes Go.ChangeAt Go.RowKit Go.Maps Go.Sort
set_option linter.unusedVariables false
attribute [local go_sem ↓] ld24_is
/-- the block of one row -/
def oneR (r : Ro) : Obj := .cells #[.int .i64 r.i0, .int .i64 r.i1, .int .i64 r.day, .int .i64 r.i3, .string r.s4, .string r.acc, .int .i64 r.amt, .string r.s7, .string r.s8] 24
theorem tol_else {r : Ro} {k : List UInt8} (h : r.acc.data.toList ≠ k) : tol [r] k = [] := by
  rw [tol_cons, if_neg h]; rfl
theorem blc_more {R : List Ro} {r : Ro} {k : List UInt8} (day : Int) : blc (tol (R ++ [r]) k) day = blc (tol R k) day + (if r.acc.data.toList = k then (if r.day ≤ day then r.amt else 0) else 0) := by
  rw [tol_append, blc_append, tol_cons]
  by_cases h : r.acc.data.toList = k
  · rw [if_pos h, if_pos h]
    have e : blc ([(r.day, r.amt)] ++ tol [] k) day = (if decide (r.day ≤ day) = true then r.amt else 0) + 0 := rfl
    rw [e]
    by_cases h2 : r.day ≤ day
    · rw [if_pos (by simpa using h2), if_pos h2]; omega
    · rw [if_neg (by simpa using h2), if_neg h2]; omega
  · rw [if_neg h, if_neg h]
    rfl
theorem Vw.grown {W W' : World} {B d : Nat} {R : List Ro} {r : Nat} (h : Vw W B d R) (hg : W.grownBy W' (some r)) (hr : r < B) (hrd : r ≠ d) : Vw W' B d R := by
  obtain ⟨n, mo, F, V, hD, hn⟩ := h.dv
  refine ⟨⟨n, mo, F, V, ⟨⟨(hg.block d (Nat.lt_of_lt_of_le hD.at'.2.1 h.le) (fun e => hrd (Option.some.inj e).symm)).trans hD.at'.1, hD.at'.2.1, ?_⟩, hD.ser, hD.fit⟩, hn⟩, Nat.le_trans h.le hg.size, h.ok, h.can⟩
  rcases hD.at'.2.2 with h1 | ⟨b, D, e, hb', hA⟩
  · exact .inl h1
  · exact .inr ⟨b, D, e, hb', ⟨hA.map.kept hg (fun e => by have := Option.some.inj e; omega), hA.val, hA.key, (fun k => row_keep (hA.row k) fun g hgv => hg.block g (row_block (hA.row k) hgv).2.1 (fun e => by have := Option.some.inj e; have := (row_block (hA.row k) hgv).1; omega)), hA.nil, hA.apart⟩⟩
theorem set_grown (w : World) (a : Addr) (u : Value) : w.grownBy (w.setCell a u) (some a.block) :=
  ⟨rfl, rfl, rfl, by simp, fun k hk hne => Below.heap_setCell _ _ _ _ (fun e => hne (by rw [e]))⟩
theorem one_map (r : Ro) : [r].map bRo = [bRo r] := rfl
set_option maxRecDepth 100000 in
set_option maxHeartbeats 8000000 in
theorem later_walk (R0 : List Ro) (h0 : Can R0) (hl0 : R0.length ≤ 1048576) (pu : Option Addr) (cu : Nat) (r : Ro) (hr : Can [r]) (s : ByteArray) (hs : s.size < 4611686018427387904) (day : Int) (hday : -9223372036854775808 ≤ day ∧ day ≤ 9223372036854775807) (w : World) (hcu : pu = none → cu = 0) (hI0 : Lies kR w pu R0) :
    Calls Tryd.prog 3 #[.slice pu R0.length cu, .agg #[.int .i64 r.i0, .int .i64 r.i1, .int .i64 r.day, .int .i64 r.i3, .string r.s4, .string r.acc, .int .i64 r.amt, .string r.s7, .string r.s8], .string s, .int .i64 day] w fun e w' => e = .returned (.bool true) ∧ Below w.heap.size w w' := by
  have H0 := hide h0; have HI0 := hide hI0; have HCU := hide hcu; have HR := hide hr; have HS := hide hs
  obtain ⟨N0, hN0⟩ : ∃ N, N = R0.length := ⟨_, rfl⟩
  rw [← hN0] at hl0 ⊢
  have HN0 := hide hN0
  clear hcu hI0 hN0 h0 hr hs
  obtain ⟨A, hA⟩ : ∃ A, A = Obj.cells #[.int .i64 r.i0, .int .i64 r.i1, .int .i64 r.day, .int .i64 r.i3, .string r.s4, .string r.acc, .int .i64 r.amt, .string r.s7, .string r.s8] 24 := ⟨_, rfl⟩
  obtain ⟨W, hW⟩ : ∃ W, W = w.alloc A := ⟨_, rfl⟩
  have hbW : Below w.heap.size w W := by rw [hW]; exact bal (Below.refl _ _) _
  have hrA : W.rangeAt w.heap.size 0 r.vals := fun j u hu => by
    rw [hW, hA, World.cell?_alloc_mark, Nat.zero_add]
    simpa [Ro.vals] using hu
  have hfz : ∀ j, W.frozen? ⟨w.heap.size, j, none⟩ = false := fun j => by rw [hW, hA]; simp
  have hWs : W.heap.size = w.heap.size + 1 := by rw [hW]; simp
  have dF := hide (first_any W)
  have HBW := hide hbW; have HRA := hide hrA; have HWS := hide hWs; have HFZ := hide hfz
  clear hbW hrA hWs hfz
  subst hW hA
  go_enter Tryd.func3, Tryd.ntmps3
  go_wp2_with fail
  refine (unhide dF).mono ?_
  rintro e w1 ⟨rfl, hb1⟩
  obtain ⟨W, hW⟩ : ∃ W, W = w.alloc (Obj.cells #[.int .i64 r.i0, .int .i64 r.i1, .int .i64 r.day, .int .i64 r.i3, .string r.s4, .string r.acc, .int .i64 r.amt, .string r.s7, .string r.s8] 24) := ⟨_, rfl⟩
  rw [← hW] at hb1 HBW HRA HWS HFZ
  obtain ⟨O2, hO2⟩ : ∃ O, O = Obj.cells #[.map none] 48 := ⟨_, rfl⟩
  have dN := hide (new_any w1)
  rw [← hO2] at dN
  have hV2 : Vw (w1.alloc O2) (w1.heap.size + 1) w1.heap.size [] := by rw [hO2]; exact Vw.made w1
  have hB2 : Below W.heap.size W (w1.alloc O2) := hb1.alloc hb1.size O2
  have hs2 : (w1.alloc O2).heap.size = w1.heap.size + 1 := by simp
  obtain ⟨w2, hw2⟩ : ∃ w2, w2 = w1.alloc O2 := ⟨_, rfl⟩
  rw [← hw2] at hV2 hB2 hs2 dN
  obtain ⟨p3, c3, w3, hap, hR3, hb3⟩ := run_copy (W := w2) 22 pu cu R0 (unhide HCU) (((unhide HI0).below (unhide HBW)).below hB2) (by have := unhide HN0; omega)
  have hV3 := hV2.below hb3
  have hL3 := own_lies kR_ok rfl hR3
  rw [← unhide HN0] at hap
  have dA := hide (apply_vw (cR := c3) hV3 (by simp) (unhide HN0).symm (by omega) hL3 (unhide H0))
  have hz1 := hb1.size
  have HAP := hide hap; have HB2 := hide hB2; have HB3 := hide hb3; have HZ1 := hide hz1; have HS2 := hide hs2
  clear hap hB2 hb3 hV3 hV2 hz1 hs2 hR3 hL3 hb1 hw2 hO2 dF
  clear hW
  go_wp2_with fail
  refine (unhide dN).mono ?_
  rintro e wx ⟨rfl, hw⟩
  rw [hw]
  clear hw wx dN
  go_wp2_with (at_builtin; refine wpList_append_runG rfl _ _ 22 rfl _ _ _ _ rfl rfl (unhide HAP) ?_)
  refine (unhide dA).mono ?_
  rintro e w4 hO
  have hB3 : Below W.heap.size W w3 := (unhide HB2).trans ((unhide HB3).mono (by have := unhide HS2; have := unhide HZ1; omega))
  have hz3 : w1.heap.size + 1 ≤ w3.heap.size := by have := unhide HS2; have := (unhide HB3).size; omega
  have HFIN : Hid (∀ w', Below W.heap.size W w' → Below w.heap.size w w') := fun w' h => (unhide HBW).trans (h.mono (by have := unhide HWS; omega))
  rcases hO with ⟨hno, ⟨x, rfl, hx⟩, hb4⟩ | ⟨hok0, rfl, hV4, hfr4⟩
  · have HB4 := hide (unhide HFIN w4 (hB3.trans (hb4.mono (by have := unhide HZ1; omega))))
    have hxb : (x != 0) = true := by rcases hx with rfl | rfl <;> rfl
    have hxb2 : (x == 0) = false := by rcases hx with rfl | rfl <;> rfl
    clear hb4 hno hx hB3 hz3
    go_wp2_with fail
    go_ret
    exact ⟨rfl, unhide HB4⟩
  rw [List.nil_append] at hV4
  have hB4 : Below W.heap.size W w4 := hB3.trans ((hfr4.below hz3 (by omega)).mono (unhide HZ1))
  have hd4 : w1.heap.size + 1 ≤ w4.heap.size := Nat.le_trans hz3 hfr4.size
  have hlR : R0.length ≤ 137438953472 := by rw [← unhide HN0]; omega
  have dS := hide (state_vw hV4 hlR)
  have HV4 := hide hV4; have HB4 := hide hB4; have HD4 := hide hd4
  have HD4' := hide hd4
  clear hV4 hB4 hok0 hd4 hz3 hB3 hfr4 dA HAP HB2 HB3
  go_wp2_with fail
  refine (unhide dS).mono ?_
  rintro e w5 ⟨L, p5, c5, hst, rfl, hrow5, hb5⟩
  have hV5 := (unhide HV4).below hb5
  have hB5 : Below W.heap.size W w5 := (unhide HB4).trans (hb5.mono (unhide HB4).size)
  have hd5 : w1.heap.size + 1 ≤ w5.heap.size := Nat.le_trans (unhide HD4) hb5.size
  have hlL := hst.len
  rw [← unhide HN0] at hlL
  obtain ⟨nL, hnL⟩ : ∃ n, n = L.length := ⟨_, rfl⟩
  rw [← hnL] at hlL ⊢
  have HNL := hide hnL
  have dT := hide (at_vw hV5 hlR (unhide HS) day)
  obtain ⟨X, hX⟩ : ∃ X, X = blc (tol R0 s.data.toList) day := ⟨_, rfl⟩
  rw [← hX] at dT
  have HX := hide hX
  have HV5 := hide hV5; have HROW5 := hide hrow5; have HB5 := hide hB5; have HST := hide hst; have HD5 := hide hd5; have HLR := hide hlR
  clear hV5 hrow5 hB5 hst hb5 hd5 dS hnL hX hlR
  go_wp2_with fail
  refine (unhide dT).mono ?_
  rintro e w6 ⟨rfl, hb6⟩
  have hV6 := (unhide HV5).below hb6
  have hB6 : Below W.heap.size W w6 := (unhide HB5).trans (hb6.mono (unhide HB5).size)
  have hd6 : w1.heap.size + 1 ≤ w6.heap.size := Nat.le_trans (unhide HD5) hb6.size
  have hrow6 := row_keep (unhide HROW5) (W' := w6) (fun g hg => hb6.block g (row_block (unhide HROW5) hg).2.1)
  have hcA6 : w6.cell? ⟨w.heap.size, 5, none⟩ = some (.string r.acc) := (hB6.cell (p := ⟨w.heap.size, 5, none⟩) (by have := unhide HWS; simp; omega)).trans (unhide HRA 5 _ rfl)
  have hacc : r.acc.size < 4611686018427387904 := (unhide HR).acc r List.mem_cons_self
  have dT2 := hide (at_vw hV6 (unhide HLR) hacc day)
  obtain ⟨Y, hY⟩ : ∃ Y, Y = blc (tol R0 r.acc.data.toList) day := ⟨_, rfl⟩
  rw [← hY] at dT2
  have HY := hide hY
  have HV6 := hide hV6; have HROW6 := hide hrow6; have HB6 := hide hB6; have HD6 := hide hd6; have HACC := hide hacc
  clear hV6 hrow6 hB6 hb6 hd6 dT hY hacc HV4 HB4 HD4 HV5 HB5 HD5 HROW5
  go_wp2_with fail
  refine (unhide dT2).mono ?_
  rintro e w7 ⟨rfl, hb7⟩
  have hV7 := (unhide HV6).below hb7
  have hB7 : Below W.heap.size W w7 := (unhide HB6).trans (hb7.mono (unhide HB6).size)
  have hd7 : w1.heap.size + 1 ≤ w7.heap.size := Nat.le_trans (unhide HD6) hb7.size
  have hrow7 := row_keep (unhide HROW6) (W' := w7) (fun g hg => hb7.block g (row_block (unhide HROW6) hg).2.1)
  have hr7 : w7.rangeAt w.heap.size 0 r.vals := fun j u hu => (hB7.cell (p := ⟨w.heap.size, 0 + j, none⟩) (by have := unhide HWS; simp; omega)).trans (unhide HRA j u hu)
  have hld := run_ld24 hr7
  obtain ⟨A, hA⟩ : ∃ A, A = Obj.cells #[.int .i64 r.i0, .int .i64 r.i1, .int .i64 r.day, .int .i64 r.i3, .string r.s4, .string r.acc, .int .i64 r.amt, .string r.s7, .string r.s8] 24 := ⟨_, rfl⟩
  obtain ⟨w8, hw8⟩ : ∃ w8, w8 = w7.alloc A := ⟨_, rfl⟩
  have hb8 : Below w7.heap.size w7 w8 := by rw [hw8]; exact bal (Below.refl _ _) A
  have hL8 : Lies kR w8 (some ⟨w7.heap.size, 0, none⟩) [r] := by
    rw [hw8, hA]
    exact one_lies w7 r 24 _ rfl
  have hV8 := hV7.below hb8
  have hB8 : Below W.heap.size W w8 := hB7.trans (hb8.mono hB7.size)
  have hd8 : w1.heap.size + 1 ≤ w8.heap.size := Nat.le_trans hd7 hb8.size
  have hrow8 := row_keep hrow7 (W' := w8) (fun g hg => hb8.block g (row_block hrow7 hg).2.1)
  have dA := hide (apply_vw (cR := 1) (N := 1) hV8 (unhide HLR) rfl (by decide) hL8 (unhide HR))
  have HV8 := hide hV8; have HB8 := hide hB8; have HD8 := hide hd8; have HROW8 := hide hrow8
  clear hV7 hB7 hd7 hrow7 hr7 hb7 hb8 hL8 hV8 hB8 hd8 hrow8 dT2 hcA6 HV6 HB6 HD6 HROW6
  subst hw8 hA
  go_wp2_with fail
  refine (unhide dA).mono ?_
  rintro e w9 hO
  obtain ⟨w8, hw8⟩ : ∃ w8, w8 = w7.alloc (Obj.cells #[.int .i64 r.i0, .int .i64 r.i1, .int .i64 r.day, .int .i64 r.i3, .string r.s4, .string r.acc, .int .i64 r.amt, .string r.s7, .string r.s8] 24) := ⟨_, rfl⟩
  rw [← hw8] at hO HV8 HB8 HD8 HROW8
  clear hw8
  rcases hO with ⟨hno, ⟨x, rfl, hx⟩, hb9⟩ | ⟨hok1, rfl, hV9, hfr9⟩
  · have hV9 := (unhide HV8).below hb9
    have dS := hide (state_vw hV9 (unhide HLR))
    have hs9 := row_keep (unhide HROW8) (W' := w9) (fun g hg => hb9.block g (row_block (unhide HROW8) hg).2.1)
    have hB9 : Below W.heap.size W w9 := (unhide HB8).trans (hb9.mono (unhide HB8).size)
    have hxb : (x != 0) = true := by rcases hx with rfl | rfl <;> rfl
    have hxb2 : (x == 0) = false := by rcases hx with rfl | rfl <;> rfl
    have HS9 := hide hs9; have HB9 := hide hB9
    clear hb9 hV9 hs9 hB9 hno hx dA hld
    go_wp2_with fail
    refine (unhide dS).mono ?_
    rintro e w10 ⟨L9, p9, c9, hst9, rfl, hrow9, hb10⟩
    have hs10 := row_keep (unhide HS9) (W' := w10) (fun g hg => hb10.block g (row_block (unhide HS9) hg).2.1)
    have eL : L9 = L := hst9.same (unhide HST) (fun _ _ => rfl)
    subst eL
    have dE := hide (same_any (c1 := c5) (c2 := c9) (unhide HNL).symm (by omega) (own_lies kD_ok rfl hs10) (own_lies kD_ok rfl hrow9))
    have HB10 := hide ((unhide HB9).trans (hb10.mono (unhide HB9).size))
    rw [← unhide HNL]
    clear hrow9 hb10 hs10 hst9 dS
    go_wp2_with fail
    refine (unhide dE).mono ?_
    rintro e wx ⟨rfl, m, hw⟩
    have HBX : Hid (Below w.heap.size w wx) := unhide HFIN _ (by rw [hw]; exact below_drewN (unhide HB10) m)
    clear hw
    go_wp2_with fail
    go_ret
    exact ⟨rfl, unhide HBX⟩
  have hB9 : Below W.heap.size W w9 := (unhide HB8).trans ((hfr9.below (unhide HD8) (by omega)).mono (unhide HZ1))
  have hs9 := hfr9.rowV (unhide HV8) (unhide HROW8) (by decide) (by decide)
  have hd9 : w1.heap.size + 1 ≤ w9.heap.size := Nat.le_trans (unhide HD8) hfr9.size
  have hr9 : w9.rangeAt w.heap.size 0 r.vals := fun j u hu => (hB9.cell (p := ⟨w.heap.size, 0 + j, none⟩) (by have := unhide HWS; simp; omega)).trans (unhide HRA j u hu)
  have hc2 : w9.cell? ⟨w.heap.size, 2, none⟩ = some (.int .i64 r.day) := by have := hr9 2 _ rfl; rwa [Nat.zero_add] at this
  have hc5 : w9.cell? ⟨w.heap.size, 5, none⟩ = some (.string r.acc) := by have := hr9 5 _ rfl; rwa [Nat.zero_add] at this
  have hc6 : w9.cell? ⟨w.heap.size, 6, none⟩ = some (.int .i64 r.amt) := by have := hr9 6 _ rfl; rwa [Nat.zero_add] at this
  have HV9 := hide hV9; have HB9 := hide hB9; have HS9 := hide hs9; have HD9 := hide hd9; have HR9 := hide hr9; have HOK1 := hide hok1
  have hlR1 : (R0 ++ [r]).length ≤ 137438953472 := by rw [List.length_append, ← unhide HN0]; simp; omega
  have hamt := (unhide HR).amt r List.mem_cons_self
  have hfit := hV9.fit r.acc.data.toList day
  rw [blc_more, if_pos rfl, ← unhide HY] at hfit
  have hfb := hfit.2
  have hfit0 := ((unhide HV8).fit r.acc.data.toList day).2
  rw [← unhide HY] at hfit0
  have HFIT0 : Hid (∀ k, fitT (tol R0 k)) := (unhide HV8).fit
  clear hV9 hB9 hs9 hd9 hr9 hok1 hfr9 dA hld hfit HV8 HB8 HD8 HROW8
  have dT := hide (at_vw (unhide HV9) hlR1 (unhide HS) day)
  have hXs : r.acc.data.toList ≠ s.data.toList → blc (tol (R0 ++ [r]) s.data.toList) day = X := fun h => by
    rw [blc_more, if_neg h, unhide HX]
    omega
  obtain ⟨by', hby⟩ : ∃ x, x = (if r.day ≤ day then r.amt else 0) := ⟨_, rfl⟩
  rw [← hby] at hfb
  have HT2 : Hid (∀ w', Vw w' (w1.heap.size + 1) w1.heap.size (R0 ++ [r]) → Calls Tryd.prog 11 #[.pointer (some ⟨w1.heap.size, 0, none⟩), .string r.acc, .int .i64 day] w' fun e w'' => e = .returned (.int .i64 (Y + by')) ∧ Below w'.heap.size w' w'') := fun w' hV' => by
    have h := at_vw hV' hlR1 (unhide HACC) day
    rw [blc_more, if_pos rfl, ← unhide HY, ← hby] at h
    exact h
  have hwr : IntKind.i64.wrap (Y + by') = Y + by' := by
    rw [IntKind.wrap_i64]
    unfold isA at hfb
    omega
  have HLR1 := hide hlR1; have HXS := hide hXs; have HFB := hide hfb
  clear hlR1 hXs hfb hfit0
  -- what stands behind the region 13: from there on all goes one way
  have HREST : Hid (∀ w', Vw w' (w1.heap.size + 1) w1.heap.size (R0 ++ [r]) → Below w9.heap.size w9 w' → Hid (w'.cell? ⟨w.heap.size, 6, none⟩ = some (.int .i64 r.amt)) ∧ Hid (w'.rangeAt w.heap.size 0 r.vals) ∧ Hid (Below W.heap.size W w') ∧ Hid (w1.heap.size + 1 ≤ w'.heap.size)) := fun w' hV' hb' => by
    have hlt : w.heap.size < w9.heap.size := by have := unhide HWS; have := unhide HZ1; have := unhide HD9; omega
    exact ⟨(hb'.cell (p := ⟨w.heap.size, 6, none⟩) hlt).trans hc6, fun j u hu => (hb'.cell (p := ⟨w.heap.size, 0 + j, none⟩) hlt).trans (unhide HR9 j u hu), (unhide HB9).trans (hb'.mono (unhide HB9).size), Nat.le_trans (unhide HD9) hb'.size⟩
  by_cases hge : r.day ≤ day
  · rw [if_pos hge] at hby
    subst hby
    by_cases hnm : s.toList = r.acc.toList
    · have hse : (s.toList == r.acc.toList) = true := by simpa using hnm
      clear dT HXS
      go_wp2_with fail
      refine (unhide HT2 w9 (unhide HV9)).mono ?_
      rintro e w10 ⟨rfl, hb10⟩
      have V10 := (unhide HV9).below hb10; have B10 := hb10
      obtain ⟨hc6', hr', hB10, hd10⟩ := unhide HREST _ V10 B10
      have hs10 := row_keep (unhide HS9) (W' := w10) (fun g hg => B10.block g (row_block (unhide HS9) hg).2.1)
      have hcs : w10.cell? ⟨w.heap.size, 6, none⟩ = some (.int .i64 r.amt) := unhide hc6'
      have hwl : w.heap.size < w1.heap.size := by have := unhide HWS; have := unhide HZ1; omega
      have hfz10 : w10.frozen? ⟨w.heap.size, 6, none⟩ = false := ((unhide hB10).frozen (p := ⟨w.heap.size, 6, none⟩) (by have := unhide HWS; simp; omega)).trans (unhide HFZ 6)
      obtain ⟨Z, hZ⟩ : ∃ Z, IntKind.i64.wrap (-r.amt) = Z := ⟨_, rfl⟩
      obtain ⟨w11, hw11⟩ : ∃ w11, w11 = w10.setCell ⟨w.heap.size, 6, none⟩ (.int .i64 Z) := ⟨_, rfl⟩
      have hg11 : w10.grownBy w11 (some w.heap.size) := by rw [hw11]; exact set_grown _ _ _
      have hV11 := V10.grown hg11 (by omega) (by omega)
      have hz11 : w11.heap.size = w10.heap.size := by rw [hw11]; simp
      have hr11 : w11.rangeAt w.heap.size 0 (bRo r).vals := fun j u hu => by
        by_cases hj : j = 6
        · subst hj
          have e : u = .int .i64 Z := by
            have h : (bRo r).vals[6]? = some (.int .i64 (IntKind.i64.wrap (-r.amt))) := rfl
            rw [h, hZ] at hu
            exact (Option.some.inj hu).symm
          rw [e, hw11]
          exact World.cell?_setCell_same _ _ _ hcs
        · have e : r.vals[j]? = some u := by
            have hj9 : j < 9 := (List.getElem?_eq_some_iff.1 hu).1
            have hj' : j = 0 ∨ j = 1 ∨ j = 2 ∨ j = 3 ∨ j = 4 ∨ j = 5 ∨ j = 7 ∨ j = 8 := by omega
            rcases hj' with rfl | rfl | rfl | rfl | rfl | rfl | rfl | rfl <;> exact hu
          rw [hw11, World.cell?_setCell_other _ _ _ _ (fun e => hj (by injection e with _ e; omega))]
          exact unhide hr' j u e
      have hld := run_ld24 hr11
      have eZ : (bRo r).amt = Z := hZ
      rw [eZ] at hld
      obtain ⟨A, hA⟩ : ∃ A, A = Obj.cells #[.int .i64 r.i0, .int .i64 r.i1, .int .i64 r.day, .int .i64 r.i3, .string r.s4, .string r.acc, .int .i64 Z, .string r.s7, .string r.s8] 24 := ⟨_, rfl⟩
      have hL12 : Lies kR (w11.alloc A) (some ⟨w11.heap.size, 0, none⟩) [bRo r] := by
        rw [hA]
        refine one_lies w11 (bRo r) 24 _ ?_
        show [Value.int .i64 r.i0, .int .i64 r.i1, .int .i64 r.day, .int .i64 r.i3, .string r.s4, .string r.acc, .int .i64 Z, .string r.s7, .string r.s8] = [Value.int .i64 r.i0, .int .i64 r.i1, .int .i64 r.day, .int .i64 r.i3, .string r.s4, .string r.acc, .int .i64 (IntKind.i64.wrap (-r.amt)), .string r.s7, .string r.s8]
        rw [hZ]
      have hb12 : Below w11.heap.size w11 (w11.alloc A) := bal (Below.refl _ _) A
      have hV12 := hV11.below hb12
      have hs11 := row_keep hs10 (W' := w11) (fun g hg => hg11.block g (row_block hs10 hg).2.1 (fun e => by have := Option.some.inj e; have := (row_block (unhide HS9) hg).1; have := unhide HD4'; omega))
      have hs12 := row_keep hs11 (W' := w11.alloc A) (fun g hg => hb12.block g (row_block hs11 hg).2.1)
      have hB11 : Below w.heap.size w w11 := by
        have h := unhide HFIN _ (unhide hB10)
        exact ⟨hg11.os.trans h.os, hg11.tape.trans h.tape, hg11.output.trans h.output, Nat.le_trans h.size hg11.size, fun k hk => (hg11.block k (Nat.lt_of_lt_of_le hk h.size) (fun e => by have := Option.some.inj e; omega)).trans (h.block k hk)⟩
      have hB12 : Below w.heap.size w (w11.alloc A) := hB11.trans (hb12.mono hB11.size)
      have hd12 : w1.heap.size + 1 ≤ (w11.alloc A).heap.size := by have := unhide hd10; simp; omega
      have dA := hide (apply_vw (cR := 1) (N := 1) hV12 (unhide HLR1) rfl (by decide) hL12 (by have := (unhide HR).back; exact this))
      have hgood : Hid ((∀ q ∈ [bRo r], okR q) ∧ ∀ q, fitT (tol (R0 ++ [r] ++ [bRo r]) q)) := ⟨ok_back (unhide HR) (unhide HOK1), fit_there (unhide HFIT0) (unhide HR) (unhide HOK1)⟩
      have hown : Hid (∀ q d, own (tol (R0 ++ [r] ++ [bRo r]) q) d = own (tol R0 q) d) := fun q d => own_there (unhide HR) (unhide HOK1) q d
      rw [hz11] at dA
      have HV12 := hide hV12; have HS12 := hide hs12; have HB12 := hide hB12; have HD12 := hide hd12
      clear hc6' hr' hB10 hd10 hs10 hg11 hV11 hr11 hL12 hb12 hV12 hs11 hs12 hB11 hB12 hd12 V10 B10 eZ hc2 hc5 hc6 hz11 hwl
      subst hA
      rw [hw11] at hld
      subst hw11
      have hyy : ((Y + r.amt) != (Y + r.amt)) = false := by simp
      go_wp2_with fail
      refine (unhide dA).mono ?_
      rintro e w13 hO
      rcases hO with ⟨hno, _⟩ | ⟨_, rfl, hV13, hfr13⟩
      · exact absurd (unhide hgood) hno
      have hB13 : Below w.heap.size w w13 := (unhide HB12).trans ((hfr13.below (unhide HD12) (by omega)).mono (by have := unhide HWS; have := unhide HZ1; omega))
      have hs13 := hfr13.rowV (unhide HV12) (unhide HS12) (by decide) (by decide)
      have dS := hide (state_vw hV13 (by rw [List.length_append, List.length_append, ← unhide HN0]; simp; omega))
      have HS13 := hide hs13; have HB13 := hide hB13
      clear hV13 hfr13 hB13 hs13 dA hld HV12 HS12 HB12 HD12 hcs hfz10
      go_wp2_with fail
      refine (unhide dS).mono ?_
      rintro e w14 ⟨L14, p14, c14, hst14, rfl, hrow14, hb14⟩
      have hs14 := row_keep (unhide HS13) (W' := w14) (fun g hg => hb14.block g (row_block (unhide HS13) hg).2.1)
      have eL : L14 = L := hst14.same (unhide HST) (unhide hown)
      subst eL
      have dE := hide (same_any (c1 := c5) (c2 := c14) (unhide HNL).symm (by omega) (own_lies kD_ok rfl hs14) (own_lies kD_ok rfl hrow14))
      have HB14 := hide ((unhide HB13).trans (hb14.mono (unhide HB13).size))
      rw [← unhide HNL]
      clear hrow14 hb14 hs14 hst14 dS
      go_wp2_with fail
      refine (unhide dE).mono ?_
      rintro e wx ⟨rfl, m, hw⟩
      have HBX : Hid (Below w.heap.size w wx) := by rw [hw]; exact below_drewN (unhide HB14) m
      clear hw
      go_wp2_with fail
      go_ret
      exact ⟨rfl, unhide HBX⟩
    · have hse : (s.toList == r.acc.toList) = false := by simpa using hnm
      rw [unhide HXS (fun e => hnm (by rw [Lib.toList_data, Lib.toList_data]; exact e.symm))] at dT
      clear HXS
      go_wp2_with fail
      refine (unhide dT).mono ?_
      rintro e wa ⟨rfl, hba⟩
      have Va := (unhide HV9).below hba
      have hca5 : wa.cell? ⟨w.heap.size, 5, none⟩ = some (.string r.acc) := (hba.cell (p := ⟨w.heap.size, 5, none⟩) (by have := unhide HWS; have := unhide HZ1; have := unhide HD9; simp; omega)).trans hc5
      have HVA := hide Va; have HBA := hide hba
      clear Va hba dT
      go_wp2_with fail
      refine (unhide HT2 wa (unhide HVA)).mono ?_
      rintro e w10 ⟨rfl, hb10⟩
      have V10 := (unhide HVA).below hb10; have B10 := (unhide HBA).trans (hb10.mono (unhide HBA).size)
      obtain ⟨hc6', hr', hB10, hd10⟩ := unhide HREST _ V10 B10
      have hs10 := row_keep (unhide HS9) (W' := w10) (fun g hg => B10.block g (row_block (unhide HS9) hg).2.1)
      have hcs : w10.cell? ⟨w.heap.size, 6, none⟩ = some (.int .i64 r.amt) := unhide hc6'
      have hwl : w.heap.size < w1.heap.size := by have := unhide HWS; have := unhide HZ1; omega
      have hfz10 : w10.frozen? ⟨w.heap.size, 6, none⟩ = false := ((unhide hB10).frozen (p := ⟨w.heap.size, 6, none⟩) (by have := unhide HWS; simp; omega)).trans (unhide HFZ 6)
      obtain ⟨Z, hZ⟩ : ∃ Z, IntKind.i64.wrap (-r.amt) = Z := ⟨_, rfl⟩
      obtain ⟨w11, hw11⟩ : ∃ w11, w11 = w10.setCell ⟨w.heap.size, 6, none⟩ (.int .i64 Z) := ⟨_, rfl⟩
      have hg11 : w10.grownBy w11 (some w.heap.size) := by rw [hw11]; exact set_grown _ _ _
      have hV11 := V10.grown hg11 (by omega) (by omega)
      have hz11 : w11.heap.size = w10.heap.size := by rw [hw11]; simp
      have hr11 : w11.rangeAt w.heap.size 0 (bRo r).vals := fun j u hu => by
        by_cases hj : j = 6
        · subst hj
          have e : u = .int .i64 Z := by
            have h : (bRo r).vals[6]? = some (.int .i64 (IntKind.i64.wrap (-r.amt))) := rfl
            rw [h, hZ] at hu
            exact (Option.some.inj hu).symm
          rw [e, hw11]
          exact World.cell?_setCell_same _ _ _ hcs
        · have e : r.vals[j]? = some u := by
            have hj9 : j < 9 := (List.getElem?_eq_some_iff.1 hu).1
            have hj' : j = 0 ∨ j = 1 ∨ j = 2 ∨ j = 3 ∨ j = 4 ∨ j = 5 ∨ j = 7 ∨ j = 8 := by omega
            rcases hj' with rfl | rfl | rfl | rfl | rfl | rfl | rfl | rfl <;> exact hu
          rw [hw11, World.cell?_setCell_other _ _ _ _ (fun e => hj (by injection e with _ e; omega))]
          exact unhide hr' j u e
      have hld := run_ld24 hr11
      have eZ : (bRo r).amt = Z := hZ
      rw [eZ] at hld
      obtain ⟨A, hA⟩ : ∃ A, A = Obj.cells #[.int .i64 r.i0, .int .i64 r.i1, .int .i64 r.day, .int .i64 r.i3, .string r.s4, .string r.acc, .int .i64 Z, .string r.s7, .string r.s8] 24 := ⟨_, rfl⟩
      have hL12 : Lies kR (w11.alloc A) (some ⟨w11.heap.size, 0, none⟩) [bRo r] := by
        rw [hA]
        refine one_lies w11 (bRo r) 24 _ ?_
        show [Value.int .i64 r.i0, .int .i64 r.i1, .int .i64 r.day, .int .i64 r.i3, .string r.s4, .string r.acc, .int .i64 Z, .string r.s7, .string r.s8] = [Value.int .i64 r.i0, .int .i64 r.i1, .int .i64 r.day, .int .i64 r.i3, .string r.s4, .string r.acc, .int .i64 (IntKind.i64.wrap (-r.amt)), .string r.s7, .string r.s8]
        rw [hZ]
      have hb12 : Below w11.heap.size w11 (w11.alloc A) := bal (Below.refl _ _) A
      have hV12 := hV11.below hb12
      have hs11 := row_keep hs10 (W' := w11) (fun g hg => hg11.block g (row_block hs10 hg).2.1 (fun e => by have := Option.some.inj e; have := (row_block (unhide HS9) hg).1; have := unhide HD4'; omega))
      have hs12 := row_keep hs11 (W' := w11.alloc A) (fun g hg => hb12.block g (row_block hs11 hg).2.1)
      have hB11 : Below w.heap.size w w11 := by
        have h := unhide HFIN _ (unhide hB10)
        exact ⟨hg11.os.trans h.os, hg11.tape.trans h.tape, hg11.output.trans h.output, Nat.le_trans h.size hg11.size, fun k hk => (hg11.block k (Nat.lt_of_lt_of_le hk h.size) (fun e => by have := Option.some.inj e; omega)).trans (h.block k hk)⟩
      have hB12 : Below w.heap.size w (w11.alloc A) := hB11.trans (hb12.mono hB11.size)
      have hd12 : w1.heap.size + 1 ≤ (w11.alloc A).heap.size := by have := unhide hd10; simp; omega
      have dA := hide (apply_vw (cR := 1) (N := 1) hV12 (unhide HLR1) rfl (by decide) hL12 (by have := (unhide HR).back; exact this))
      have hgood : Hid ((∀ q ∈ [bRo r], okR q) ∧ ∀ q, fitT (tol (R0 ++ [r] ++ [bRo r]) q)) := ⟨ok_back (unhide HR) (unhide HOK1), fit_there (unhide HFIT0) (unhide HR) (unhide HOK1)⟩
      have hown : Hid (∀ q d, own (tol (R0 ++ [r] ++ [bRo r]) q) d = own (tol R0 q) d) := fun q d => own_there (unhide HR) (unhide HOK1) q d
      rw [hz11] at dA
      have HV12 := hide hV12; have HS12 := hide hs12; have HB12 := hide hB12; have HD12 := hide hd12
      clear hc6' hr' hB10 hd10 hs10 hg11 hV11 hr11 hL12 hb12 hV12 hs11 hs12 hB11 hB12 hd12 V10 B10 eZ hc2 hc5 hc6 hz11 hwl
      subst hA
      rw [hw11] at hld
      subst hw11
      have hyy : ((Y + r.amt) != (Y + r.amt)) = false := by simp
      go_wp2_with fail
      refine (unhide dA).mono ?_
      rintro e w13 hO
      rcases hO with ⟨hno, _⟩ | ⟨_, rfl, hV13, hfr13⟩
      · exact absurd (unhide hgood) hno
      have hB13 : Below w.heap.size w w13 := (unhide HB12).trans ((hfr13.below (unhide HD12) (by omega)).mono (by have := unhide HWS; have := unhide HZ1; omega))
      have hs13 := hfr13.rowV (unhide HV12) (unhide HS12) (by decide) (by decide)
      have dS := hide (state_vw hV13 (by rw [List.length_append, List.length_append, ← unhide HN0]; simp; omega))
      have HS13 := hide hs13; have HB13 := hide hB13
      clear hV13 hfr13 hB13 hs13 dA hld HV12 HS12 HB12 HD12 hcs hfz10
      go_wp2_with fail
      refine (unhide dS).mono ?_
      rintro e w14 ⟨L14, p14, c14, hst14, rfl, hrow14, hb14⟩
      have hs14 := row_keep (unhide HS13) (W' := w14) (fun g hg => hb14.block g (row_block (unhide HS13) hg).2.1)
      have eL : L14 = L := hst14.same (unhide HST) (unhide hown)
      subst eL
      have dE := hide (same_any (c1 := c5) (c2 := c14) (unhide HNL).symm (by omega) (own_lies kD_ok rfl hs14) (own_lies kD_ok rfl hrow14))
      have HB14 := hide ((unhide HB13).trans (hb14.mono (unhide HB13).size))
      rw [← unhide HNL]
      clear hrow14 hb14 hs14 hst14 dS
      go_wp2_with fail
      refine (unhide dE).mono ?_
      rintro e wx ⟨rfl, m, hw⟩
      have HBX : Hid (Below w.heap.size w wx) := by rw [hw]; exact below_drewN (unhide HB14) m
      clear hw
      go_wp2_with fail
      go_ret
      exact ⟨rfl, unhide HBX⟩
  · rw [if_neg hge] at hby
    subst hby
    rw [Int.add_zero] at hwr HT2
    by_cases hnm : s.toList = r.acc.toList
    · have hse : (s.toList == r.acc.toList) = true := by simpa using hnm
      clear dT HXS
      go_wp2_with fail
      refine (unhide HT2 w9 (unhide HV9)).mono ?_
      rintro e w10 ⟨rfl, hb10⟩
      have V10 := (unhide HV9).below hb10; have B10 := hb10
      obtain ⟨hc6', hr', hB10, hd10⟩ := unhide HREST _ V10 B10
      have hs10 := row_keep (unhide HS9) (W' := w10) (fun g hg => B10.block g (row_block (unhide HS9) hg).2.1)
      have hcs : w10.cell? ⟨w.heap.size, 6, none⟩ = some (.int .i64 r.amt) := unhide hc6'
      have hwl : w.heap.size < w1.heap.size := by have := unhide HWS; have := unhide HZ1; omega
      have hfz10 : w10.frozen? ⟨w.heap.size, 6, none⟩ = false := ((unhide hB10).frozen (p := ⟨w.heap.size, 6, none⟩) (by have := unhide HWS; simp; omega)).trans (unhide HFZ 6)
      obtain ⟨Z, hZ⟩ : ∃ Z, IntKind.i64.wrap (-r.amt) = Z := ⟨_, rfl⟩
      obtain ⟨w11, hw11⟩ : ∃ w11, w11 = w10.setCell ⟨w.heap.size, 6, none⟩ (.int .i64 Z) := ⟨_, rfl⟩
      have hg11 : w10.grownBy w11 (some w.heap.size) := by rw [hw11]; exact set_grown _ _ _
      have hV11 := V10.grown hg11 (by omega) (by omega)
      have hz11 : w11.heap.size = w10.heap.size := by rw [hw11]; simp
      have hr11 : w11.rangeAt w.heap.size 0 (bRo r).vals := fun j u hu => by
        by_cases hj : j = 6
        · subst hj
          have e : u = .int .i64 Z := by
            have h : (bRo r).vals[6]? = some (.int .i64 (IntKind.i64.wrap (-r.amt))) := rfl
            rw [h, hZ] at hu
            exact (Option.some.inj hu).symm
          rw [e, hw11]
          exact World.cell?_setCell_same _ _ _ hcs
        · have e : r.vals[j]? = some u := by
            have hj9 : j < 9 := (List.getElem?_eq_some_iff.1 hu).1
            have hj' : j = 0 ∨ j = 1 ∨ j = 2 ∨ j = 3 ∨ j = 4 ∨ j = 5 ∨ j = 7 ∨ j = 8 := by omega
            rcases hj' with rfl | rfl | rfl | rfl | rfl | rfl | rfl | rfl <;> exact hu
          rw [hw11, World.cell?_setCell_other _ _ _ _ (fun e => hj (by injection e with _ e; omega))]
          exact unhide hr' j u e
      have hld := run_ld24 hr11
      have eZ : (bRo r).amt = Z := hZ
      rw [eZ] at hld
      obtain ⟨A, hA⟩ : ∃ A, A = Obj.cells #[.int .i64 r.i0, .int .i64 r.i1, .int .i64 r.day, .int .i64 r.i3, .string r.s4, .string r.acc, .int .i64 Z, .string r.s7, .string r.s8] 24 := ⟨_, rfl⟩
      have hL12 : Lies kR (w11.alloc A) (some ⟨w11.heap.size, 0, none⟩) [bRo r] := by
        rw [hA]
        refine one_lies w11 (bRo r) 24 _ ?_
        show [Value.int .i64 r.i0, .int .i64 r.i1, .int .i64 r.day, .int .i64 r.i3, .string r.s4, .string r.acc, .int .i64 Z, .string r.s7, .string r.s8] = [Value.int .i64 r.i0, .int .i64 r.i1, .int .i64 r.day, .int .i64 r.i3, .string r.s4, .string r.acc, .int .i64 (IntKind.i64.wrap (-r.amt)), .string r.s7, .string r.s8]
        rw [hZ]
      have hb12 : Below w11.heap.size w11 (w11.alloc A) := bal (Below.refl _ _) A
      have hV12 := hV11.below hb12
      have hs11 := row_keep hs10 (W' := w11) (fun g hg => hg11.block g (row_block hs10 hg).2.1 (fun e => by have := Option.some.inj e; have := (row_block (unhide HS9) hg).1; have := unhide HD4'; omega))
      have hs12 := row_keep hs11 (W' := w11.alloc A) (fun g hg => hb12.block g (row_block hs11 hg).2.1)
      have hB11 : Below w.heap.size w w11 := by
        have h := unhide HFIN _ (unhide hB10)
        exact ⟨hg11.os.trans h.os, hg11.tape.trans h.tape, hg11.output.trans h.output, Nat.le_trans h.size hg11.size, fun k hk => (hg11.block k (Nat.lt_of_lt_of_le hk h.size) (fun e => by have := Option.some.inj e; omega)).trans (h.block k hk)⟩
      have hB12 : Below w.heap.size w (w11.alloc A) := hB11.trans (hb12.mono hB11.size)
      have hd12 : w1.heap.size + 1 ≤ (w11.alloc A).heap.size := by have := unhide hd10; simp; omega
      have dA := hide (apply_vw (cR := 1) (N := 1) hV12 (unhide HLR1) rfl (by decide) hL12 (by have := (unhide HR).back; exact this))
      have hgood : Hid ((∀ q ∈ [bRo r], okR q) ∧ ∀ q, fitT (tol (R0 ++ [r] ++ [bRo r]) q)) := ⟨ok_back (unhide HR) (unhide HOK1), fit_there (unhide HFIT0) (unhide HR) (unhide HOK1)⟩
      have hown : Hid (∀ q d, own (tol (R0 ++ [r] ++ [bRo r]) q) d = own (tol R0 q) d) := fun q d => own_there (unhide HR) (unhide HOK1) q d
      rw [hz11] at dA
      have HV12 := hide hV12; have HS12 := hide hs12; have HB12 := hide hB12; have HD12 := hide hd12
      clear hc6' hr' hB10 hd10 hs10 hg11 hV11 hr11 hL12 hb12 hV12 hs11 hs12 hB11 hB12 hd12 V10 B10 eZ hc2 hc5 hc6 hz11 hwl
      subst hA
      rw [hw11] at hld
      subst hw11
      have hyy : (Y != Y) = false := by simp
      go_wp2_with fail
      refine (unhide dA).mono ?_
      rintro e w13 hO
      rcases hO with ⟨hno, _⟩ | ⟨_, rfl, hV13, hfr13⟩
      · exact absurd (unhide hgood) hno
      have hB13 : Below w.heap.size w w13 := (unhide HB12).trans ((hfr13.below (unhide HD12) (by omega)).mono (by have := unhide HWS; have := unhide HZ1; omega))
      have hs13 := hfr13.rowV (unhide HV12) (unhide HS12) (by decide) (by decide)
      have dS := hide (state_vw hV13 (by rw [List.length_append, List.length_append, ← unhide HN0]; simp; omega))
      have HS13 := hide hs13; have HB13 := hide hB13
      clear hV13 hfr13 hB13 hs13 dA hld HV12 HS12 HB12 HD12 hcs hfz10
      go_wp2_with fail
      refine (unhide dS).mono ?_
      rintro e w14 ⟨L14, p14, c14, hst14, rfl, hrow14, hb14⟩
      have hs14 := row_keep (unhide HS13) (W' := w14) (fun g hg => hb14.block g (row_block (unhide HS13) hg).2.1)
      have eL : L14 = L := hst14.same (unhide HST) (unhide hown)
      subst eL
      have dE := hide (same_any (c1 := c5) (c2 := c14) (unhide HNL).symm (by omega) (own_lies kD_ok rfl hs14) (own_lies kD_ok rfl hrow14))
      have HB14 := hide ((unhide HB13).trans (hb14.mono (unhide HB13).size))
      rw [← unhide HNL]
      clear hrow14 hb14 hs14 hst14 dS
      go_wp2_with fail
      refine (unhide dE).mono ?_
      rintro e wx ⟨rfl, m, hw⟩
      have HBX : Hid (Below w.heap.size w wx) := by rw [hw]; exact below_drewN (unhide HB14) m
      clear hw
      go_wp2_with fail
      go_ret
      exact ⟨rfl, unhide HBX⟩
    · have hse : (s.toList == r.acc.toList) = false := by simpa using hnm
      rw [unhide HXS (fun e => hnm (by rw [Lib.toList_data, Lib.toList_data]; exact e.symm))] at dT
      clear HXS
      go_wp2_with fail
      refine (unhide dT).mono ?_
      rintro e wa ⟨rfl, hba⟩
      have Va := (unhide HV9).below hba
      have hca5 : wa.cell? ⟨w.heap.size, 5, none⟩ = some (.string r.acc) := (hba.cell (p := ⟨w.heap.size, 5, none⟩) (by have := unhide HWS; have := unhide HZ1; have := unhide HD9; simp; omega)).trans hc5
      have HVA := hide Va; have HBA := hide hba
      clear Va hba dT
      go_wp2_with fail
      refine (unhide HT2 wa (unhide HVA)).mono ?_
      rintro e w10 ⟨rfl, hb10⟩
      have V10 := (unhide HVA).below hb10; have B10 := (unhide HBA).trans (hb10.mono (unhide HBA).size)
      obtain ⟨hc6', hr', hB10, hd10⟩ := unhide HREST _ V10 B10
      have hs10 := row_keep (unhide HS9) (W' := w10) (fun g hg => B10.block g (row_block (unhide HS9) hg).2.1)
      have hcs : w10.cell? ⟨w.heap.size, 6, none⟩ = some (.int .i64 r.amt) := unhide hc6'
      have hwl : w.heap.size < w1.heap.size := by have := unhide HWS; have := unhide HZ1; omega
      have hfz10 : w10.frozen? ⟨w.heap.size, 6, none⟩ = false := ((unhide hB10).frozen (p := ⟨w.heap.size, 6, none⟩) (by have := unhide HWS; simp; omega)).trans (unhide HFZ 6)
      obtain ⟨Z, hZ⟩ : ∃ Z, IntKind.i64.wrap (-r.amt) = Z := ⟨_, rfl⟩
      obtain ⟨w11, hw11⟩ : ∃ w11, w11 = w10.setCell ⟨w.heap.size, 6, none⟩ (.int .i64 Z) := ⟨_, rfl⟩
      have hg11 : w10.grownBy w11 (some w.heap.size) := by rw [hw11]; exact set_grown _ _ _
      have hV11 := V10.grown hg11 (by omega) (by omega)
      have hz11 : w11.heap.size = w10.heap.size := by rw [hw11]; simp
      have hr11 : w11.rangeAt w.heap.size 0 (bRo r).vals := fun j u hu => by
        by_cases hj : j = 6
        · subst hj
          have e : u = .int .i64 Z := by
            have h : (bRo r).vals[6]? = some (.int .i64 (IntKind.i64.wrap (-r.amt))) := rfl
            rw [h, hZ] at hu
            exact (Option.some.inj hu).symm
          rw [e, hw11]
          exact World.cell?_setCell_same _ _ _ hcs
        · have e : r.vals[j]? = some u := by
            have hj9 : j < 9 := (List.getElem?_eq_some_iff.1 hu).1
            have hj' : j = 0 ∨ j = 1 ∨ j = 2 ∨ j = 3 ∨ j = 4 ∨ j = 5 ∨ j = 7 ∨ j = 8 := by omega
            rcases hj' with rfl | rfl | rfl | rfl | rfl | rfl | rfl | rfl <;> exact hu
          rw [hw11, World.cell?_setCell_other _ _ _ _ (fun e => hj (by injection e with _ e; omega))]
          exact unhide hr' j u e
      have hld := run_ld24 hr11
      have eZ : (bRo r).amt = Z := hZ
      rw [eZ] at hld
      obtain ⟨A, hA⟩ : ∃ A, A = Obj.cells #[.int .i64 r.i0, .int .i64 r.i1, .int .i64 r.day, .int .i64 r.i3, .string r.s4, .string r.acc, .int .i64 Z, .string r.s7, .string r.s8] 24 := ⟨_, rfl⟩
      have hL12 : Lies kR (w11.alloc A) (some ⟨w11.heap.size, 0, none⟩) [bRo r] := by
        rw [hA]
        refine one_lies w11 (bRo r) 24 _ ?_
        show [Value.int .i64 r.i0, .int .i64 r.i1, .int .i64 r.day, .int .i64 r.i3, .string r.s4, .string r.acc, .int .i64 Z, .string r.s7, .string r.s8] = [Value.int .i64 r.i0, .int .i64 r.i1, .int .i64 r.day, .int .i64 r.i3, .string r.s4, .string r.acc, .int .i64 (IntKind.i64.wrap (-r.amt)), .string r.s7, .string r.s8]
        rw [hZ]
      have hb12 : Below w11.heap.size w11 (w11.alloc A) := bal (Below.refl _ _) A
      have hV12 := hV11.below hb12
      have hs11 := row_keep hs10 (W' := w11) (fun g hg => hg11.block g (row_block hs10 hg).2.1 (fun e => by have := Option.some.inj e; have := (row_block (unhide HS9) hg).1; have := unhide HD4'; omega))
      have hs12 := row_keep hs11 (W' := w11.alloc A) (fun g hg => hb12.block g (row_block hs11 hg).2.1)
      have hB11 : Below w.heap.size w w11 := by
        have h := unhide HFIN _ (unhide hB10)
        exact ⟨hg11.os.trans h.os, hg11.tape.trans h.tape, hg11.output.trans h.output, Nat.le_trans h.size hg11.size, fun k hk => (hg11.block k (Nat.lt_of_lt_of_le hk h.size) (fun e => by have := Option.some.inj e; omega)).trans (h.block k hk)⟩
      have hB12 : Below w.heap.size w (w11.alloc A) := hB11.trans (hb12.mono hB11.size)
      have hd12 : w1.heap.size + 1 ≤ (w11.alloc A).heap.size := by have := unhide hd10; simp; omega
      have dA := hide (apply_vw (cR := 1) (N := 1) hV12 (unhide HLR1) rfl (by decide) hL12 (by have := (unhide HR).back; exact this))
      have hgood : Hid ((∀ q ∈ [bRo r], okR q) ∧ ∀ q, fitT (tol (R0 ++ [r] ++ [bRo r]) q)) := ⟨ok_back (unhide HR) (unhide HOK1), fit_there (unhide HFIT0) (unhide HR) (unhide HOK1)⟩
      have hown : Hid (∀ q d, own (tol (R0 ++ [r] ++ [bRo r]) q) d = own (tol R0 q) d) := fun q d => own_there (unhide HR) (unhide HOK1) q d
      rw [hz11] at dA
      have HV12 := hide hV12; have HS12 := hide hs12; have HB12 := hide hB12; have HD12 := hide hd12
      clear hc6' hr' hB10 hd10 hs10 hg11 hV11 hr11 hL12 hb12 hV12 hs11 hs12 hB11 hB12 hd12 V10 B10 eZ hc2 hc5 hc6 hz11 hwl
      subst hA
      rw [hw11] at hld
      subst hw11
      have hyy : (Y != Y) = false := by simp
      go_wp2_with fail
      refine (unhide dA).mono ?_
      rintro e w13 hO
      rcases hO with ⟨hno, _⟩ | ⟨_, rfl, hV13, hfr13⟩
      · exact absurd (unhide hgood) hno
      have hB13 : Below w.heap.size w w13 := (unhide HB12).trans ((hfr13.below (unhide HD12) (by omega)).mono (by have := unhide HWS; have := unhide HZ1; omega))
      have hs13 := hfr13.rowV (unhide HV12) (unhide HS12) (by decide) (by decide)
      have dS := hide (state_vw hV13 (by rw [List.length_append, List.length_append, ← unhide HN0]; simp; omega))
      have HS13 := hide hs13; have HB13 := hide hB13
      clear hV13 hfr13 hB13 hs13 dA hld HV12 HS12 HB12 HD12 hcs hfz10
      go_wp2_with fail
      refine (unhide dS).mono ?_
      rintro e w14 ⟨L14, p14, c14, hst14, rfl, hrow14, hb14⟩
      have hs14 := row_keep (unhide HS13) (W' := w14) (fun g hg => hb14.block g (row_block (unhide HS13) hg).2.1)
      have eL : L14 = L := hst14.same (unhide HST) (unhide hown)
      subst eL
      have dE := hide (same_any (c1 := c5) (c2 := c14) (unhide HNL).symm (by omega) (own_lies kD_ok rfl hs14) (own_lies kD_ok rfl hrow14))
      have HB14 := hide ((unhide HB13).trans (hb14.mono (unhide HB13).size))
      rw [← unhide HNL]
      clear hrow14 hb14 hs14 hst14 dS
      go_wp2_with fail
      refine (unhide dE).mono ?_
      rintro e wx ⟨rfl, m, hw⟩
      have HBX : Hid (Below w.heap.size w wx) := by rw [hw]; exact below_drewN (unhide HB14) m
      clear hw
      go_wp2_with fail
      go_ret
      exact ⟨rfl, unhide HBX⟩
end Go.Proofs.YtenoaechonpjgaaDoor
