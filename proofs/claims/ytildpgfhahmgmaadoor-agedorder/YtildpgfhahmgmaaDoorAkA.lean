/- aged: alike (24) at two views of the same state. -/
import Derived.Test.YtildpgfhahmgmaaDoorFiA
import Derived.Test.YtildpgfhahmgmaaDoorClA
import Derived.Test.YtildpgfhahmgmaaDoorSmA
import Derived.Test.YtildpgfhahmgmaaDoorE39
namespace Go.Proofs.YtildpgfhahmgmaaDoor
open Go Go.Shelf Go.ChangeShapes Go.WideShapes Go.ChangeAt Go.RowKit Go.Maps
set_option linter.unusedVariables false
/-- two views, and the act's block -/
structure Two (X w : World) (dv dw bx : Nat) (Sv Sw : Nat → Prop) (C : List Cl) (A : List Al) (g : Int) (o : OpV) : Prop where
  v : Vw w dv Sv C A g
  u : Vw w dw Sw C A g
  bel : Below X.heap.size X w
  st : Stp w
  day : w.cell? ⟨bx, 2, none⟩ = some (.int .i64 o.day)
  lt : bx < w.heap.size
theorem Two.below {X w w' : World} {dv dw bx : Nat} {Sv Sw : Nat → Prop} {C : List Cl} {A : List Al} {g : Int} {o : OpV} (h : Two X w dv dw bx Sv Sw C A g o) (hb : Below w.heap.size w w') : Two X w' dv dw bx Sv Sw C A g o :=
  ⟨h.v.below hb, h.u.below hb, h.bel.trans (hb.mono h.bel.size), h.st.below hb, (hb.cell (p := ⟨bx, 2, none⟩) h.lt).trans h.day, Nat.lt_of_lt_of_le h.lt hb.size⟩
theorem below_drew (w : World) : Below w.heap.size w w.drew := (Below.refl _ _).drew
theorem below_drewN (w : World) (m : Nat) : Below w.heap.size w (w.drewN m) := ⟨rfl, rfl, rfl, Nat.le_refl _, fun _ _ => rfl⟩
set_option maxRecDepth 100000 in
set_option maxHeartbeats 16000000 in
theorem alike_at {W : World} {dv dw : Nat} {Sv Sw : Nat → Prop} {C : List Cl} {A : List Al} {g : Int} (hv : Vw W dv Sv C A g) (hu : Vw W dw Sw C A g) (hS : Stp W) {o : OpV} (ho : OpOk o) {acc : ByteArray} (hk : (o.kind = 3 ∧ acc = o.c.acc) ∨ (o.kind ≠ 3 ∧ acc = o.acct)) (ha : acc.size ≤ maxLen) :
    Calls Tryd.prog 24 #[ptr dv, ptr dw, .agg o.arr] W fun e w' => e = .returned (.bool true) ∧ Below W.heap.size W w' := by
  obtain ⟨bx, hbx⟩ : ∃ bx, bx = W.heap.size := ⟨_, rfl⟩
  obtain ⟨X, hX⟩ : ∃ X, X = W.alloc (.cells o.arr 53) := ⟨_, rfl⟩
  have hbX : Below W.heap.size W X := by rw [hX]; exact (Below.refl _ _).alloc (Nat.le_refl _) _
  have hXb : X.heap[bx]? = some (.cells o.arr 53 (0, 0)) := by rw [hX, hbx]; exact heap_new _ _
  have x1 : X.cell? ⟨bx, 1, none⟩ = some (.int .i64 o.kind) := by rw [cell_at hXb]; rfl
  have x4 : X.cell? ⟨bx, 4, none⟩ = some (.string o.c.acc) := by rw [cell_at hXb]; rfl
  have x12 : X.cell? ⟨bx, 12, none⟩ = some (.string o.acct) := by rw [cell_at hXb]; rfl
  have hT0 : Two X X.drew dv dw bx Sv Sw C A g o := (Two.mk (X := X) (w := X) (hv.below hbX) (hu.below hbX) (Below.refl _ _) (hS.below hbX) (by rw [cell_at hXb]; rfl) (heap_lt hXb)).below (below_drew X)
  have hG := hv.good
  have HX : Hid (X = W.alloc (.cells o.arr 53)) := hX
  have HBX := hide hbx; have HT0 := hide hT0; have HBB := hide hbX; have HG := hide hG
  have hst := arr39; have heg := eg39; have heq := eq39_same
  unfold OpV.arr at HX ⊢
  unfold ptr
  clear hv hu hS hXb hX hbx hbX hT0 hG
  rcases hk with ⟨hk, hac⟩ | ⟨hk, hac⟩
  · rw [hk] at x1
    rw [← hac] at x4
    clear hk hac
    go_enter Tryd.func24, Tryd.ntmps24
    go_upto_region 1 with fail
    rw [← unhide HX, ← unhide HBX]
    clear HX HBX
    go_upto_region 4 with fail
    refine wp_region_last (n := 41) (S := fun W' => W'.cell? ⟨bx, 2, none⟩ = some (.int .i64 o.day)) (by kernel_rfl) (by exact (unhide HT0).day) (fun hHeld => ?_)
    refine tkW 0 ?_; refine tkW 2 ?_
    have dC := hide (asOf_vw (unhide HT0).v)
    unfold ptr at dC
    refine wpAnyL_one (i := 1) (by kernel_rfl) rfl (fun KK hK => ?_)
    go_simp
    go_wp2_with (first | (go_at_call 15; refine (unhide dC).mono ?_; rintro e w2 ⟨rfl, hw⟩; rw [hw]; clear hw w2))
    refine hK.out _ _ (by exact (unhide HT0).day) (fun hHeld => ?_)
    clear hK KK dC
    have dC := hide (asOf_vw (unhide HT0).u)
    unfold ptr at dC
    refine wpAnyL_one (i := 3) (by kernel_rfl) rfl (fun KK hK => ?_)
    go_simp
    go_wp2_with (first | (go_at_call 15; refine (unhide dC).mono ?_; rintro e w2 ⟨rfl, hw⟩; rw [hw]; clear hw w2))
    refine hK.out _ _ (by exact (unhide HT0).day) (fun hHeld => ?_)
    clear hK KK dC
    refine tkW 4 ?_; refine tkW 5 ?_; refine tkW 6 ?_; refine tkW 7 ?_; refine tkW 9 ?_; refine tkW 10 ?_
    have dC := hide (now_vw (unhide HT0).v ha)
    unfold ptr at dC
    refine wpAnyL_one (i := 8) (by kernel_rfl) rfl (fun KK hK => ?_)
    go_simp
    go_wp2_with (first | (go_at_call 16; refine (unhide dC).mono ?_; rintro e w2 ⟨rfl, hb2⟩))
    have HT1 : Hid (Two X w2 dv dw bx Sv Sw C A g o) := (unhide HT0).below hb2
    clear hb2
    refine hK.out _ _ (by exact (unhide HT1).day) (fun hHeld => ?_)
    clear hK KK dC
    have dC := hide (now_vw (unhide HT1).u ha)
    unfold ptr at dC
    refine wpAnyL_one (i := 11) (by kernel_rfl) rfl (fun KK hK => ?_)
    go_simp
    go_wp2_with (first | (go_at_call 16; refine (unhide dC).mono ?_; rintro e w3 ⟨rfl, hb3⟩))
    have HT2 : Hid (Two X w3 dv dw bx Sv Sw C A g o) := (unhide HT1).below hb3
    clear hb3
    refine hK.out _ _ (by exact (unhide HT2).day) (fun hHeld => ?_)
    clear hK KK dC
    unfold ag5
    refine tkW 12 ?_; refine tkW 13 ?_; refine tkW 14 ?_; refine tkW 15 ?_; refine tkW 16 ?_; refine tkW 17 ?_
    refine tkN 18 ?_
    refine tkW 20 ?_; refine tkW 21 ?_; refine tkW 22 ?_
    refine tkN 23 ?_
    have dC := hide (at_vw (unhide HT2).v (unhide HT2).st ha o.day)
    unfold ptr at dC
    refine wpAnyL_one (i := 19) (by kernel_rfl) rfl (fun KK hK => ?_)
    go_simp
    go_wp2_with (first | (go_at_call 17; refine (unhide dC).mono ?_; rintro e w4 ⟨rfl, hb4⟩))
    have HT3 : Hid (Two X w4 dv dw bx Sv Sw C A g o) := (unhide HT2).below hb4
    clear hb4
    refine hK.out _ _ (by exact (unhide HT3).day) (fun hHeld => ?_)
    clear hK KK dC
    have dC := hide (at_vw (unhide HT3).u (unhide HT3).st ha o.day)
    unfold ptr at dC
    refine wpAnyL_one (i := 24) (by kernel_rfl) rfl (fun KK hK => ?_)
    go_simp
    go_wp2_with (first | (go_at_call 17; refine (unhide dC).mono ?_; rintro e w5 ⟨rfl, hb5⟩))
    have HT4 : Hid (Two X w5 dv dw bx Sv Sw C A g o) := (unhide HT3).below hb5
    clear hb5
    refine hK.out _ _ (by exact (unhide HT4).day) (fun hHeld => ?_)
    clear hK KK dC
    unfold ag5
    refine tkW 25 ?_; refine tkW 26 ?_; refine tkW 27 ?_; refine tkW 28 ?_; refine tkW 29 ?_; refine tkW 30 ?_; refine tkW 33 ?_; refine tkW 34 ?_; refine tkW 35 ?_
    have dC := hide (asOf_vw (unhide HT4).v)
    unfold ptr at dC
    refine wpAnyL_one (i := 31) (by kernel_rfl) rfl (fun KK hK => ?_)
    go_simp
    go_wp2_with (first | (go_at_call 15; refine (unhide dC).mono ?_; rintro e w2 ⟨rfl, hw⟩; rw [hw]; clear hw w2))
    refine hK.out _ _ (by exact (unhide HT4).day) (fun hHeld => ?_)
    clear hK KK dC
    have dC := hide (open_vw (unhide HT4).v (unhide HT4).st ha (1 + g))
    unfold ptr at dC
    refine wpAnyL_one (i := 32) (by kernel_rfl) rfl (fun KK hK => ?_)
    go_simp
    go_wp2_with (first | (go_at_call 30; refine (unhide dC).mono ?_; rintro e w6 ⟨p6, c6, R6, rfl, hop6, hL6, hb6, hn6⟩))
    have HT5 : Hid (Two X w6 dv dw bx Sv Sw C A g o) := (unhide HT4).below hb6
    have HL6 := hide hL6; have HO6 := hide hop6; have HN6 := hide hn6
    clear hb6 hL6 hop6 hn6
    refine hK.out _ _ (by exact (unhide HT5).day) (fun hHeld => ?_)
    clear hK KK dC
    have dC := hide (asOf_vw (unhide HT5).v)
    unfold ptr at dC
    refine wpAnyL_one (i := 36) (by kernel_rfl) rfl (fun KK hK => ?_)
    go_simp
    go_wp2_with (first | (go_at_call 15; refine (unhide dC).mono ?_; rintro e w2 ⟨rfl, hw⟩; rw [hw]; clear hw w2))
    refine hK.out _ _ (by exact (unhide HT5).day) (fun hHeld => ?_)
    clear hK KK dC
    have dC := hide (open_vw (unhide HT5).u (unhide HT5).st ha (1 + g))
    unfold ptr at dC
    refine wpAnyL_one (i := 37) (by kernel_rfl) rfl (fun KK hK => ?_)
    go_simp
    go_wp2_with (first | (go_at_call 30; refine (unhide dC).mono ?_; rintro e w7 ⟨p7, c7, R7, rfl, hop7, hL7, hb7, hn7⟩))
    have HT6 : Hid (Two X w7 dv dw bx Sv Sw C A g o) := (unhide HT5).below hb7
    have HL67 := hide ((unhide HL6).below hb7)
    have hRR := (unhide HG).open_same (unhide HO6) hop7
    subst hRR
    have HL7 := hide hL7
    clear hb7 hL7 hop7 hn7
    refine hK.out _ _ (by exact (unhide HT6).day) (fun hHeld => ?_)
    clear hK KK dC
    have dC := hide (sameC_any (W := w7) (p1 := p6) (p2 := p7) (c1 := c6) (c2 := c7) rfl (by have := unhide HN6; omega) (unhide HL67) (unhide HL7))
    unfold ptr at dC
    refine wpAnyL_one (i := 38) (by kernel_rfl) rfl (fun KK hK => ?_)
    go_simp
    go_wp2_with (first | (go_at_call 29; refine (unhide dC).mono ?_; rintro e w8 ⟨rfl, hw8⟩; have HW8 := hide hw8; clear hw8))
    have HT7 : Hid (Two X w8 dv dw bx Sv Sw C A g o) := (unhide HT6).below (by obtain ⟨m8, hw8⟩ := unhide HW8; rw [hw8]; exact below_drewN _ _)
    refine hK.out _ _ (by exact (unhide HT7).day) (fun hHeld => ?_)
    clear hK KK dC
    refine tkW 39 ?_; refine tkW 40 ?_
    refine wpAnyL_done (by kernel_rfl) ?_
    clear hHeld
    have dK := hide (claims_vw (unhide HT7).v)
    unfold ptr at dK
    go_wp2_with fail
    refine (unhide dK).mono ?_
    rintro e w9 ⟨p9, c9, rfl, hL9, hb9⟩
    have HT8 := hide ((unhide HT7).below hb9); have HL9 := hide hL9
    have dK2 := hide (claims_vw (unhide HT8).u)
    unfold ptr at dK2
    clear hb9 hL9 dK
    go_wp2_with fail
    refine (unhide dK2).mono ?_
    rintro e w10 ⟨p10, c10, rfl, hL10, hb10⟩
    have HT9 := hide ((unhide HT8).below hb10)
    have dK3 := hide (sameC_any (W := w10) (p1 := p9) (p2 := p10) (c1 := c9) (c2 := c10) rfl (by have := (unhide HG).l1; omega) ((unhide HL9).below hb10) hL10)
    clear hb10 hL10 dK2
    go_wp2_with fail
    refine (unhide dK3).mono ?_
    rintro e w11 ⟨rfl, m11, hw11⟩
    have HT10 := hide ((unhide HT9).below (w' := w11) (by rw [hw11]; exact below_drewN _ _))
    have dK4 := hide (allots_vw (unhide HT10).v)
    unfold ptr at dK4
    clear hw11 dK3
    go_wp2_with fail
    refine (unhide dK4).mono ?_
    rintro e w12 ⟨p12, c12, rfl, hL12, hb12⟩
    have HT11 := hide ((unhide HT10).below hb12); have HL12 := hide hL12
    have dK5 := hide (allots_vw (unhide HT11).u)
    unfold ptr at dK5
    clear hb12 hL12 dK4
    go_wp2_with fail
    refine (unhide dK5).mono ?_
    rintro e w13 ⟨p13, c13, rfl, hL13, hb13⟩
    have HT12 := hide ((unhide HT11).below hb13)
    have dK6 := hide (sameA_any (W := w13) (p1 := p12) (p2 := p13) (c1 := c12) (c2 := c13) rfl (by have := (unhide HG).l2; omega) ((unhide HL12).below hb13) hL13)
    clear hb13 hL13 dK5
    go_wp2_with fail
    refine (unhide dK6).mono ?_
    rintro e w14 ⟨rfl, m14, hw14⟩
    have HFIN := hide ((unhide HBB).trans (((unhide HT12).below (w' := w14) (by rw [hw14]; exact below_drewN _ _)).bel.mono (unhide HBB).size))
    clear hw14 dK6
    go_wp2_with fail
    go_ret
    exact ⟨rfl, unhide HFIN⟩
  · have hkb : (o.kind == 3) = false := by rw [beq_eq_false_iff_ne]; exact hk
    rw [← hac] at x12
    clear hac x4
    go_enter Tryd.func24, Tryd.ntmps24
    go_upto_region 1 with fail
    rw [← unhide HX, ← unhide HBX]
    clear HX HBX
    go_upto_region 4 with fail
    refine wp_region_last (n := 41) (S := fun W' => W'.cell? ⟨bx, 2, none⟩ = some (.int .i64 o.day)) (by kernel_rfl) (by exact (unhide HT0).day) (fun hHeld => ?_)
    refine tkW 0 ?_; refine tkW 2 ?_
    have dC := hide (asOf_vw (unhide HT0).v)
    unfold ptr at dC
    refine wpAnyL_one (i := 1) (by kernel_rfl) rfl (fun KK hK => ?_)
    go_simp
    go_wp2_with (first | (go_at_call 15; refine (unhide dC).mono ?_; rintro e w2 ⟨rfl, hw⟩; rw [hw]; clear hw w2))
    refine hK.out _ _ (by exact (unhide HT0).day) (fun hHeld => ?_)
    clear hK KK dC
    have dC := hide (asOf_vw (unhide HT0).u)
    unfold ptr at dC
    refine wpAnyL_one (i := 3) (by kernel_rfl) rfl (fun KK hK => ?_)
    go_simp
    go_wp2_with (first | (go_at_call 15; refine (unhide dC).mono ?_; rintro e w2 ⟨rfl, hw⟩; rw [hw]; clear hw w2))
    refine hK.out _ _ (by exact (unhide HT0).day) (fun hHeld => ?_)
    clear hK KK dC
    refine tkW 4 ?_; refine tkW 5 ?_; refine tkW 6 ?_; refine tkW 7 ?_; refine tkW 9 ?_; refine tkW 10 ?_
    have dC := hide (now_vw (unhide HT0).v ha)
    unfold ptr at dC
    refine wpAnyL_one (i := 8) (by kernel_rfl) rfl (fun KK hK => ?_)
    go_simp
    go_wp2_with (first | (go_at_call 16; refine (unhide dC).mono ?_; rintro e w2 ⟨rfl, hb2⟩))
    have HT1 : Hid (Two X w2 dv dw bx Sv Sw C A g o) := (unhide HT0).below hb2
    clear hb2
    refine hK.out _ _ (by exact (unhide HT1).day) (fun hHeld => ?_)
    clear hK KK dC
    have dC := hide (now_vw (unhide HT1).u ha)
    unfold ptr at dC
    refine wpAnyL_one (i := 11) (by kernel_rfl) rfl (fun KK hK => ?_)
    go_simp
    go_wp2_with (first | (go_at_call 16; refine (unhide dC).mono ?_; rintro e w3 ⟨rfl, hb3⟩))
    have HT2 : Hid (Two X w3 dv dw bx Sv Sw C A g o) := (unhide HT1).below hb3
    clear hb3
    refine hK.out _ _ (by exact (unhide HT2).day) (fun hHeld => ?_)
    clear hK KK dC
    unfold ag5
    refine tkW 12 ?_; refine tkW 13 ?_; refine tkW 14 ?_; refine tkW 15 ?_; refine tkW 16 ?_; refine tkW 17 ?_
    refine tkN 18 ?_
    refine tkW 20 ?_; refine tkW 21 ?_; refine tkW 22 ?_
    refine tkN 23 ?_
    have dC := hide (at_vw (unhide HT2).v (unhide HT2).st ha o.day)
    unfold ptr at dC
    refine wpAnyL_one (i := 19) (by kernel_rfl) rfl (fun KK hK => ?_)
    go_simp
    go_wp2_with (first | (go_at_call 17; refine (unhide dC).mono ?_; rintro e w4 ⟨rfl, hb4⟩))
    have HT3 : Hid (Two X w4 dv dw bx Sv Sw C A g o) := (unhide HT2).below hb4
    clear hb4
    refine hK.out _ _ (by exact (unhide HT3).day) (fun hHeld => ?_)
    clear hK KK dC
    have dC := hide (at_vw (unhide HT3).u (unhide HT3).st ha o.day)
    unfold ptr at dC
    refine wpAnyL_one (i := 24) (by kernel_rfl) rfl (fun KK hK => ?_)
    go_simp
    go_wp2_with (first | (go_at_call 17; refine (unhide dC).mono ?_; rintro e w5 ⟨rfl, hb5⟩))
    have HT4 : Hid (Two X w5 dv dw bx Sv Sw C A g o) := (unhide HT3).below hb5
    clear hb5
    refine hK.out _ _ (by exact (unhide HT4).day) (fun hHeld => ?_)
    clear hK KK dC
    unfold ag5
    refine tkW 25 ?_; refine tkW 26 ?_; refine tkW 27 ?_; refine tkW 28 ?_; refine tkW 29 ?_; refine tkW 30 ?_; refine tkW 33 ?_; refine tkW 34 ?_; refine tkW 35 ?_
    have dC := hide (asOf_vw (unhide HT4).v)
    unfold ptr at dC
    refine wpAnyL_one (i := 31) (by kernel_rfl) rfl (fun KK hK => ?_)
    go_simp
    go_wp2_with (first | (go_at_call 15; refine (unhide dC).mono ?_; rintro e w2 ⟨rfl, hw⟩; rw [hw]; clear hw w2))
    refine hK.out _ _ (by exact (unhide HT4).day) (fun hHeld => ?_)
    clear hK KK dC
    have dC := hide (open_vw (unhide HT4).v (unhide HT4).st ha (1 + g))
    unfold ptr at dC
    refine wpAnyL_one (i := 32) (by kernel_rfl) rfl (fun KK hK => ?_)
    go_simp
    go_wp2_with (first | (go_at_call 30; refine (unhide dC).mono ?_; rintro e w6 ⟨p6, c6, R6, rfl, hop6, hL6, hb6, hn6⟩))
    have HT5 : Hid (Two X w6 dv dw bx Sv Sw C A g o) := (unhide HT4).below hb6
    have HL6 := hide hL6; have HO6 := hide hop6; have HN6 := hide hn6
    clear hb6 hL6 hop6 hn6
    refine hK.out _ _ (by exact (unhide HT5).day) (fun hHeld => ?_)
    clear hK KK dC
    have dC := hide (asOf_vw (unhide HT5).v)
    unfold ptr at dC
    refine wpAnyL_one (i := 36) (by kernel_rfl) rfl (fun KK hK => ?_)
    go_simp
    go_wp2_with (first | (go_at_call 15; refine (unhide dC).mono ?_; rintro e w2 ⟨rfl, hw⟩; rw [hw]; clear hw w2))
    refine hK.out _ _ (by exact (unhide HT5).day) (fun hHeld => ?_)
    clear hK KK dC
    have dC := hide (open_vw (unhide HT5).u (unhide HT5).st ha (1 + g))
    unfold ptr at dC
    refine wpAnyL_one (i := 37) (by kernel_rfl) rfl (fun KK hK => ?_)
    go_simp
    go_wp2_with (first | (go_at_call 30; refine (unhide dC).mono ?_; rintro e w7 ⟨p7, c7, R7, rfl, hop7, hL7, hb7, hn7⟩))
    have HT6 : Hid (Two X w7 dv dw bx Sv Sw C A g o) := (unhide HT5).below hb7
    have HL67 := hide ((unhide HL6).below hb7)
    have hRR := (unhide HG).open_same (unhide HO6) hop7
    subst hRR
    have HL7 := hide hL7
    clear hb7 hL7 hop7 hn7
    refine hK.out _ _ (by exact (unhide HT6).day) (fun hHeld => ?_)
    clear hK KK dC
    have dC := hide (sameC_any (W := w7) (p1 := p6) (p2 := p7) (c1 := c6) (c2 := c7) rfl (by have := unhide HN6; omega) (unhide HL67) (unhide HL7))
    unfold ptr at dC
    refine wpAnyL_one (i := 38) (by kernel_rfl) rfl (fun KK hK => ?_)
    go_simp
    go_wp2_with (first | (go_at_call 29; refine (unhide dC).mono ?_; rintro e w8 ⟨rfl, hw8⟩; have HW8 := hide hw8; clear hw8))
    have HT7 : Hid (Two X w8 dv dw bx Sv Sw C A g o) := (unhide HT6).below (by obtain ⟨m8, hw8⟩ := unhide HW8; rw [hw8]; exact below_drewN _ _)
    refine hK.out _ _ (by exact (unhide HT7).day) (fun hHeld => ?_)
    clear hK KK dC
    refine tkW 39 ?_; refine tkW 40 ?_
    refine wpAnyL_done (by kernel_rfl) ?_
    clear hHeld
    have dK := hide (claims_vw (unhide HT7).v)
    unfold ptr at dK
    go_wp2_with fail
    refine (unhide dK).mono ?_
    rintro e w9 ⟨p9, c9, rfl, hL9, hb9⟩
    have HT8 := hide ((unhide HT7).below hb9); have HL9 := hide hL9
    have dK2 := hide (claims_vw (unhide HT8).u)
    unfold ptr at dK2
    clear hb9 hL9 dK
    go_wp2_with fail
    refine (unhide dK2).mono ?_
    rintro e w10 ⟨p10, c10, rfl, hL10, hb10⟩
    have HT9 := hide ((unhide HT8).below hb10)
    have dK3 := hide (sameC_any (W := w10) (p1 := p9) (p2 := p10) (c1 := c9) (c2 := c10) rfl (by have := (unhide HG).l1; omega) ((unhide HL9).below hb10) hL10)
    clear hb10 hL10 dK2
    go_wp2_with fail
    refine (unhide dK3).mono ?_
    rintro e w11 ⟨rfl, m11, hw11⟩
    have HT10 := hide ((unhide HT9).below (w' := w11) (by rw [hw11]; exact below_drewN _ _))
    have dK4 := hide (allots_vw (unhide HT10).v)
    unfold ptr at dK4
    clear hw11 dK3
    go_wp2_with fail
    refine (unhide dK4).mono ?_
    rintro e w12 ⟨p12, c12, rfl, hL12, hb12⟩
    have HT11 := hide ((unhide HT10).below hb12); have HL12 := hide hL12
    have dK5 := hide (allots_vw (unhide HT11).u)
    unfold ptr at dK5
    clear hb12 hL12 dK4
    go_wp2_with fail
    refine (unhide dK5).mono ?_
    rintro e w13 ⟨p13, c13, rfl, hL13, hb13⟩
    have HT12 := hide ((unhide HT11).below hb13)
    have dK6 := hide (sameA_any (W := w13) (p1 := p12) (p2 := p13) (c1 := c12) (c2 := c13) rfl (by have := (unhide HG).l2; omega) ((unhide HL12).below hb13) hL13)
    clear hb13 hL13 dK5
    go_wp2_with fail
    refine (unhide dK6).mono ?_
    rintro e w14 ⟨rfl, m14, hw14⟩
    have HFIN := hide ((unhide HBB).trans (((unhide HT12).below (w' := w14) (by rw [hw14]; exact below_drewN _ _)).bel.mono (unhide HBB).size))
    clear hw14 dK6
    go_wp2_with fail
    go_ret
    exact ⟨rfl, unhide HFIN⟩
end Go.Proofs.YtildpgfhahmgmaaDoor
