/- aged: first (11). -/
import Derived.Test.YtildpgfhahmgmaaDoorFmA
import Derived.Test.YtildpgfhahmgmaaDoorAcA
namespace Go.Proofs.YtildpgfhahmgmaaDoor
open Go Go.Shelf Go.ChangeShapes Go.WideShapes Go.ChangeAt Go.RowKit Go.Maps
set_option linter.unusedVariables false
def c00 : Cl := ⟨⟨#[105]⟩, ⟨#[120]⟩, 10, 20, 100⟩
def x00 : Al := ⟨⟨#[112]⟩, ⟨#[105]⟩, 15, 40⟩
theorem f_inv : invS [] c00 = 0 := by decide
theorem f_all : allS [c00] [] x00 = 0 := by decide
theorem f_adv : advS 0 21 = 0 := by decide
theorem f_now : ag5 (ageS [c00] [x00] [120] 21) = .agg #[.int .i64 0, .int .i64 60, .int .i64 0, .int .i64 0, .int .i64 0] := by
  unfold ag5
  rw [show ageS [c00] [x00] [120] 21 0 = 0 by decide, show ageS [c00] [x00] [120] 21 1 = 60 by decide, show ageS [c00] [x00] [120] 21 2 = 0 by decide, show ageS [c00] [x00] [120] 21 3 = 0 by decide, show ageS [c00] [x00] [120] 21 4 = 0 by decide]
theorem f_at : ag5 (atS [c00] [x00] [120] 14) = .agg #[.int .i64 100, .int .i64 0, .int .i64 0, .int .i64 0, .int .i64 0] := by
  unfold ag5
  rw [show atS [c00] [x00] [120] 14 0 = 100 by decide, show atS [c00] [x00] [120] 14 1 = 0 by decide, show atS [c00] [x00] [120] 14 2 = 0 by decide, show atS [c00] [x00] [120] 14 3 = 0 by decide, show atS [c00] [x00] [120] 14 4 = 0 by decide]
theorem f_open {R : List Cl} (h : OpenIs [c00] [x00] [120] 300 R) : R = [{ c00 with amt := 60 }] := by
  have e : opn [c00] [x00] [120] 300 = [{ c00 with amt := 60 }] := by rfl
  have := h.perm
  rw [e] at this
  exact List.perm_singleton.1 this
theorem ne39a (w : World) : (binOp .neq 39 (.agg #[.int .i64 0, .int .i64 60, .int .i64 0, .int .i64 0, .int .i64 0]) (.agg #[.int .i64 0, .int .i64 60, .int .i64 0, .int .i64 0, .int .i64 0])).run Tryd.prog w = .ok (.bool false) w := by kernel_rfl
theorem ne39b (w : World) : (binOp .neq 39 (.agg #[.int .i64 100, .int .i64 0, .int .i64 0, .int .i64 0, .int .i64 0]) (.agg #[.int .i64 100, .int .i64 0, .int .i64 0, .int .i64 0, .int .i64 0])).run Tryd.prog w = .ok (.bool false) w := by kernel_rfl
theorem Made.below {W w w' : World} {C : List Cl} {A : List Al} {g : Int} (h : Made W w C A g) (hb : Below w.heap.size w w') : Made W w' C A g := by
  obtain ⟨S, h1, h2⟩ := h.vw
  exact ⟨⟨S, h1.below hb, h2⟩, h.bel.trans (hb.mono h.bel.size)⟩
set_option maxRecDepth 100000 in
set_option maxHeartbeats 8000000 in
theorem first_any {W : World} (hS : Stp W) : Calls Tryd.prog 11 #[] W fun e w' => e = .returned (.bool true) ∧ Below W.heap.size W w' := by
  have dN := hide (new_vw (W := W) hS.lt)
  have HS := hide hS
  have dM := hide num_any
  have n1 := ne39a; have n2 := ne39b
  unfold ptr at dN
  clear hS
  go_enter Tryd.func11, Tryd.ntmps11
  go_wp2_with fail
  refine (unhide dN).mono ?_
  rintro e w1 ⟨rfl, hv1, hb1⟩
  have hm1 : Made W w1 [] [] 0 := ⟨⟨_, hv1, fun b hb => by rw [hb]; exact Nat.le_refl _⟩, hb1⟩
  have dI := hide (invoice_any hv1 ((unhide HS).below hb1) (c := c00) (by decide) (by decide) (by decide))
  rw [f_inv] at dI
  have HI : Hid (∀ w', InvOut w1 w' W.heap.size (fun b => b = W.heap.size) [] [] 0 c00 → Made W w' [c00] [] 0) := fun w' h => Made.next hb1 (fun b hb => by rw [hb]; exact Nat.le_refl _) (h.2 f_inv)
  unfold ptr at dI
  unfold c00 at dI
  clear hv1 hb1 dN hm1
  go_wp2_with fail
  refine (unhide dI).mono ?_
  rintro e w2 ⟨rfl, ho⟩
  have hm2 := unhide HI w2 ho
  obtain ⟨S2, hv2, hs2⟩ := hm2.vw
  have dL := hide (allot_any hv2 ((unhide HS).below hm2.bel) (x := x00) (by decide))
  rw [f_all] at dL
  have HL : Hid (∀ w', AllOut w2 w' W.heap.size S2 [c00] [] 0 x00 → Made W w' [c00] [x00] 0) := fun w' h => Made.next hm2.bel hs2 (h.2 f_all)
  unfold ptr x00 at dL
  clear ho hm2 hv2 hs2 dI HI
  go_wp2_with fail
  refine (unhide dM _ _).mono ?_
  rintro e w3 ⟨rfl, hw⟩
  rw [hw]
  clear hw w3
  go_wp2_with fail
  refine (unhide dL).mono ?_
  rintro e w3 ⟨rfl, ho⟩
  have hm3 := unhide HL w3 ho
  obtain ⟨S3, hv3, hs3⟩ := hm3.vw
  have dA := hide (advance_any hv3 ((unhide HS).below hm3.bel) 21)
  rw [f_adv] at dA
  have HA : Hid (∀ w', AdvOut w3 w' W.heap.size S3 [c00] [x00] 0 21 → Made W w' [c00] [x00] 20) := fun w' h => Made.next hm3.bel hs3 (h.2 f_adv)
  unfold ptr at dA
  clear ho hm3 hv3 hs3 dL HL
  go_wp2_with fail
  refine (unhide dM _ _).mono ?_
  rintro e w4 ⟨rfl, hw⟩
  rw [hw]
  clear hw w4
  go_wp2_with fail
  refine (unhide dA).mono ?_
  rintro e w4 ⟨rfl, ho⟩
  have hm4 := unhide HA w4 ho
  obtain ⟨S4, hv4, hs4⟩ := hm4.vw
  have d5 := hide (now_vw hv4 (s := ⟨#[120]⟩) (by decide))
  rw [show (1 : Int) + 20 = 21 from rfl, show (⟨#[120]⟩ : ByteArray).data.toList = [120] from rfl, f_now] at d5
  have HM4 := hide hm4
  unfold ptr at d5
  clear ho hm4 hv4 hs4 dA HA
  go_wp2_with fail
  refine (unhide dM _ _).mono ?_
  rintro e w5 ⟨rfl, hw⟩
  rw [hw]
  clear hw w5
  go_wp2_with fail
  refine (unhide d5).mono ?_
  rintro e w5 ⟨rfl, hb5⟩
  have hm5 := (unhide HM4).below hb5
  obtain ⟨S5, hv5, hs5⟩ := hm5.vw
  have d6 := hide (at_vw hv5 ((unhide HS).below hm5.bel) (s := ⟨#[120]⟩) (by decide) 14)
  rw [show (⟨#[120]⟩ : ByteArray).data.toList = [120] from rfl, f_at] at d6
  have HM5 := hide hm5
  unfold ptr at d6
  clear hb5 hm5 hv5 hs5 d5 HM4
  go_wp2_with fail
  refine (unhide d6).mono ?_
  rintro e w6 ⟨rfl, hb6⟩
  have hm6 := (unhide HM5).below hb6
  obtain ⟨S6, hv6, hs6⟩ := hm6.vw
  have d7 := hide (open_vw hv6 ((unhide HS).below hm6.bel) (s := ⟨#[120]⟩) (by decide) 300)
  rw [show (⟨#[120]⟩ : ByteArray).data.toList = [120] from rfl] at d7
  have HM6 := hide hm6
  unfold ptr at d7
  clear hb6 hm6 hv6 hs6 d6 HM5
  go_wp2_with fail
  refine (unhide d7).mono ?_
  rintro e w7 ⟨pp, cc, R, rfl, hop, hL, hb7, _⟩
  have hR := f_open hop
  subst hR
  have hm7 := (unhide HM6).below hb7
  obtain ⟨S7, hv7, hs7⟩ := hm7.vw
  have d8 := hide (asOf_vw hv7)
  rw [show (1 : Int) + 20 = 21 from rfl] at d8
  obtain ⟨b, off, e7, _, hr⟩ := hL.2 0 (by simp)
  subst e7
  have k4 : w7.cell? ⟨b, off + 4, none⟩ = some (.int .i64 60) := by
    have := hr 4 _ rfl
    simpa using this
  have k0 : w7.cell? ⟨b, off, none⟩ = some (.string ⟨#[105]⟩) := by
    have := hr 0 _ rfl
    simpa [c00] using this
  have HM7 := hide hm7.bel
  unfold ptr at d8
  clear hop hL hb7 hm7 hv7 hs7 hr d7 HM6
  simp only [List.length_singleton]
  go_wp2_with fail
  refine (unhide d8).mono ?_
  rintro e w8 ⟨rfl, hw⟩
  rw [hw]
  clear hw w8
  go_wp2_with fail
  go_ret
  exact ⟨rfl, unhide HM7⟩
end Go.Proofs.YtildpgfhahmgmaaDoor
