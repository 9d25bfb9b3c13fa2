import Derived.Test.YtfclknlpdcanpaaGreatDoorW25
import Derived.Test.YtfclknlpdcanpaaGreatDoorW13
/- aged: Allot (26). -/
namespace Go.Proofs.YtfclknlpdcanpaaGreatDoor
open Go Go.Shelf Go.ChangeShapes Go.WideShapes Go.ChangeAt Go.RowKit Go.Maps
set_option linter.unusedVariables false
def ld51 (x : Value) : Sem Value := Instr.loadAt 58 x
theorem ld51_is (x : Value) : Instr.loadAt 58 x = ld51 x := rfl
theorem size51 : (Tryz.prog.info? 58).map (·.size) = some 4 := by kernel_rfl
theorem run_ld51 {w : World} {b o : Nat} {x : Al} (h : w.rangeAt b o x.vals) : (ld51 (.pointer (some ⟨b, o, none⟩))).run Tryz.prog w = .ok (.agg #[.string x.pay, .string x.inv, .int .i64 x.day, .int .i64 x.amt]) w :=
  run_loadAt_mid (P := Tryz.prog) w b o 58 x.vals _ h Tryz.underlying58 rfl size51
attribute [local go_sem ↓] ld51_is
/-- what Allot leaves -/
def AllOut (W w' : World) (d : Nat) (S : Nat → Prop) (C : List Cl) (A : List Al) (g : Int) (x : Al) : Prop := (allS C A x ≠ 0 → Below W.heap.size W w') ∧ (allS C A x = 0 → VwNext W w' d S C (A ++ [x]) g)
theorem AllOut.bad {W w' : World} {d : Nat} {S : Nat → Prop} {C : List Cl} {A : List Al} {g : Int} {x : Al} (n : Int) (h : allS C A x = n) (h0 : n ≠ 0) (hb : Below W.heap.size W w') : AllOut W w' d S C A g x := ⟨fun _ => hb, fun e => absurd (h.symm.trans e) h0⟩
theorem eqn84 (w : World) : (binOp .eql 101 (.pointer none) (.pointer none)).run Tryz.prog w = .ok (.bool true) w := by kernel_rfl
set_option maxRecDepth 100000 in
set_option maxHeartbeats 8000000 in
theorem allot_arg {W : World} {d : Nat} {S : Nat → Prop} {C : List Cl} {A : List Al} {g : Int} {x : Al} (hx : ¬ (dayB x.day = true ∧ ¬ x.amt < 1)) :
    Calls Tryz.prog 19 #[ptr d, .agg #[.string x.pay, .string x.inv, .int .i64 x.day, .int .i64 x.amt]] W fun e w' => e = .returned (.int .i64 (allS C A x)) ∧ AllOut W w' d S C A g x := by
  have hv : allS C A x = 1 := by unfold allS; rw [if_pos hx]
  have HO : Hid (∀ w', Below W.heap.size W w' → AllOut W w' d S C A g x) := fun w' => AllOut.bad 1 hv (by decide)
  rw [hv]
  have d1 := hide (isDay_any x.day)
  have HB := hide ((Below.refl W.heap.size W).alloc (Nat.le_refl _) (.cells #[.string x.pay, .string x.inv, .int .i64 x.day, .int .i64 x.amt] 58))
  unfold ptr
  clear hv
  cases h1 : dayB x.day with
  | false =>
    rw [h1] at d1
    clear hx h1
    go_enter Tryz.func19, Tryz.ntmps19
    go_wp2_with (first | (go_at_call 101; refine (unhide d1 _).mono ?_; rintro e w1 ⟨rfl, hw⟩; rw [hw]; clear hw w1))
    go_ret
    exact ⟨rfl, unhide HO _ (unhide HB)⟩
  | true =>
    rw [h1] at d1
    have h4 : x.amt < 1 := by
      by_cases h4 : x.amt < 1
      · exact h4
      · exact absurd ⟨h1, h4⟩ hx
    clear hx h1
    go_enter Tryz.func19, Tryz.ntmps19
    go_wp2_with (first | (go_at_call 101; refine (unhide d1 _).mono ?_; rintro e w1 ⟨rfl, hw⟩; rw [hw]; clear hw w1))
    go_ret
    exact ⟨rfl, unhide HO _ (unhide HB)⟩
set_option maxRecDepth 100000 in
set_option maxHeartbeats 16000000 in
theorem allot_any {W : World} {d : Nat} {S : Nat → Prop} {C : List Cl} {A : List Al} {g : Int} (hV : Vw W d S C A g) (hS : Stp W) {x : Al} (hk : x.inv.size ≤ maxLen) :
    Calls Tryz.prog 19 #[ptr d, .agg #[.string x.pay, .string x.inv, .int .i64 x.day, .int .i64 x.amt]] W fun e w' => e = .returned (.int .i64 (allS C A x)) ∧ AllOut W w' d S C A g x := by
  by_cases hx : dayB x.day = true ∧ ¬ x.amt < 1
  case neg => exact allot_arg hx
  case pos =>
  obtain ⟨h1, h4⟩ := hx
  obtain ⟨G, hI, hR, hC, hA, hg, hown⟩ := hV.ex
  have d1 := hide (isDay_any x.day)
  rw [h1] at d1
  have hd2 : x.day ≤ 3652059 := by unfold dayB at h1; simp at h1; omega
  obtain ⟨bx, hbx⟩ : ∃ bx, bx = W.heap.size := ⟨_, rfl⟩
  obtain ⟨X, hX⟩ : ∃ X, X = W.alloc (.cells #[.string x.pay, .string x.inv, .int .i64 x.day, .int .i64 x.amt] 58) := ⟨_, rfl⟩
  have hbX : Below W.heap.size W X := by rw [hX]; exact (Below.refl _ _).alloc (Nat.le_refl _) _
  have hRX : Raw X d G := hR.below hbX
  have hXb : X.heap[bx]? = some (.cells #[.string x.pay, .string x.inv, .int .i64 x.day, .int .i64 x.amt] 58 (0, 0)) := by rw [hX, hbx]; exact heap_new _ _
  obtain ⟨pc, cc, hva, _, _⟩ := row_slice hR.ra
  have c3 : X.cell? ⟨d, 3, none⟩ = some (.slice pc G.al.length cc) := by rw [cell_at hRX.ob]; show some G.va = _; rw [hva]
  have x2 : X.cell? ⟨bx, 2, none⟩ = some (.int .i64 x.day) := by rw [cell_at hXb]; rfl
  have x3 : X.cell? ⟨bx, 3, none⟩ = some (.int .i64 x.amt) := by rw [cell_at hXb]; rfl
  have hv0 : ∀ z, (if A.length = 1000 then (2 : Int) else match findC C x.inv.data.toList with | none => 73 | some c => if x.day < c.day then 66 else if x.amt > c.amt - sumAll (ptsOf A x.inv.data.toList) then 75 else 0) = z → allS C A x = z := fun z hz => by unfold allS; rw [if_neg (fun h => h ⟨h1, h4⟩)]; exact hz
  have HXX := hide hX; have HBX := hide hbx
  by_cases hl : A.length = 1000
  · have hv : allS C A x = 2 := hv0 2 (by rw [if_pos hl])
    have HO := hide (AllOut.bad (W := W) (w' := X) (d := d) (S := S) (g := g) 2 hv (by decide) hbX)
    have hl3 : (G.al.length : Int) = 1000 := by rw [hA]; omega
    have hl2 : ((G.al.length : Int) == 1000) = true := by rw [beq_iff_eq]; exact hl3
    rw [hv]
    unfold ptr
    clear hv hV hI hR hC hA hg hown hRX hXb hva hl hbX h1 hX hbx hv0 hd2
    go_enter Tryz.func19, Tryz.ntmps19
    go_wp2_with fail
    rw [← unhide HXX, ← unhide HBX]
    clear HXX HBX
    refine (unhide d1 _).mono ?_
    rintro e w1 ⟨rfl, hw⟩
    rw [hw]
    clear hw w1
    go_wp2_with fail
    go_ret
    exact ⟨rfl, unhide HO⟩
  have hlt : G.al.length < 1000 := by have := hI.l2; rw [hA] at this ⊢; omega
  have hl3 : ¬ (G.al.length : Int) = 1000 := by omega
  have hl2 : ((G.al.length : Int) == 1000) = false := by rw [beq_eq_false_iff_ne]; exact hl3
  have hRD : Raw X.drew d G := hRX.keep (fun _ _ => rfl)
  have y1 : X.drew.cell? ⟨d, 1, none⟩ = some (.map G.mb) := by rw [cell_at hRD.ob]; rfl
  have y0 : X.drew.cell? ⟨bx, 1, none⟩ = some (.string x.inv) := by
    show X.cell? _ = _
    rw [cell_at hXb]; rfl
  have hlk := hRD.lookK hk
  have hfd := hI.toInv0.find x.inv.data.toList
  rw [hC] at hfd
  cases hkf : G.kf x.inv.data.toList with
  | none =>
    have hv : allS C A x = 73 := hv0 73 (by rw [if_neg hl, hfd, hkf]; rfl)
    have HO := hide (AllOut.bad (W := W) (w' := X.drew) (d := d) (S := S) (g := g) 73 hv (by decide) hbX.drew)
    rw [hkf] at hlk
    unfold optp at hlk
    have heq := eqn84
    rw [hv]
    unfold ptr
    clear hv hV hI hR hC hA hg hown hRX hXb hva hl hbX h1 hX hbx hv0 hd2 hRD hkf hlt hfd
    go_enter Tryz.func19, Tryz.ntmps19
    go_wp2_with fail
    rw [← unhide HXX, ← unhide HBX]
    clear HXX HBX
    refine (unhide d1 _).mono ?_
    rintro e w1 ⟨rfl, hw⟩
    rw [hw]
    clear hw w1
    go_wp2_with fail
    refine wp_region_last (n := 8) (S := fun W' => W'.cell? ⟨d, 1, none⟩ = some (.map G.mb) ∧ W'.cell? ⟨bx, 1, none⟩ = some (.string x.inv) ∧ (Instr.lookup 95 (.map G.mb) (.string x.inv) false).run Tryz.prog W' = .ok (.pointer none) W') (by kernel_rfl) (by exact ⟨y1, y0, hlk⟩) (fun hHeld => ?_)
    refine tkW 0 ?_; refine tkW 1 ?_; refine tkW 2 ?_; refine tkN 3 ?_; refine tkW 4 ?_; refine tkN 5 ?_; refine tkN 6 ?_; refine tkW 7 ?_
    refine wpAnyL_done (by kernel_rfl) ?_
    clear hHeld hlk y1 y0
    go_wp2_with fail
    go_ret
    exact ⟨rfl, unhide HO⟩
  | some p =>
    obtain ⟨hp, hpk⟩ := (hI.kf _ p).1 hkf
    have hpb : p ∈ G.bs := by rw [← hI.pb]; exact hp
    rw [hkf] at hlk hfd
    unfold optp ptr at hlk
    have hcb := hRX.cb p hpb
    have p2 : X.drew.drew.cell? ⟨p, 2, none⟩ = some (.int .i64 (G.cl p).day) := by
      show X.cell? _ = _
      rw [cell_at hcb]; rfl
    have p5 : X.drew.drew.drew.cell? ⟨p, 5, none⟩ = some (.int .i64 (G.lf p)) := by
      show X.cell? _ = _
      rw [cell_at hcb]; rfl
    have hptA : G.pt p = ptsOf A x.inv.data.toList := by rw [hI.pt p hp, hpk, hA]
    have hlf := hI.lf p hp
    rw [hptA] at hlf
    by_cases he : x.day < (G.cl p).day
    · have hv : allS C A x = 66 := hv0 66 (by rw [if_neg hl, hfd]; show (if x.day < (G.cl p).day then (66 : Int) else _) = _; rw [if_pos he])
      have HO := hide (AllOut.bad (W := W) (w' := X.drew.drew) (d := d) (S := S) (g := g) 66 hv (by decide) hbX.drew.drew)
      rw [hv]
      unfold ptr
      clear hv hV hI hR hC hA hg hown hRX hXb hva hl hbX h1 hX hbx hv0 hd2 hRD hkf hlt hfd hptA hlf hpk hcb
      go_enter Tryz.func19, Tryz.ntmps19
      go_wp2_with fail
      rw [← unhide HXX, ← unhide HBX]
      clear HXX HBX
      refine (unhide d1 _).mono ?_
      rintro e w1 ⟨rfl, hw⟩
      rw [hw]
      clear hw w1
      go_wp2_with fail
      refine wp_region_last (n := 8) (S := fun W' => W'.cell? ⟨d, 1, none⟩ = some (.map G.mb) ∧ W'.cell? ⟨bx, 1, none⟩ = some (.string x.inv) ∧ (Instr.lookup 95 (.map G.mb) (.string x.inv) false).run Tryz.prog W' = .ok (.pointer (some ⟨p, 0, none⟩)) W') (by kernel_rfl) (by exact ⟨y1, y0, hlk⟩) (fun hHeld => ?_)
      refine tkW 0 ?_; refine tkW 1 ?_; refine tkW 2 ?_; refine tkN 3 ?_; refine tkW 4 ?_; refine tkN 5 ?_; refine tkN 6 ?_; refine tkW 7 ?_
      refine wpAnyL_done (by kernel_rfl) ?_
      clear hHeld hlk y1 y0
      go_wp2_with fail
      refine wp_region_last (n := 9) (S := fun W' => W'.cell? ⟨bx, 2, none⟩ = some (.int .i64 x.day) ∧ W'.cell? ⟨p, 2, none⟩ = some (.int .i64 (G.cl p).day)) (by kernel_rfl) (by exact ⟨x2, p2⟩) (fun hHeld => ?_)
      refine tkW 0 ?_; refine tkN 1 ?_; refine tkW 2 ?_; refine tkW 3 ?_; refine tkW 4 ?_; refine tkW 5 ?_; refine tkN 6 ?_; refine tkW 7 ?_; refine tkW 8 ?_
      refine wpAnyL_done (by kernel_rfl) ?_
      clear hHeld
      go_wp2_with fail
      go_ret
      exact ⟨rfl, unhide HO⟩
    by_cases ho : x.amt > G.lf p
    · have hv : allS C A x = 75 := hv0 75 (by rw [if_neg hl, hfd]; show (if x.day < (G.cl p).day then (66 : Int) else if x.amt > (G.cl p).amt - sumAll (ptsOf A x.inv.data.toList) then 75 else 0) = _; rw [if_neg he, ← hlf, if_pos ho])
      have HO := hide (AllOut.bad (W := W) (w' := X.drew.drew.drew) (d := d) (S := S) (g := g) 75 hv (by decide) hbX.drew.drew.drew)
      rw [hv]
      unfold ptr
      clear hv hV hI hR hC hA hg hown hRX hXb hva hl hbX h1 hX hbx hv0 hd2 hRD hkf hlt hfd hptA hlf hpk hcb
      go_enter Tryz.func19, Tryz.ntmps19
      go_wp2_with fail
      rw [← unhide HXX, ← unhide HBX]
      clear HXX HBX
      refine (unhide d1 _).mono ?_
      rintro e w1 ⟨rfl, hw⟩
      rw [hw]
      clear hw w1
      go_wp2_with fail
      refine wp_region_last (n := 8) (S := fun W' => W'.cell? ⟨d, 1, none⟩ = some (.map G.mb) ∧ W'.cell? ⟨bx, 1, none⟩ = some (.string x.inv) ∧ (Instr.lookup 95 (.map G.mb) (.string x.inv) false).run Tryz.prog W' = .ok (.pointer (some ⟨p, 0, none⟩)) W') (by kernel_rfl) (by exact ⟨y1, y0, hlk⟩) (fun hHeld => ?_)
      refine tkW 0 ?_; refine tkW 1 ?_; refine tkW 2 ?_; refine tkN 3 ?_; refine tkW 4 ?_; refine tkN 5 ?_; refine tkN 6 ?_; refine tkW 7 ?_
      refine wpAnyL_done (by kernel_rfl) ?_
      clear hHeld hlk y1 y0
      go_wp2_with fail
      refine wp_region_last (n := 9) (S := fun W' => W'.cell? ⟨bx, 2, none⟩ = some (.int .i64 x.day) ∧ W'.cell? ⟨p, 2, none⟩ = some (.int .i64 (G.cl p).day)) (by kernel_rfl) (by exact ⟨x2, p2⟩) (fun hHeld => ?_)
      refine tkW 0 ?_; refine tkN 1 ?_; refine tkW 2 ?_; refine tkW 3 ?_; refine tkW 4 ?_; refine tkW 5 ?_; refine tkN 6 ?_; refine tkW 7 ?_; refine tkW 8 ?_
      refine wpAnyL_done (by kernel_rfl) ?_
      clear hHeld
      go_wp2_with fail
      refine wp_region_last (n := 8) (S := fun W' => W'.cell? ⟨bx, 3, none⟩ = some (.int .i64 x.amt) ∧ W'.cell? ⟨p, 5, none⟩ = some (.int .i64 (G.lf p))) (by kernel_rfl) (by exact ⟨x3, p5⟩) (fun hHeld => ?_)
      refine tkW 0 ?_; refine tkN 1 ?_; refine tkW 2 ?_; refine tkW 3 ?_; refine tkW 4 ?_; refine tkN 5 ?_; refine tkW 6 ?_; refine tkW 7 ?_
      refine wpAnyL_done (by kernel_rfl) ?_
      clear hHeld
      go_wp2_with fail
      go_ret
      exact ⟨rfl, unhide HO⟩
    have hv : allS C A x = 0 := hv0 0 (by rw [if_neg hl, hfd]; show (if x.day < (G.cl p).day then (66 : Int) else if x.amt > (G.cl p).amt - sumAll (ptsOf A x.inv.data.toList) then 75 else 0) = _; rw [if_neg he, ← hlf, if_neg ho])
    obtain ⟨X4, hX4⟩ : ∃ X4, X4 = X.drew.drew.drew.drew := ⟨_, rfl⟩
    have hR4 : Raw X4 d G := by rw [hX4]; exact hRX.keep (fun _ _ => rfl)
    have hs4 : X4.heap.size = X.heap.size := by rw [hX4]; rfl
    have hXs : X.heap.size = W.heap.size + 1 := by rw [hX]; simp
    have hb4 : X4.heap[bx]? = some (.cells #[.string x.pay, .string x.inv, .int .i64 x.day, .int .i64 x.amt] 58 (0, 0)) := by rw [hX4]; exact hXb
    have hno : ∀ b, G.own d b → b < W.heap.size := fun b hb => hR.lt hb
    have hpd : p ≠ d := fun e => by have h5 := hR.tyB hpb; rw [e, hR.tyD] at h5; cases h5
    have hpl : p < W.heap.size := hno p (own_bs hpb)
    have hdl : d < W.heap.size := hno d own_d
    obtain ⟨p6, c6, w6, r6, ap6⟩ := app_one kA_ok hR4.ra (by omega) x #[.string x.pay, .string x.inv, .int .i64 x.day, .int .i64 x.amt] rfl 60 58
    obtain ⟨n6, hn6⟩ : ∃ n6, n6 = G.al.length + 1 := ⟨_, rfl⟩
    rw [← hn6] at r6 ap6
    obtain ⟨Y1, hY1⟩ : ∃ Y1, Y1 = w6.setCell ⟨d, 3, none⟩ (.slice p6 n6 c6) := ⟨_, rfl⟩
    have N1 := hR4.growAl (v' := .slice p6 n6 c6) (x := x) (by rw [← hn6]; exact ap6)
    rw [← hY1] at N1
    have hvad : G.va.ownBlock ≠ some d := fun e => by have := row_ty hR4.ra e; rw [hR4.tyD] at this; cases this
    have e6d : w6.heap[d]? = X4.heap[d]? := ap6.fr.block d (by omega) hvad
    have m6 : w6.cell? ⟨d, 3, none⟩ = some G.va := by simp [World.cell?, e6d, hR4.ob, Gh.agV]
    have f6 : w6.frozen? ⟨d, 3, none⟩ = false := by simp [World.frozen?, e6d, hR4.ob]
    have l6 : X4.cell? ⟨d, 3, none⟩ = some G.va := by rw [cell_at hR4.ob]; rfl
    have b6 : w6.heap[bx]? = X4.heap[bx]? := ap6.fr.block bx (by omega) (fun e => by have := hno bx (own_va e); omega)
    have ld4 := run_ld51 (w := X4) (b := bx) (o := 0) (x := x) (fun i v hv => by rw [Nat.zero_add, cell_at hb4]; simpa [Al.vals] using hv)
    have ld5 := run_ld51 (w := X4.alloc (.cells #[.string x.pay, .string x.inv, .int .i64 x.day, .int .i64 x.amt] 58)) (b := bx) (o := 0) (x := x) (fun i v hv => by
      rw [World.cell?_alloc_lt _ _ _ (by show bx < X4.heap.size; omega), Nat.zero_add, cell_at hb4]; simpa [Al.vals] using hv)
    have l6a : (X4.alloc (.cells #[.string x.pay, .string x.inv, .int .i64 x.day, .int .i64 x.amt] 58)).cell? ⟨d, 3, none⟩ = some G.va := by
      rw [World.cell?_alloc_lt _ _ _ (by show d < X4.heap.size; omega)]; exact l6
    have ld6 := run_ld51 (w := w6) (b := bx) (o := 0) (x := x) (fun i v hv => by rw [Nat.zero_add, cell_at (b6.trans hb4)]; simpa [Al.vals] using hv)
    have hbY1 : Y1.heap[bx]? = some (.cells #[.string x.pay, .string x.inv, .int .i64 x.day, .int .i64 x.amt] 58 (0, 0)) := (N1.fr.block bx (by omega) (fun e => by have := hno bx e; omega)).trans hb4
    have hsz1 : X4.heap.size ≤ Y1.heap.size := N1.fr.size
    obtain ⟨G1, hG1⟩ : ∃ G1 : Gh, G1 = { G with va := .slice p6 n6 c6, al := G.al ++ [x] } := ⟨_, rfl⟩
    rw [← hG1] at N1
    have q5 : Y1.drew.cell? ⟨p, 5, none⟩ = some (.int .i64 (G.lf p)) := by
      show Y1.cell? _ = _
      rw [cell_at (N1.raw.cb p (by rw [hG1]; exact hpb)), hG1]; rfl
    have q5f : Y1.drew.frozen? ⟨p, 5, none⟩ = false := by
      show Y1.frozen? _ = _
      exact froz_at (N1.raw.cb p (by rw [hG1]; exact hpb))
    have q3 : Y1.drew.cell? ⟨bx, 3, none⟩ = some (.int .i64 x.amt) := by
      show Y1.cell? _ = _
      rw [cell_at hbY1]; rfl
    have hlf0 := hI.lf p hp
    have hsum := hI.sum p hp
    have hsn := sumAll_nonneg (hI.toInv0.pos hp)
    have hok := hI.ok p hp
    have ha2 := hok.a2
    have hwl : IntKind.i64.wrap (G.lf p - x.amt) = G.lf p - x.amt := by rw [IntKind.wrap_i64]; omega
    obtain ⟨Y2, hY2⟩ : ∃ Y2, Y2 = Y1.drew.setCell ⟨p, 5, none⟩ (.int .i64 (G.lf p - x.amt)) := ⟨_, rfl⟩
    obtain ⟨G2, hG2⟩ : ∃ G2 : Gh, G2 = { G1 with lf := fun y => if y = p then G.lf p - x.amt else G.lf y } := ⟨_, rfl⟩
    have N2 : Next Y1 Y2 d G1 G2 := by
      have hpb1 : p ∈ G1.bs := by rw [hG1]; exact hpb
      refine N1.raw.scalar (by rw [hG2]) (by rw [hG2]) (by rw [hG2]) (by rw [hG2]) (by rw [hG2]) (by rw [hG2]) (by rw [hG2]) (by rw [hG2]) (by rw [hG2]) (by rw [hG2]) (by rw [hG2]) (by rw [hG2]) (by rw [hG2]) (by rw [hG2]) (by rw [hG2]) (by rw [hG2]) (by rw [hG2]) ?_ ?_ (fun y hy => ?_) (fun k q hq => ?_)
      · rw [hY2]; exact (Fr.refl Y1 _).drew.setCell (.inl (.inr (.inl hpb1))) _
      · rw [hY2, Below.heap_setCell _ _ _ _ (fun e => hpd e.symm), hG2]; exact N1.raw.ob
      · by_cases e : y = p
        · rw [e, hY2, Go.heap_setCell_same _ _ _ _ _ _ (show Y1.drew.heap[p]? = _ from N1.raw.cb p hpb1), hG2, hG1]
          unfold Gh.clV
          simp
        · rw [hY2, Below.heap_setCell _ _ _ _ e, hG2]
          refine (N1.raw.cb y hy).trans ?_
          rw [hG1]
          unfold Gh.clV
          simp [e]
      · rw [hY2, Below.heap_setCell _ _ _ _ (fun e => by have h5 := N1.raw.tyQ hq; rw [e, N1.raw.tyB hpb1] at h5; cases h5), hG2]; exact N1.raw.ac k q hq
    have hpb2 : p ∈ G2.bs := by rw [hG2, hG1]; exact hpb
    have hpv2 : G2.pv p = G.pv p := by rw [hG2, hG1]
    have hpt2 : G2.pt p = G.pt p := by rw [hG2, hG1]
    have hRY : Raw Y2.drew d G2 := N2.raw.keep (fun _ _ => rfl)
    obtain ⟨p8, c8, w8, r8, ap8⟩ := app_one kQ_ok (hRY.pr p hpb2) (by rw [hpt2]; have := hI.toInv0.len hp; omega) (x.day, x.amt) #[.int .i64 x.day, .int .i64 x.amt] rfl 105 112
    have N3 := hRY.growPt hpb2 ap8
    obtain ⟨n8, hn8⟩ : ∃ n8, n8 = (G2.pt p).length + 1 := ⟨_, rfl⟩
    rw [← hn8] at r8 N3
    rw [hpv2] at r8
    obtain ⟨Y3, hY3⟩ : ∃ Y3, Y3 = w8.setCell ⟨p, 6, none⟩ (.slice p8 n8 c8) := ⟨_, rfl⟩
    rw [← hY3] at N3
    have hsz2 : Y1.heap.size = Y2.heap.size := by rw [hY2]; simp
    have hbY2 : Y2.heap[bx]? = some (.cells #[.string x.pay, .string x.inv, .int .i64 x.day, .int .i64 x.amt] 58 (0, 0)) := by rw [hY2, Below.heap_setCell _ _ _ _ (by show bx ≠ p; omega)]; exact hbY1
    have hcb2 := hRY.cb p hpb2
    have hnow : ∀ b, G2.own d b → b < W.heap.size ∨ X4.heap.size ≤ b := fun b hb => by
      rcases N2.own b hb with h | h
      · rcases N1.own b h with h | h
        · exact .inl (hno b h)
        · exact .inr h
      · exact .inr (by omega)
    have ep8 : w8.heap[p]? = Y2.drew.heap[p]? := ap8.fr.block p (heap_lt hcb2) (fun e => by have := row_ty (hRY.pr p hpb2) e; rw [hRY.tyB hpb2] at this; cases this)
    have eb8 : w8.heap[bx]? = Y2.drew.heap[bx]? := ap8.fr.block bx (by show bx < Y2.heap.size; omega) (fun e => by rcases hnow bx (own_pv hpb2 e) with h | h <;> omega)
    have s6 : Y2.drew.cell? ⟨p, 6, none⟩ = some (G.pv p) := by rw [cell_at hcb2]; show some (G2.pv p) = _; rw [hpv2]
    have s2 : Y2.drew.cell? ⟨bx, 2, none⟩ = some (.int .i64 x.day) := by
      show Y2.cell? _ = _
      rw [cell_at hbY2]; rfl
    have s3 : Y2.drew.cell? ⟨bx, 3, none⟩ = some (.int .i64 x.amt) := by
      show Y2.cell? _ = _
      rw [cell_at hbY2]; rfl
    have hpl2 : p < Y2.heap.size := by omega
    have hbl2 : bx < Y2.heap.size := by omega
    have t6 : (Y2.drew.alloc (.cells #[.int .i64 x.day, .int .i64 x.amt] 112)).cell? ⟨p, 6, none⟩ = some (G.pv p) := by rw [World.cell?_alloc_lt _ _ _ (show p < Y2.drew.heap.size from hpl2)]; exact s6
    have t2 : (Y2.drew.alloc (.cells #[.int .i64 x.day, .int .i64 x.amt] 112)).cell? ⟨bx, 2, none⟩ = some (.int .i64 x.day) := by rw [World.cell?_alloc_lt _ _ _ (show bx < Y2.drew.heap.size from hbl2)]; exact s2
    have t3 : (Y2.drew.alloc (.cells #[.int .i64 x.day, .int .i64 x.amt] 112)).cell? ⟨bx, 3, none⟩ = some (.int .i64 x.amt) := by rw [World.cell?_alloc_lt _ _ _ (show bx < Y2.drew.heap.size from hbl2)]; exact s3
    have u6 : w8.cell? ⟨p, 6, none⟩ = some (G.pv p) := by rw [World.cell?_of_block (a := ⟨p, 6, none⟩) ep8]; exact s6
    have u6f : w8.frozen? ⟨p, 6, none⟩ = false := by rw [World.frozen?_of_block (a := ⟨p, 6, none⟩) ep8]; exact froz_at hcb2
    have u2 : w8.cell? ⟨bx, 2, none⟩ = some (.int .i64 x.day) := by rw [World.cell?_of_block (a := ⟨bx, 2, none⟩) eb8]; exact s2
    have u3 : w8.cell? ⟨bx, 3, none⟩ = some (.int .i64 x.amt) := by rw [World.cell?_of_block (a := ⟨bx, 3, none⟩) eb8]; exact s3
    have v2 : Y3.cell? ⟨bx, 2, none⟩ = some (.int .i64 x.day) := by
      rw [hY3]
      show (w8.setCell ⟨p, 6, none⟩ _).cell? _ = _
      rw [World.cell?_of_block (a := ⟨bx, 2, none⟩) (Below.heap_setCell w8 ⟨p, 6, none⟩ _ bx (by show bx ≠ p; omega))]
      exact u2
    obtain ⟨G3, hG3⟩ : ∃ G3 : Gh, G3 = G2.parted p (.slice p8 n8 c8) (x.day, x.amt) := ⟨_, rfl⟩
    rw [← hG3] at N3
    have hGa : G3 = G.alloted p (.slice p6 n6 c6) (.slice p8 n8 c8) x := by rw [hG3, hG2, hG1]; rfl
    have NN : Next X4 Y3 d G G3 := (N1.trans (N2.drewN 1)).trans N3
    obtain ⟨Y4, hY4⟩ : ∃ Y4, Y4 = Y3.alloc (.cells #[.int .i64 x.day] 3) := ⟨_, rfl⟩
    have hbel4 : Below Y3.heap.size Y3 Y4 := by rw [hY4]; exact (Below.refl _ _).alloc (Nat.le_refl _) _
    have NN4 : Next X4 Y4 d G G3 := NN.below hbel4
    have fr0 : Fr W X4 S := by rw [hX4]; exact (Fr.of_below hbX S).drew.drew.drew.drew
    have frS : Fr W Y4 S := fr0.trans (NN4.fr.mono (fun i _ hx => hown i hx)) (fun _ _ h => h)
    have hst4 : Stp Y4 := hS.keep (frS.block 0 hS.lt hV.z)
    have hI0 := hI.alloted0 (.slice p6 n6 c6) (.slice p8 n8 c8) hkf hlt (by omega) hd2 (by omega) (by omega)
    rw [← hGa] at hI0
    have hz3 : ¬ G3.own d 0 := fun hb => by
      rcases NN4.own 0 hb with h | h
      · exact hV.z (hown 0 h)
      · have := hS.lt; omega
    have hps3 : G3.ps = G.ps := by rw [hGa]; rfl
    have hbs3 : G3.bs = G.bs := by rw [hGa]; rfl
    obtain ⟨q, hq⟩ := some_of ((hI0.qa (G3.key p)).2 ⟨p, by rw [hps3]; exact hp, rfl⟩)
    have htn3 : G3.tn = G.tn := by rw [hGa]; rfl
    have dF := hide (follow_any (W := Y4) (d := d) (p := p) (q := q) (G := G3) NN4.raw (by rw [hbs3]; exact hpb) hq hst4 hz3 (hI0.showOK (by rw [hps3]; exact hp)) (by rw [htn3]; exact hI.hp) (pd := some ⟨Y3.heap.size, 0, none⟩) (nd := 1) (cd := 1) (L := [x.day]) (by rw [hY4]; exact one_lies Y3 x.day 3 _ rfl) rfl (fun b off e hb => by
      cases e
      have := NN.raw.lt hb
      omega) (by rw [htn3]; have h5 := hI.l3; have h6 := hI.l1; have h7 := hI.l2; omega))
    have HOUT : Hid (∀ w', FollowOut Y4 w' d G3 p [x.day] → AllOut W w' d S C A g x) := fun w' ⟨vt', H', hM, hNx⟩ => by
      refine ⟨fun e => absurd hv e, fun _ => ?_⟩
      rw [hGa] at hM
      have i1 := hI.alloted (vt := vt') hkf hlt (by omega) hd2 (by omega) (by omega) hM
      have hcl3 : G3.cl p = G.cl p := by rw [hGa]; rfl
      have hpt3 : G3.pt p = G.pt p ++ [(x.day, x.amt)] := by rw [hGa]; simp [Gh.alloted]
      have hgo3 : G3.gone = G.gone := by rw [hGa]; rfl
      have es : shr (G3.cl p) (G3.pt p) (1 + G3.gone) = shr (G.cl p) (G.pt p ++ [(x.day, x.amt)]) (1 + G.gone) := by rw [hcl3, hpt3, hgo3]
      rw [es] at hNx
      rw [← hGa] at i1
      have NF := NN4.trans hNx
      refine ⟨_, ⟨⟨_, i1, NF.raw, ?_, ?_, ?_, fun b hb => hb⟩, fun b hb => NF.raw.lt hb, fun hb => ?_⟩, fr0.trans (NF.fr.mono (fun i _ hx => hown i hx)) (fun _ _ h => h), fun b hb => ?_⟩
      · show G3.ps.map G3.cl = C
        rw [hGa, ← hC]; rfl
      · show G3.al = A ++ [x]
        rw [hGa, ← hA]; rfl
      · show G3.gone = g
        rw [hgo3, hg]
      · rcases NF.own 0 hb with h | h
        · exact hV.z (hown 0 h)
        · have := hS.lt; omega
      · rcases NF.own b hb with h | h
        · exact .inl (hown b h)
        · exact .inr (by omega)
    rw [hv]
    unfold ptr at dF ⊢
    have HX4 := hide hX4; have HY1 := hide hY1; have HY2 := hide hY2; have HY3 := hide hY3; have HY4 := hide hY4; have hN8 := hide hn8; have hN6 := hide hn6
    have HVA := hide hva
    clear hv hV hI hR hC hA hg hown hRX hXb hva hl hbX h1 hX hbx hv0 hd2 hRD hkf hlt hfd hptA hlf hpk hcb hX4 hR4 hs4 hXs hb4 hno N1 N2 N3 hY1 hY2 hY3 hY4 hG1 hG2 hG3 hGa NN NN4 fr0 frS hst4 hI0 hz3 hps3 hbs3 hq htn3 hbel4 hn8 hn6 hcb2 hRY hbY1 hbY2 hnow ep8 eb8 e6d b6 hvad ap6 ap8 hlf0 hsum hsn hok ha2 hpb2 hpv2 hpt2 hpd hpl hdl hsz1 hsz2 hpl2 hbl2
    go_enter Tryz.func19, Tryz.ntmps19
    go_wp2_with fail
    rw [← unhide HXX, ← unhide HBX]
    clear HXX HBX
    refine (unhide d1 _).mono ?_
    rintro e w1 ⟨rfl, hw⟩
    rw [hw]
    clear hw w1
    go_wp2_with fail
    refine wp_region_last (n := 8) (S := fun W' => W'.cell? ⟨d, 1, none⟩ = some (.map G.mb) ∧ W'.cell? ⟨bx, 1, none⟩ = some (.string x.inv) ∧ (Instr.lookup 95 (.map G.mb) (.string x.inv) false).run Tryz.prog W' = .ok (.pointer (some ⟨p, 0, none⟩)) W') (by kernel_rfl) (by exact ⟨y1, y0, hlk⟩) (fun hHeld => ?_)
    refine tkW 0 ?_; refine tkW 1 ?_; refine tkW 2 ?_; refine tkN 3 ?_; refine tkW 4 ?_; refine tkN 5 ?_; refine tkN 6 ?_; refine tkW 7 ?_
    refine wpAnyL_done (by kernel_rfl) ?_
    clear hHeld hlk y1 y0
    go_wp2_with fail
    refine wp_region_last (n := 9) (S := fun W' => W'.cell? ⟨bx, 2, none⟩ = some (.int .i64 x.day) ∧ W'.cell? ⟨p, 2, none⟩ = some (.int .i64 (G.cl p).day)) (by kernel_rfl) (by exact ⟨x2, p2⟩) (fun hHeld => ?_)
    refine tkW 0 ?_; refine tkN 1 ?_; refine tkW 2 ?_; refine tkW 3 ?_; refine tkW 4 ?_; refine tkW 5 ?_; refine tkN 6 ?_; refine tkW 7 ?_; refine tkW 8 ?_
    refine wpAnyL_done (by kernel_rfl) ?_
    clear hHeld
    go_wp2_with fail
    refine wp_region_last (n := 8) (S := fun W' => W'.cell? ⟨bx, 3, none⟩ = some (.int .i64 x.amt) ∧ W'.cell? ⟨p, 5, none⟩ = some (.int .i64 (G.lf p))) (by kernel_rfl) (by exact ⟨x3, p5⟩) (fun hHeld => ?_)
    refine tkW 0 ?_; refine tkN 1 ?_; refine tkW 2 ?_; refine tkW 3 ?_; refine tkW 4 ?_; refine tkN 5 ?_; refine tkW 6 ?_; refine tkW 7 ?_
    refine wpAnyL_done (by kernel_rfl) ?_
    clear hHeld
    go_wp2_with fail
    clear x2 x3 p2 p5 c3 hl2 hl3
    refine wp_region_last (n := 10) (S := fun W' => W'.cell? ⟨d, 3, none⟩ = some G.va ∧ (ld51 (.pointer (some ⟨bx, 0, none⟩))).run Tryz.prog W' = .ok (.agg #[.string x.pay, .string x.inv, .int .i64 x.day, .int .i64 x.amt]) W') (by kernel_rfl) (by rw [← unhide HX4]; exact ⟨l6, ld4⟩) (fun hHeld => ?_)
    rw [← unhide HX4] at hHeld ⊢
    refine tkW 0 ?_; refine tkW 1 ?_; refine tkW 2 ?_; refine tkW 3 ?_; refine tkS 4 ?_; refine tkS 5 ?_
    refine wpAnyL_one (i := 6) (by kernel_rfl) rfl (fun KK hK => ?_)
    go_simp
    refine hK.out _ _ (by exact ⟨l6a, ld5⟩) (fun hHeld => ?_)
    clear hK KK
    refine wpAnyL_one (i := 7) (by kernel_rfl) rfl (fun KK hK => ?_)
    refine step_append_run _ (by rfl) _ _ _ (by rfl) _ _ _ _ (by rfl) (by rfl) r6 ?_
    refine hK.out _ _ (by exact ⟨m6, ld6⟩) (fun hHeld => ?_)
    clear hK KK
    refine tkW 8 ?_; refine tkW 9 ?_
    clear hHeld
    refine wpAnyL_past (i := 10) (by kernel_rfl) rfl (by kernel_rfl) (fun KK hK => ?_)
    go_simp
    refine hK.out _ _ ?_
    clear hK KK
    refine wpAnyL_done (by kernel_rfl) ?_
    rw [← unhide HY1]
    clear l6 ld4 l6a ld5 m6 ld6 r6 f6
    go_upto_region 13 with fail
    refine wp_region_last (n := 9) (S := fun W' => W'.cell? ⟨p, 5, none⟩ = some (.int .i64 (G.lf p)) ∧ W'.cell? ⟨bx, 3, none⟩ = some (.int .i64 x.amt) ∧ W' = Y1.drew) (by kernel_rfl) (by exact ⟨q5, q3, rfl⟩) (fun hHeld => ?_)
    refine tkW 0 ?_; refine tkW 1 ?_; refine tkW 2 ?_; refine tkS 3 ?_; refine tkW 4 ?_; refine tkS 5 ?_; refine tkW 6 ?_; refine tkW 7 ?_; refine tkW 8 ?_
    clear hHeld
    obtain ⟨Z1, hZ1⟩ : ∃ Z1, Z1 = Y1.drew := ⟨_, rfl⟩
    have HY2' : Hid (Y2 = Z1.setCell ⟨p, 5, none⟩ (.int .i64 (G.lf p - x.amt))) := by show _ = _; rw [hZ1]; exact unhide HY2
    rw [← hZ1] at q5 q5f q3 ⊢
    clear hZ1
    refine wpAnyL_past (i := 9) (by kernel_rfl) rfl (by kernel_rfl) (fun KK hK => ?_)
    go_simp
    refine hK.out _ _ ?_
    clear hK KK
    refine wpAnyL_done (by kernel_rfl) ?_
    rw [← unhide HY2']
    clear q5 q5f q3 hwl
    go_upto_region 14 with fail
    refine wp_region_last (n := 14) (S := fun W' => W'.cell? ⟨p, 6, none⟩ = some (G.pv p) ∧ W'.cell? ⟨bx, 2, none⟩ = some (.int .i64 x.day) ∧ W'.cell? ⟨bx, 3, none⟩ = some (.int .i64 x.amt)) (by kernel_rfl) (by exact ⟨s6, s2, s3⟩) (fun hHeld => ?_)
    obtain ⟨Z2, hZ2⟩ : ∃ Z2, Z2 = Y2.drew := ⟨_, rfl⟩
    rw [← hZ2] at hHeld s6 s2 s3 t6 t2 t3 r8 ⊢
    clear hZ2
    refine tkW 0 ?_; refine tkW 1 ?_; refine tkW 2 ?_; refine tkW 3 ?_; refine tkS 4 ?_; refine tkW 5 ?_; refine tkS 6 ?_; refine tkW 7 ?_; refine tkS 8 ?_; refine tkW 9 ?_
    refine wpAnyL_one (i := 10) (by kernel_rfl) rfl (fun KK hK => ?_)
    go_simp
    refine hK.out _ _ (by exact ⟨t6, t2, t3⟩) (fun hHeld => ?_)
    clear hK KK
    refine wpAnyL_one (i := 11) (by kernel_rfl) rfl (fun KK hK => ?_)
    refine step_append_run _ (by rfl) _ _ _ (by rfl) _ _ _ _ (by rfl) (by rfl) r8 ?_
    refine hK.out _ _ (by exact ⟨u6, u2, u3⟩) (fun hHeld => ?_)
    clear hK KK
    refine tkW 12 ?_; refine tkW 13 ?_
    clear hHeld
    refine wpAnyL_past (i := 14) (by kernel_rfl) rfl (by kernel_rfl) (fun KK hK => ?_)
    go_simp
    refine hK.out _ _ ?_
    clear hK KK
    refine wpAnyL_done (by kernel_rfl) ?_
    rw [← unhide HY3]
    clear r8 u6 u6f u2 u3 t6 t2 t3 s6 s2 s3
    go_wp2_with fail
    rw [← unhide HY4]
    refine (unhide dF).mono ?_
    rintro e w9 ⟨rfl, hfo⟩
    have HFIN := hide (unhide HOUT w9 hfo)
    clear hfo
    go_wp2_with fail
    go_ret
    exact ⟨rfl, unhide HFIN⟩
end Go.Proofs.YtfclknlpdcanpaaGreatDoor
