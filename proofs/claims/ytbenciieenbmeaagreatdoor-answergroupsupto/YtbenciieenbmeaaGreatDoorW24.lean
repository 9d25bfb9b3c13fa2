import Derived.Test.YtbenciieenbmeaaGreatDoorW23
/- answer: lines 31. -/
namespace Go.Proofs.YtbenciieenbmeaaGreatDoor
open Go Go.Shelf Go.ChangeShapes Go.WideShapes Go.ChangeAt Go.RowKit Go.Maps
set_option linter.unusedVariables false
set_option maxRecDepth 100000
set_option maxHeartbeats 4000000
/-- lines of cells: a row of slices, each with its cells -/
structure Lns (B : Nat) (w : World) (lb : Nat) (ss : List Value) (LL : List (List Cl)) : Prop where
  blk : Bk w lb 46 ss
  lo : B ≤ lb
  len : ss.length = LL.length
  at' : ∀ i (h : i < LL.length), ∃ p c, ss[i]? = some (.slice p LL[i].length c) ∧ Lies kC w p LL[i] ∧ ∀ b o, p = some ⟨b, o, none⟩ → b ≠ lb ∧ b < w.heap.size
noncomputable def overB (q : Qy) (F : List Int) (S : List Ag) (R : List Ro) : Bool := rowsB q F S R || linesB q F S R
def LnsOut (W : World) (q : Qy) (F : List Int) (S : List Ag) (R : List Ro) (e : Ending) (w' : World) : Prop :=
  Below W.heap.size W w' ∧ (overB q F S R = true → e = .returned (.tuple #[.slice none 0 0, .int .i64 11])) ∧ (overB q F S R = false → ∃ lb ss, e = .returned (.tuple #[.slice (some ⟨lb, 0, none⟩) (linesL q F S R).length (linesL q F S R).length, .int .i64 0]) ∧ Lns W.heap.size w' lb ss (linesL q F S R))
theorem step_store {P : Program} {ops : Array Oper} {o : Oper} {a : Act} {K : Act → World → Prop} {Q : Exit → Act → World → Prop} {E : Prop} {w : World} (hgd : o.guard = none) (t : TypeId) (p x : Operand) (ho : o.op = .store t p x) (vp vx : Value) (w' : World) (h1 : a.eval p = vp) (h2 : a.eval x = vx) (hr : (Instr.storeAt t vp vx).run P w = .ok () w')
    (h : K (a.put o.dst undef) w') : if Region.wanted o (yielded ops a.tmps) = true then Oper.wp P o a w K Q else E := by
  have hw : Region.wanted o (yielded ops a.tmps) = true := by simp [Region.wanted, hgd]
  rw [if_pos hw]
  unfold Oper.wp execOp
  simp only [ho, Sem.run_bind, h1, h2, hr, Result.andThen_ok]
  exact h
theorem info46 : (Tryz.prog.info? 46).map (fun i => (i.zero, i.size, i.bytes)) = some (some (.slice none 0 0), 1, 24) := by kernel_rfl
theorem made_slices (n : Nat) : madeCells (Value.slice none 0 0).cells (n * 1) = (List.replicate n (Value.slice none 0 0)).toArray := by
  apply Array.ext
  · rw [size_madeCells]; simp
  · intro i h1 h2
    simp [madeCells, Value.cells, Nat.mod_one]
def ld119 (x : Value) : Sem Value := Instr.loadAt 119 x
theorem ld119_is (x : Value) : Instr.loadAt 119 x = ld119 x := rfl
def st119 (x y : Value) : Sem Unit := Instr.storeAt 119 x y
theorem st119_is (x y : Value) : Instr.storeAt 119 x y = st119 x y := rfl
theorem sz119 : (Tryz.prog.info? 119).map (·.size) = some 43 := by kernel_rfl
theorem run_ld119 {w : World} {b o : Nat} {vs : List Value} (hl : vs.length = 43) (h : w.rangeAt b o vs) : (ld119 (.pointer (some ⟨b, o, none⟩))).run Tryz.prog w = .ok (.agg vs.toArray) w :=
  run_loadAt_mid (P := Tryz.prog) w b o 119 vs _ h Tryz.underlying119 rfl (by rw [sz119, hl])
theorem ld27_two (x : Value) : Instr.loadAt 27 x = ld32 x := rfl
section
attribute [local go_sem ↓] ldR_is ld80_is ld32_is st112_is ld119_is st119_is
variable {W : World} {q : Qy} {a : Qa} {pF : Option Addr} {nF cF : Nat} {F : List Int} {pS : Option Addr} {nS cS : Nat} {S : List Ag} {pP : Option Addr} {nP cP : Nat} {pR : Option Addr} {nR cR : Nat} {R : List Ro}
theorem lines_any (hE : Env W q a pF nF cF F pS nS cS S) (hR : Lies kR W pR R) (hRn : R.length = nR) (hRb : nR ≤ 2097152) (hRo : ∀ r ∈ R, RoOk r) :
    Calls Tryz.prog 31 #[.agg #[.slice pF nF cF, .slice pS nS cS, .slice pP nP cP], qV q a, .slice pR nR cR] W (LnsOut W q F S R) := by
  obtain ⟨nN, hnN⟩ : ∃ n, n = q.nodes.length := ⟨_, rfl⟩
  obtain ⟨lay, hlay⟩ : ∃ v : Value, v = .agg #[.slice pF nF cF, .slice pS nS cS, .slice pP nP cP] := ⟨_, rfl⟩
  obtain ⟨fx, hfx⟩ : ∃ fx, fx = fxV q a pF nF cF pS nS cS pP nP cP := ⟨_, rfl⟩
  obtain ⟨A, hA⟩ : ∃ A, A = (W.alloc (.cells #[.slice pF nF cF, .slice pS nS cS, .slice pP nP cP] 80)).alloc (.cells (qC q a).toArray 27) := ⟨_, rfl⟩
  have hAs : A.heap.size = W.heap.size + 2 := by rw [hA]; simp
  have hBA : Below W.heap.size W A := by rw [hA]; exact Below.a2 W _ _
  have b80 : Bk A W.heap.size 80 [.slice pF nF cF, .slice pS nS cS, .slice pP nP cP] := by
    show A.heap[_]? = _
    rw [hA, Below.heap_alloc _ _ _ (by simp)]
    exact heap_new _ _
  have b27 : Bk A (W.heap.size + 1) 27 (qC q a) := by
    show A.heap[_]? = _
    have := heap_new (W.alloc (.cells #[.slice pF nF cF, .slice pS nS cS, .slice pP nP cP] 80)) (.cells (qC q a).toArray 27)
    simp only [World.size_alloc] at this
    rw [hA]; exact this
  have hEA : Env A q a pF nF cF F pS nS cS S := { hE with n := hE.n.below hBA, np := fun b o e => by have := hE.np b o e; omega, f := hE.f.below hBA, s := hE.s.below hBA, mon := hE.mon.below hBA, mx := hE.mx.below hBA (by have := hE.six; omega), six := by have := hE.six; omega }
  -- what may be read of the boxes
  have BX : Hid (∀ w, Below A.heap.size A w → (ld80 (.pointer (some ⟨W.heap.size, 0, none⟩))).run Tryz.prog w = .ok lay w ∧ (ld32 (.pointer (some ⟨W.heap.size + 1, 0, none⟩))).run Tryz.prog w = .ok (qV q a) w ∧ w.cell? ⟨W.heap.size + 1, 0, none⟩ = some (.slice a.pN nN a.cN) ∧ w.cell? ⟨W.heap.size, 0, none⟩ = some (.slice pF nF cF)) := fun w hb => by
    have c80 := b80.same (hb.block _ b80.lt)
    have c27 := b27.same (hb.block _ b27.lt)
    refine ⟨?_, run_ld32 (fun j u hu => by rw [c27.cell, Nat.zero_add]; exact hu), ?_, c80.cell 0⟩
    · rw [hlay]; exact run_ld80 (fun j u hu => by rw [c80.cell, Nat.zero_add]; exact hu)
    · rw [c27.cell, hnN]; rfl
  have BG : Hid (∀ X d g b, Below A.heap.size A X → Bk X d 112 z112 → VBk X g (List.replicate nN .no) → MI yK X b 0 (fun _ => none) → A.heap.size ≤ d ∧ A.heap.size ≤ g ∧ A.heap.size ≤ b → d ≠ g → d ≠ b → ∃ Y, (st112 (.pointer (some ⟨d, 0, none⟩)) (.agg #[.slice a.pN nN a.cN, .int .i64 q.wh, .slice a.pB q.by'.length a.cB, .slice a.pS q.sh.length a.cS, .slice a.pO q.ords.length a.cO, .int .i64 q.lim, .slice pF nF cF, .slice pS nS cS, .slice pP nP cP, .slice (some ⟨g, 0, none⟩) nN nN, .slice none 0 0, .map (some b)])).run Tryz.prog X = .ok () Y ∧ Below A.heap.size A Y ∧ Sg A.heap.size Y d g b fx nN nN nS S (ksR q F (R.take 0)) (φR q F (R.take 0))) := fun X d g b hb h1 h2 h3 h4 h5 h6 => by
    have hone : ∀ u ∈ fx, u.oneCell' = true := fun u hu => by
      rw [hfx] at hu
      simp [fxV, qC] at hu
      rcases hu with rfl | rfl | rfl | rfl | rfl | rfl | rfl | rfl | rfl <;> rfl
    obtain ⟨Y, y1, y2, y3⟩ := Sc.begin (nS := nS) (fx := fx) (by rw [hfx]; rfl) hone h1 h2 h3 h4 h5 h6
    refine ⟨Y, ?_, hb.trans (y3.below hb.size (fun j hj e => by omega)), ⟨_, _, [], y2, fun c hc => ?_, ?_, fun x hx => by cases hx⟩⟩
    · rw [hfx] at y1
      rw [hnN] at y1 ⊢
      exact y1
    · rw [(List.mem_replicate.1 hc).2]; exact no_ok
    · rw [List.take_zero]; rfl
  have VB : Hid (∀ w : World, VBk (w.alloc (.cells (madeCells zC.cells (nN * 3)) 45)) w.heap.size (List.replicate nN .no)) := fun w => new_vbk w nN
  have hmk : ∀ w : World, (Instr.makeSlice 46 (.int .i64 (nN : Int)) (.int .i64 (nN : Int))).run Tryz.prog w = .ok (.slice (some ⟨w.heap.size, 0, none⟩) nN nN) (w.alloc (.cells (madeCells zC.cells (nN * 3)) 45)) := fun w => run_mk w 46 45 Tryz.underlying46 info45 nN (by have := hE.nb; omega) (by have := hE.nb; omega)
  have hmm : ∀ w : World, (Instr.makeMap 109 none).run Tryz.prog w = .ok (.map (some w.heap.size)) (w.alloc (.map #[] 0)) := fun w => run_makeMap 109 w
  have hqv : qV q a = .agg #[.slice a.pN nN a.cN, .int .i64 q.wh, .slice a.pB q.by'.length a.cB, .slice a.pS q.sh.length a.cS, .slice a.pO q.ords.length a.cO, .int .i64 q.lim] := by rw [hnN]; rfl
  have HA : Hid (A = (W.alloc (.cells #[.slice pF nF cF, .slice pS nS cS, .slice pP nP cP] 80)).alloc (.cells #[.slice a.pN nN a.cN, .int .i64 q.wh, .slice a.pB q.by'.length a.cB, .slice a.pS q.sh.length a.cS, .slice a.pO q.ords.length a.cO, .int .i64 q.lim] 27)) := by rw [hnN]; exact hA
  have HBA := hide hBA
  have HEA := hide hEA
  have HRL := hide (hR.below hBA)
  have HRN := hide hRn
  have HRO := hide hRo
  have HAS := hide hAs
  have BX : Hid (∀ w, Below A.heap.size A w → (ld80 (.pointer (some ⟨W.heap.size, 0, none⟩))).run Tryz.prog w = .ok (.agg #[.slice pF nF cF, .slice pS nS cS, .slice pP nP cP]) w ∧ (ld32 (.pointer (some ⟨W.heap.size + 1, 0, none⟩))).run Tryz.prog w = .ok (.agg #[.slice a.pN nN a.cN, .int .i64 q.wh, .slice a.pB q.by'.length a.cB, .slice a.pS q.sh.length a.cS, .slice a.pO q.ords.length a.cO, .int .i64 q.lim]) w ∧ w.cell? ⟨W.heap.size + 1, 0, none⟩ = some (.slice a.pN nN a.cN) ∧ w.cell? ⟨W.heap.size, 0, none⟩ = some (.slice pF nF cF)) := by rw [← hqv, ← hlay]; exact BX
  have HFX := hide hfx
  have HNN := hide hnN
  rw [hqv]
  clear hA hAs hBA b80 b27 hEA hE hR hRn hRo hlay hqv hfx hnN
  go_enter Tryz.func31, Tryz.ntmps31
  go_upto_region 1 with fail
  rw [← unhide HA]
  go_cut [8] (fun v8 wx => ∃ d g b, v8 = .pointer (some ⟨d, 0, none⟩) ∧ Hid (Below A.heap.size A wx) ∧ Hid (Sg A.heap.size wx d g b fx nN nN nS S (ksR q F (R.take 0)) (φR q F (R.take 0))))
  case first =>
    have hD : Below A.heap.size A A.drew := below_drewN (Below.refl _ A) 1
    have S0 := unhide BX _ hD
    refine wp_region_last (n := 10) (S := fun W' => (ld80 (.pointer (some ⟨W.heap.size, 0, none⟩))).run Tryz.prog W' = .ok (.agg #[.slice pF nF cF, .slice pS nS cS, .slice pP nP cP]) W' ∧ (ld32 (.pointer (some ⟨W.heap.size + 1, 0, none⟩))).run Tryz.prog W' = .ok (.agg #[.slice a.pN nN a.cN, .int .i64 q.wh, .slice a.pB q.by'.length a.cB, .slice a.pS q.sh.length a.cS, .slice a.pO q.ords.length a.cO, .int .i64 q.lim]) W' ∧ W'.cell? ⟨W.heap.size + 1, 0, none⟩ = some (.slice a.pN nN a.cN) ∧ W'.cell? ⟨W.heap.size, 0, none⟩ = some (.slice pF nF cF)) (by kernel_rfl) S0 (fun hHeld => ?_)
    refine tkN 0 ?_; refine tkN 1 ?_; refine tkW 2 ?_; refine tkN 3 ?_; refine tkW 4 ?_
    refine wpAnyL_three (i := 5) (j := 6) (l := 8) (by kernel_rfl) rfl rfl rfl (fun KK hK => ?_) (fun KK hK => ?_) (fun KK hK => ?_)
    · go_simp
      have hb1 : Below A.heap.size A (A.drew.alloc (.cells (madeCells zC.cells (nN * 3)) 45)) := hD.alloc hD.size _
      refine hK.out _ _ (unhide BX _ hb1) (fun hHeld => ?_)
      clear hK KK
      refine wpAnyL_two (i := 6) (j := 8) (by kernel_rfl) rfl rfl (fun KK hK => ?_) (fun KK hK => ?_)
      · go_simp
        have hb2 : Below A.heap.size A ((A.drew.alloc (.cells (madeCells zC.cells (nN * 3)) 45)).alloc (.map #[] 0)) := (hD.alloc hD.size _).alloc (by simp) _
        refine hK.out _ _ (unhide BX _ hb2) (fun hHeld => ?_)
        clear hK KK
        refine tkW 7 ?_
        refine wpAnyL_one (i := 8) (by kernel_rfl) rfl (fun KK hK => ?_)
        go_simp
        have hb3 : Below A.heap.size A (((A.drew.alloc (.cells (madeCells zC.cells (nN * 3)) 45)).alloc (.map #[] 0)).alloc (.cells #[.slice none 0 0, .int .i64 0, .slice none 0 0, .slice none 0 0, .slice none 0 0, .int .i64 0, .slice none 0 0, .slice none 0 0, .slice none 0 0, .slice none 0 0, .slice none 0 0, .map none] 112)) := ((hD.alloc hD.size _).alloc (by simp) _).alloc (by simp; omega) _
        refine hK.out _ _ (unhide BX _ hb3) (fun hHeld => ?_)
        clear hK KK
        have hbX : Below A.heap.size A (((A.drew.alloc (.cells (madeCells zC.cells (nN * 3)) 45)).alloc (.map #[] 0)).alloc (.cells #[.slice none 0 0, .int .i64 0, .slice none 0 0, .slice none 0 0, .slice none 0 0, .int .i64 0, .slice none 0 0, .slice none 0 0, .slice none 0 0, .slice none 0 0, .slice none 0 0, .map none] 112)) := ((hD.alloc hD.size _).alloc (by simp) _).alloc (by simp; omega) _
        have h8b := (heap_new ((A.drew.alloc (.cells (madeCells zC.cells (nN * 3)) 45)).alloc (.map #[] 0)) (.cells #[.slice none 0 0, .int .i64 0, .slice none 0 0, .slice none 0 0, .slice none 0 0, .int .i64 0, .slice none 0 0, .slice none 0 0, .slice none 0 0, .slice none 0 0, .slice none 0 0, .map none] 112))
        have h5b := (unhide VB A.drew)
        have h6b := (MI.made (Y := yK) (A.drew.alloc (.cells (madeCells zC.cells (nN * 3)) 45)))
        refine wpAnyL_one (i := 9) (by kernel_rfl) rfl (fun KK hK => ?_)
        obtain ⟨Y, y1, y2, y3⟩ := unhide BG (((A.drew.alloc (.cells (madeCells zC.cells (nN * 3)) 45)).alloc (.map #[] 0)).alloc (.cells #[.slice none 0 0, .int .i64 0, .slice none 0 0, .slice none 0 0, .slice none 0 0, .int .i64 0, .slice none 0 0, .slice none 0 0, .slice none 0 0, .slice none 0 0, .slice none 0 0, .map none] 112)) (A.heap.size + 1 + 1) (A.heap.size) (A.heap.size + 1) hbX (Bk.same (W := ((A.drew.alloc (.cells (madeCells zC.cells (nN * 3)) 45)).alloc (.map #[] 0)).alloc (.cells #[.slice none 0 0, .int .i64 0, .slice none 0 0, .slice none 0 0, .slice none 0 0, .int .i64 0, .slice none 0 0, .slice none 0 0, .slice none 0 0, .slice none 0 0, .slice none 0 0, .map none] 112)) (by have h := h8b; (try simp only [World.size_alloc] at h); exact h) rfl) (VBk.same (W := A.drew.alloc (.cells (madeCells zC.cells (nN * 3)) 45)) (by have h := h5b; (try simp only [World.size_alloc] at h); exact h) (by simp) ((Below.heap_alloc _ _ _ (by simp; omega)).trans (Below.heap_alloc _ _ _ (by simp)))) (MI.same (w := (A.drew.alloc (.cells (madeCells zC.cells (nN * 3)) 45)).alloc (.map #[] 0)) (by have h := h6b; (try simp only [World.size_alloc] at h); exact h) (Below.heap_alloc _ _ _ (by simp))) ⟨by omega, by omega, by omega⟩ (by omega) (by omega)
        have HY2 := hide y2; have HY3 := hide y3
        have HS9 := hide (unhide BX _ y2)
        clear y2 y3 h8b h5b h6b
        refine step_store rfl 112 _ _ rfl _ _ _ rfl rfl y1 ?_
        refine hK.out _ _ (unhide HS9) (fun hHeld => ?_)
        clear hK KK y1
        refine wpAnyL_done (by kernel_rfl) ?_
        go_wp2_with fail
        go_meet
        exact ⟨_, _, _, rfl, unhide HY2, unhide HY3⟩
      · go_simp
        have hb2 : Below A.heap.size A ((A.drew.alloc (.cells (madeCells zC.cells (nN * 3)) 45)).alloc (.cells #[.slice none 0 0, .int .i64 0, .slice none 0 0, .slice none 0 0, .slice none 0 0, .int .i64 0, .slice none 0 0, .slice none 0 0, .slice none 0 0, .slice none 0 0, .slice none 0 0, .map none] 112)) := (hD.alloc hD.size _).alloc (by simp) _
        refine hK.out _ _ (unhide BX _ hb2) (fun hHeld => ?_)
        clear hK KK
        refine wpAnyL_one (i := 6) (by kernel_rfl) rfl (fun KK hK => ?_)
        go_simp
        have hb3 : Below A.heap.size A (((A.drew.alloc (.cells (madeCells zC.cells (nN * 3)) 45)).alloc (.cells #[.slice none 0 0, .int .i64 0, .slice none 0 0, .slice none 0 0, .slice none 0 0, .int .i64 0, .slice none 0 0, .slice none 0 0, .slice none 0 0, .slice none 0 0, .slice none 0 0, .map none] 112)).alloc (.map #[] 0)) := ((hD.alloc hD.size _).alloc (by simp) _).alloc (by simp; omega) _
        refine hK.out _ _ (unhide BX _ hb3) (fun hHeld => ?_)
        clear hK KK
        refine tkW 7 ?_
        have hbX : Below A.heap.size A (((A.drew.alloc (.cells (madeCells zC.cells (nN * 3)) 45)).alloc (.cells #[.slice none 0 0, .int .i64 0, .slice none 0 0, .slice none 0 0, .slice none 0 0, .int .i64 0, .slice none 0 0, .slice none 0 0, .slice none 0 0, .slice none 0 0, .slice none 0 0, .map none] 112)).alloc (.map #[] 0)) := ((hD.alloc hD.size _).alloc (by simp) _).alloc (by simp; omega) _
        have h8b := (heap_new (A.drew.alloc (.cells (madeCells zC.cells (nN * 3)) 45)) (.cells #[.slice none 0 0, .int .i64 0, .slice none 0 0, .slice none 0 0, .slice none 0 0, .int .i64 0, .slice none 0 0, .slice none 0 0, .slice none 0 0, .slice none 0 0, .slice none 0 0, .map none] 112))
        have h5b := (unhide VB A.drew)
        have h6b := (MI.made (Y := yK) ((A.drew.alloc (.cells (madeCells zC.cells (nN * 3)) 45)).alloc (.cells #[.slice none 0 0, .int .i64 0, .slice none 0 0, .slice none 0 0, .slice none 0 0, .int .i64 0, .slice none 0 0, .slice none 0 0, .slice none 0 0, .slice none 0 0, .slice none 0 0, .map none] 112)))
        refine wpAnyL_one (i := 9) (by kernel_rfl) rfl (fun KK hK => ?_)
        obtain ⟨Y, y1, y2, y3⟩ := unhide BG (((A.drew.alloc (.cells (madeCells zC.cells (nN * 3)) 45)).alloc (.cells #[.slice none 0 0, .int .i64 0, .slice none 0 0, .slice none 0 0, .slice none 0 0, .int .i64 0, .slice none 0 0, .slice none 0 0, .slice none 0 0, .slice none 0 0, .slice none 0 0, .map none] 112)).alloc (.map #[] 0)) (A.heap.size + 1) (A.heap.size) (A.heap.size + 1 + 1) hbX (Bk.same (W := (A.drew.alloc (.cells (madeCells zC.cells (nN * 3)) 45)).alloc (.cells #[.slice none 0 0, .int .i64 0, .slice none 0 0, .slice none 0 0, .slice none 0 0, .int .i64 0, .slice none 0 0, .slice none 0 0, .slice none 0 0, .slice none 0 0, .slice none 0 0, .map none] 112)) (by have h := h8b; (try simp only [World.size_alloc] at h); exact h) (Below.heap_alloc _ _ _ (by simp))) (VBk.same (W := A.drew.alloc (.cells (madeCells zC.cells (nN * 3)) 45)) (by have h := h5b; (try simp only [World.size_alloc] at h); exact h) (by simp) ((Below.heap_alloc _ _ _ (by simp; omega)).trans (Below.heap_alloc _ _ _ (by simp)))) (MI.same (w := ((A.drew.alloc (.cells (madeCells zC.cells (nN * 3)) 45)).alloc (.cells #[.slice none 0 0, .int .i64 0, .slice none 0 0, .slice none 0 0, .slice none 0 0, .int .i64 0, .slice none 0 0, .slice none 0 0, .slice none 0 0, .slice none 0 0, .slice none 0 0, .map none] 112)).alloc (.map #[] 0)) (by have h := h6b; (try simp only [World.size_alloc] at h); exact h) rfl) ⟨by omega, by omega, by omega⟩ (by omega) (by omega)
        have HY2 := hide y2; have HY3 := hide y3
        have HS9 := hide (unhide BX _ y2)
        clear y2 y3 h8b h5b h6b
        refine step_store rfl 112 _ _ rfl _ _ _ rfl rfl y1 ?_
        refine hK.out _ _ (unhide HS9) (fun hHeld => ?_)
        clear hK KK y1
        refine wpAnyL_done (by kernel_rfl) ?_
        go_wp2_with fail
        go_meet
        exact ⟨_, _, _, rfl, unhide HY2, unhide HY3⟩
    · go_simp
      have hb1 : Below A.heap.size A (A.drew.alloc (.map #[] 0)) := hD.alloc hD.size _
      refine hK.out _ _ (unhide BX _ hb1) (fun hHeld => ?_)
      clear hK KK
      refine wpAnyL_two (i := 5) (j := 8) (by kernel_rfl) rfl rfl (fun KK hK => ?_) (fun KK hK => ?_)
      · go_simp
        have hb2 : Below A.heap.size A ((A.drew.alloc (.map #[] 0)).alloc (.cells (madeCells zC.cells (nN * 3)) 45)) := (hD.alloc hD.size _).alloc (by simp) _
        refine hK.out _ _ (unhide BX _ hb2) (fun hHeld => ?_)
        clear hK KK
        refine tkW 7 ?_
        refine wpAnyL_one (i := 8) (by kernel_rfl) rfl (fun KK hK => ?_)
        go_simp
        have hb3 : Below A.heap.size A (((A.drew.alloc (.map #[] 0)).alloc (.cells (madeCells zC.cells (nN * 3)) 45)).alloc (.cells #[.slice none 0 0, .int .i64 0, .slice none 0 0, .slice none 0 0, .slice none 0 0, .int .i64 0, .slice none 0 0, .slice none 0 0, .slice none 0 0, .slice none 0 0, .slice none 0 0, .map none] 112)) := ((hD.alloc hD.size _).alloc (by simp) _).alloc (by simp; omega) _
        refine hK.out _ _ (unhide BX _ hb3) (fun hHeld => ?_)
        clear hK KK
        have hbX : Below A.heap.size A (((A.drew.alloc (.map #[] 0)).alloc (.cells (madeCells zC.cells (nN * 3)) 45)).alloc (.cells #[.slice none 0 0, .int .i64 0, .slice none 0 0, .slice none 0 0, .slice none 0 0, .int .i64 0, .slice none 0 0, .slice none 0 0, .slice none 0 0, .slice none 0 0, .slice none 0 0, .map none] 112)) := ((hD.alloc hD.size _).alloc (by simp) _).alloc (by simp; omega) _
        have h8b := (heap_new ((A.drew.alloc (.map #[] 0)).alloc (.cells (madeCells zC.cells (nN * 3)) 45)) (.cells #[.slice none 0 0, .int .i64 0, .slice none 0 0, .slice none 0 0, .slice none 0 0, .int .i64 0, .slice none 0 0, .slice none 0 0, .slice none 0 0, .slice none 0 0, .slice none 0 0, .map none] 112))
        have h5b := (unhide VB (A.drew.alloc (.map #[] 0)))
        have h6b := (MI.made (Y := yK) A.drew)
        refine wpAnyL_one (i := 9) (by kernel_rfl) rfl (fun KK hK => ?_)
        obtain ⟨Y, y1, y2, y3⟩ := unhide BG (((A.drew.alloc (.map #[] 0)).alloc (.cells (madeCells zC.cells (nN * 3)) 45)).alloc (.cells #[.slice none 0 0, .int .i64 0, .slice none 0 0, .slice none 0 0, .slice none 0 0, .int .i64 0, .slice none 0 0, .slice none 0 0, .slice none 0 0, .slice none 0 0, .slice none 0 0, .map none] 112)) (A.heap.size + 1 + 1) (A.heap.size + 1) (A.heap.size) hbX (Bk.same (W := ((A.drew.alloc (.map #[] 0)).alloc (.cells (madeCells zC.cells (nN * 3)) 45)).alloc (.cells #[.slice none 0 0, .int .i64 0, .slice none 0 0, .slice none 0 0, .slice none 0 0, .int .i64 0, .slice none 0 0, .slice none 0 0, .slice none 0 0, .slice none 0 0, .slice none 0 0, .map none] 112)) (by have h := h8b; (try simp only [World.size_alloc] at h); exact h) rfl) (VBk.same (W := (A.drew.alloc (.map #[] 0)).alloc (.cells (madeCells zC.cells (nN * 3)) 45)) (by have h := h5b; (try simp only [World.size_alloc] at h); exact h) (by simp) (Below.heap_alloc _ _ _ (by simp))) (MI.same (w := A.drew.alloc (.map #[] 0)) (by have h := h6b; (try simp only [World.size_alloc] at h); exact h) ((Below.heap_alloc _ _ _ (by simp; omega)).trans (Below.heap_alloc _ _ _ (by simp)))) ⟨by omega, by omega, by omega⟩ (by omega) (by omega)
        have HY2 := hide y2; have HY3 := hide y3
        have HS9 := hide (unhide BX _ y2)
        clear y2 y3 h8b h5b h6b
        refine step_store rfl 112 _ _ rfl _ _ _ rfl rfl y1 ?_
        refine hK.out _ _ (unhide HS9) (fun hHeld => ?_)
        clear hK KK y1
        refine wpAnyL_done (by kernel_rfl) ?_
        go_wp2_with fail
        go_meet
        exact ⟨_, _, _, rfl, unhide HY2, unhide HY3⟩
      · go_simp
        have hb2 : Below A.heap.size A ((A.drew.alloc (.map #[] 0)).alloc (.cells #[.slice none 0 0, .int .i64 0, .slice none 0 0, .slice none 0 0, .slice none 0 0, .int .i64 0, .slice none 0 0, .slice none 0 0, .slice none 0 0, .slice none 0 0, .slice none 0 0, .map none] 112)) := (hD.alloc hD.size _).alloc (by simp) _
        refine hK.out _ _ (unhide BX _ hb2) (fun hHeld => ?_)
        clear hK KK
        refine wpAnyL_one (i := 5) (by kernel_rfl) rfl (fun KK hK => ?_)
        go_simp
        have hb3 : Below A.heap.size A (((A.drew.alloc (.map #[] 0)).alloc (.cells #[.slice none 0 0, .int .i64 0, .slice none 0 0, .slice none 0 0, .slice none 0 0, .int .i64 0, .slice none 0 0, .slice none 0 0, .slice none 0 0, .slice none 0 0, .slice none 0 0, .map none] 112)).alloc (.cells (madeCells zC.cells (nN * 3)) 45)) := ((hD.alloc hD.size _).alloc (by simp) _).alloc (by simp; omega) _
        refine hK.out _ _ (unhide BX _ hb3) (fun hHeld => ?_)
        clear hK KK
        refine tkW 7 ?_
        have hbX : Below A.heap.size A (((A.drew.alloc (.map #[] 0)).alloc (.cells #[.slice none 0 0, .int .i64 0, .slice none 0 0, .slice none 0 0, .slice none 0 0, .int .i64 0, .slice none 0 0, .slice none 0 0, .slice none 0 0, .slice none 0 0, .slice none 0 0, .map none] 112)).alloc (.cells (madeCells zC.cells (nN * 3)) 45)) := ((hD.alloc hD.size _).alloc (by simp) _).alloc (by simp; omega) _
        have h8b := (heap_new (A.drew.alloc (.map #[] 0)) (.cells #[.slice none 0 0, .int .i64 0, .slice none 0 0, .slice none 0 0, .slice none 0 0, .int .i64 0, .slice none 0 0, .slice none 0 0, .slice none 0 0, .slice none 0 0, .slice none 0 0, .map none] 112))
        have h5b := (unhide VB ((A.drew.alloc (.map #[] 0)).alloc (.cells #[.slice none 0 0, .int .i64 0, .slice none 0 0, .slice none 0 0, .slice none 0 0, .int .i64 0, .slice none 0 0, .slice none 0 0, .slice none 0 0, .slice none 0 0, .slice none 0 0, .map none] 112)))
        have h6b := (MI.made (Y := yK) A.drew)
        refine wpAnyL_one (i := 9) (by kernel_rfl) rfl (fun KK hK => ?_)
        obtain ⟨Y, y1, y2, y3⟩ := unhide BG (((A.drew.alloc (.map #[] 0)).alloc (.cells #[.slice none 0 0, .int .i64 0, .slice none 0 0, .slice none 0 0, .slice none 0 0, .int .i64 0, .slice none 0 0, .slice none 0 0, .slice none 0 0, .slice none 0 0, .slice none 0 0, .map none] 112)).alloc (.cells (madeCells zC.cells (nN * 3)) 45)) (A.heap.size + 1) (A.heap.size + 1 + 1) (A.heap.size) hbX (Bk.same (W := (A.drew.alloc (.map #[] 0)).alloc (.cells #[.slice none 0 0, .int .i64 0, .slice none 0 0, .slice none 0 0, .slice none 0 0, .int .i64 0, .slice none 0 0, .slice none 0 0, .slice none 0 0, .slice none 0 0, .slice none 0 0, .map none] 112)) (by have h := h8b; (try simp only [World.size_alloc] at h); exact h) (Below.heap_alloc _ _ _ (by simp))) (VBk.same (W := ((A.drew.alloc (.map #[] 0)).alloc (.cells #[.slice none 0 0, .int .i64 0, .slice none 0 0, .slice none 0 0, .slice none 0 0, .int .i64 0, .slice none 0 0, .slice none 0 0, .slice none 0 0, .slice none 0 0, .slice none 0 0, .map none] 112)).alloc (.cells (madeCells zC.cells (nN * 3)) 45)) (by have h := h5b; (try simp only [World.size_alloc] at h); exact h) (by simp) rfl) (MI.same (w := A.drew.alloc (.map #[] 0)) (by have h := h6b; (try simp only [World.size_alloc] at h); exact h) ((Below.heap_alloc _ _ _ (by simp; omega)).trans (Below.heap_alloc _ _ _ (by simp)))) ⟨by omega, by omega, by omega⟩ (by omega) (by omega)
        have HY2 := hide y2; have HY3 := hide y3
        have HS9 := hide (unhide BX _ y2)
        clear y2 y3 h8b h5b h6b
        refine step_store rfl 112 _ _ rfl _ _ _ rfl rfl y1 ?_
        refine hK.out _ _ (unhide HS9) (fun hHeld => ?_)
        clear hK KK y1
        refine wpAnyL_done (by kernel_rfl) ?_
        go_wp2_with fail
        go_meet
        exact ⟨_, _, _, rfl, unhide HY2, unhide HY3⟩
    · go_simp
      have hb1 : Below A.heap.size A (A.drew.alloc (.cells #[.slice none 0 0, .int .i64 0, .slice none 0 0, .slice none 0 0, .slice none 0 0, .int .i64 0, .slice none 0 0, .slice none 0 0, .slice none 0 0, .slice none 0 0, .slice none 0 0, .map none] 112)) := hD.alloc hD.size _
      refine hK.out _ _ (unhide BX _ hb1) (fun hHeld => ?_)
      clear hK KK
      refine wpAnyL_two (i := 5) (j := 6) (by kernel_rfl) rfl rfl (fun KK hK => ?_) (fun KK hK => ?_)
      · go_simp
        have hb2 : Below A.heap.size A ((A.drew.alloc (.cells #[.slice none 0 0, .int .i64 0, .slice none 0 0, .slice none 0 0, .slice none 0 0, .int .i64 0, .slice none 0 0, .slice none 0 0, .slice none 0 0, .slice none 0 0, .slice none 0 0, .map none] 112)).alloc (.cells (madeCells zC.cells (nN * 3)) 45)) := (hD.alloc hD.size _).alloc (by simp) _
        refine hK.out _ _ (unhide BX _ hb2) (fun hHeld => ?_)
        clear hK KK
        refine wpAnyL_one (i := 6) (by kernel_rfl) rfl (fun KK hK => ?_)
        go_simp
        have hb3 : Below A.heap.size A (((A.drew.alloc (.cells #[.slice none 0 0, .int .i64 0, .slice none 0 0, .slice none 0 0, .slice none 0 0, .int .i64 0, .slice none 0 0, .slice none 0 0, .slice none 0 0, .slice none 0 0, .slice none 0 0, .map none] 112)).alloc (.cells (madeCells zC.cells (nN * 3)) 45)).alloc (.map #[] 0)) := ((hD.alloc hD.size _).alloc (by simp) _).alloc (by simp; omega) _
        refine hK.out _ _ (unhide BX _ hb3) (fun hHeld => ?_)
        clear hK KK
        refine tkW 7 ?_
        have hbX : Below A.heap.size A (((A.drew.alloc (.cells #[.slice none 0 0, .int .i64 0, .slice none 0 0, .slice none 0 0, .slice none 0 0, .int .i64 0, .slice none 0 0, .slice none 0 0, .slice none 0 0, .slice none 0 0, .slice none 0 0, .map none] 112)).alloc (.cells (madeCells zC.cells (nN * 3)) 45)).alloc (.map #[] 0)) := ((hD.alloc hD.size _).alloc (by simp) _).alloc (by simp; omega) _
        have h8b := (heap_new A.drew (.cells #[.slice none 0 0, .int .i64 0, .slice none 0 0, .slice none 0 0, .slice none 0 0, .int .i64 0, .slice none 0 0, .slice none 0 0, .slice none 0 0, .slice none 0 0, .slice none 0 0, .map none] 112))
        have h5b := (unhide VB (A.drew.alloc (.cells #[.slice none 0 0, .int .i64 0, .slice none 0 0, .slice none 0 0, .slice none 0 0, .int .i64 0, .slice none 0 0, .slice none 0 0, .slice none 0 0, .slice none 0 0, .slice none 0 0, .map none] 112)))
        have h6b := (MI.made (Y := yK) ((A.drew.alloc (.cells #[.slice none 0 0, .int .i64 0, .slice none 0 0, .slice none 0 0, .slice none 0 0, .int .i64 0, .slice none 0 0, .slice none 0 0, .slice none 0 0, .slice none 0 0, .slice none 0 0, .map none] 112)).alloc (.cells (madeCells zC.cells (nN * 3)) 45)))
        refine wpAnyL_one (i := 9) (by kernel_rfl) rfl (fun KK hK => ?_)
        obtain ⟨Y, y1, y2, y3⟩ := unhide BG (((A.drew.alloc (.cells #[.slice none 0 0, .int .i64 0, .slice none 0 0, .slice none 0 0, .slice none 0 0, .int .i64 0, .slice none 0 0, .slice none 0 0, .slice none 0 0, .slice none 0 0, .slice none 0 0, .map none] 112)).alloc (.cells (madeCells zC.cells (nN * 3)) 45)).alloc (.map #[] 0)) (A.heap.size) (A.heap.size + 1) (A.heap.size + 1 + 1) hbX (Bk.same (W := A.drew.alloc (.cells #[.slice none 0 0, .int .i64 0, .slice none 0 0, .slice none 0 0, .slice none 0 0, .int .i64 0, .slice none 0 0, .slice none 0 0, .slice none 0 0, .slice none 0 0, .slice none 0 0, .map none] 112)) (by have h := h8b; (try simp only [World.size_alloc] at h); exact h) ((Below.heap_alloc _ _ _ (by simp; omega)).trans (Below.heap_alloc _ _ _ (by simp)))) (VBk.same (W := (A.drew.alloc (.cells #[.slice none 0 0, .int .i64 0, .slice none 0 0, .slice none 0 0, .slice none 0 0, .int .i64 0, .slice none 0 0, .slice none 0 0, .slice none 0 0, .slice none 0 0, .slice none 0 0, .map none] 112)).alloc (.cells (madeCells zC.cells (nN * 3)) 45)) (by have h := h5b; (try simp only [World.size_alloc] at h); exact h) (by simp) (Below.heap_alloc _ _ _ (by simp))) (MI.same (w := ((A.drew.alloc (.cells #[.slice none 0 0, .int .i64 0, .slice none 0 0, .slice none 0 0, .slice none 0 0, .int .i64 0, .slice none 0 0, .slice none 0 0, .slice none 0 0, .slice none 0 0, .slice none 0 0, .map none] 112)).alloc (.cells (madeCells zC.cells (nN * 3)) 45)).alloc (.map #[] 0)) (by have h := h6b; (try simp only [World.size_alloc] at h); exact h) rfl) ⟨by omega, by omega, by omega⟩ (by omega) (by omega)
        have HY2 := hide y2; have HY3 := hide y3
        have HS9 := hide (unhide BX _ y2)
        clear y2 y3 h8b h5b h6b
        refine step_store rfl 112 _ _ rfl _ _ _ rfl rfl y1 ?_
        refine hK.out _ _ (unhide HS9) (fun hHeld => ?_)
        clear hK KK y1
        refine wpAnyL_done (by kernel_rfl) ?_
        go_wp2_with fail
        go_meet
        exact ⟨_, _, _, rfl, unhide HY2, unhide HY3⟩
      · go_simp
        have hb2 : Below A.heap.size A ((A.drew.alloc (.cells #[.slice none 0 0, .int .i64 0, .slice none 0 0, .slice none 0 0, .slice none 0 0, .int .i64 0, .slice none 0 0, .slice none 0 0, .slice none 0 0, .slice none 0 0, .slice none 0 0, .map none] 112)).alloc (.map #[] 0)) := (hD.alloc hD.size _).alloc (by simp) _
        refine hK.out _ _ (unhide BX _ hb2) (fun hHeld => ?_)
        clear hK KK
        refine wpAnyL_one (i := 5) (by kernel_rfl) rfl (fun KK hK => ?_)
        go_simp
        have hb3 : Below A.heap.size A (((A.drew.alloc (.cells #[.slice none 0 0, .int .i64 0, .slice none 0 0, .slice none 0 0, .slice none 0 0, .int .i64 0, .slice none 0 0, .slice none 0 0, .slice none 0 0, .slice none 0 0, .slice none 0 0, .map none] 112)).alloc (.map #[] 0)).alloc (.cells (madeCells zC.cells (nN * 3)) 45)) := ((hD.alloc hD.size _).alloc (by simp) _).alloc (by simp; omega) _
        refine hK.out _ _ (unhide BX _ hb3) (fun hHeld => ?_)
        clear hK KK
        refine tkW 7 ?_
        have hbX : Below A.heap.size A (((A.drew.alloc (.cells #[.slice none 0 0, .int .i64 0, .slice none 0 0, .slice none 0 0, .slice none 0 0, .int .i64 0, .slice none 0 0, .slice none 0 0, .slice none 0 0, .slice none 0 0, .slice none 0 0, .map none] 112)).alloc (.map #[] 0)).alloc (.cells (madeCells zC.cells (nN * 3)) 45)) := ((hD.alloc hD.size _).alloc (by simp) _).alloc (by simp; omega) _
        have h8b := (heap_new A.drew (.cells #[.slice none 0 0, .int .i64 0, .slice none 0 0, .slice none 0 0, .slice none 0 0, .int .i64 0, .slice none 0 0, .slice none 0 0, .slice none 0 0, .slice none 0 0, .slice none 0 0, .map none] 112))
        have h5b := (unhide VB ((A.drew.alloc (.cells #[.slice none 0 0, .int .i64 0, .slice none 0 0, .slice none 0 0, .slice none 0 0, .int .i64 0, .slice none 0 0, .slice none 0 0, .slice none 0 0, .slice none 0 0, .slice none 0 0, .map none] 112)).alloc (.map #[] 0)))
        have h6b := (MI.made (Y := yK) (A.drew.alloc (.cells #[.slice none 0 0, .int .i64 0, .slice none 0 0, .slice none 0 0, .slice none 0 0, .int .i64 0, .slice none 0 0, .slice none 0 0, .slice none 0 0, .slice none 0 0, .slice none 0 0, .map none] 112)))
        refine wpAnyL_one (i := 9) (by kernel_rfl) rfl (fun KK hK => ?_)
        obtain ⟨Y, y1, y2, y3⟩ := unhide BG (((A.drew.alloc (.cells #[.slice none 0 0, .int .i64 0, .slice none 0 0, .slice none 0 0, .slice none 0 0, .int .i64 0, .slice none 0 0, .slice none 0 0, .slice none 0 0, .slice none 0 0, .slice none 0 0, .map none] 112)).alloc (.map #[] 0)).alloc (.cells (madeCells zC.cells (nN * 3)) 45)) (A.heap.size) (A.heap.size + 1 + 1) (A.heap.size + 1) hbX (Bk.same (W := A.drew.alloc (.cells #[.slice none 0 0, .int .i64 0, .slice none 0 0, .slice none 0 0, .slice none 0 0, .int .i64 0, .slice none 0 0, .slice none 0 0, .slice none 0 0, .slice none 0 0, .slice none 0 0, .map none] 112)) (by have h := h8b; (try simp only [World.size_alloc] at h); exact h) ((Below.heap_alloc _ _ _ (by simp; omega)).trans (Below.heap_alloc _ _ _ (by simp)))) (VBk.same (W := ((A.drew.alloc (.cells #[.slice none 0 0, .int .i64 0, .slice none 0 0, .slice none 0 0, .slice none 0 0, .int .i64 0, .slice none 0 0, .slice none 0 0, .slice none 0 0, .slice none 0 0, .slice none 0 0, .map none] 112)).alloc (.map #[] 0)).alloc (.cells (madeCells zC.cells (nN * 3)) 45)) (by have h := h5b; (try simp only [World.size_alloc] at h); exact h) (by simp) rfl) (MI.same (w := (A.drew.alloc (.cells #[.slice none 0 0, .int .i64 0, .slice none 0 0, .slice none 0 0, .slice none 0 0, .int .i64 0, .slice none 0 0, .slice none 0 0, .slice none 0 0, .slice none 0 0, .slice none 0 0, .map none] 112)).alloc (.map #[] 0)) (by have h := h6b; (try simp only [World.size_alloc] at h); exact h) (Below.heap_alloc _ _ _ (by simp))) ⟨by omega, by omega, by omega⟩ (by omega) (by omega)
        have HY2 := hide y2; have HY3 := hide y3
        have HS9 := hide (unhide BX _ y2)
        clear y2 y3 h8b h5b h6b
        refine step_store rfl 112 _ _ rfl _ _ _ rfl rfl y1 ?_
        refine hK.out _ _ (unhide HS9) (fun hHeld => ?_)
        clear hK KK y1
        refine wpAnyL_done (by kernel_rfl) ?_
        go_wp2_with fail
        go_meet
        exact ⟨_, _, _, rfl, unhide HY2, unhide HY3⟩
  case rest =>
    obtain ⟨d, g, b, rfl, hBe, hSg⟩ := hcut
    go_wp2_with fail
    go_loopw [27] (fun v27 wr => ∃ (i : Nat), v27 = .int .i64 i ∧ i ≤ nR ∧ Hid (Below A.heap.size A wr) ∧ Hid (Sg A.heap.size wr d g b fx nN nN nS S (ksR q F (R.take i)) (φR q F (R.take i))) ∧ Hid (∀ r ∈ R.take i, stE q F S r = 0)) (fun v27 _ => nR - (intOf v27).toNat)
    case atStart => exact ⟨0, rfl, by omega, unhide hBe, unhide hSg, fun r hr => by simp at hr⟩
    case round =>
      obtain ⟨i, rfl, hi, hB, hS, hall⟩ := hrel
      clear hBe hSg
      by_cases hlt : i < nR
      · have hil : i < R.length := by rw [unhide HRN]; exact hlt
        obtain ⟨br, off, e1, hbl, hrr⟩ := (unhide HRL).2 i hil
        have htk : R.take (i + 1) = R.take i ++ [R[i]] := List.take_succ_eq_append_getElem hil
        have hmem : Hid (R[i] ∈ R) := List.getElem_mem hil
        obtain ⟨r, hr⟩ : ∃ r, r = R[i] := ⟨_, rfl⟩
        rw [← hr] at hrr htk hmem
        have l1 : (ldR (.pointer (some ⟨br, off + i * 9, none⟩))).run Tryz.prog wr = .ok r.val wr := run_ldR (fun j u hu => ((unhide hB).cell (p := ⟨br, off + i * 9 + j, none⟩) hbl).trans (hrr j u hu))
        have l2 : (ldR (.pointer (some ⟨wr.heap.size, 0, none⟩))).run Tryz.prog (wr.alloc (.cells r.vals.toArray 39)) = .ok r.val (wr.alloc (.cells r.vals.toArray 39)) := run_ldR (new_range wr r.vals 39)
        have hBZ : Below A.heap.size A (wr.alloc (.cells r.vals.toArray 39)) := (unhide hB).alloc (unhide hB).size _
        have D47 : Hid (Calls Tryz.prog 47 #[.pointer (some ⟨d, 0, none⟩), r.val] (wr.alloc (.cells r.vals.toArray 39)) fun e w' => e = .returned (.int .i64 (stE q F S r)) ∧ Below A.heap.size A w' ∧ (stE q F S r = 0 → Sg A.heap.size w' d g b fx nN nN nS S (ksR q F (R.take (i + 1))) (φR q F (R.take (i + 1))))) := by
          have hSz : Sg A.heap.size (wr.alloc (.cells r.vals.toArray 39)) d g b (fxV q a pF nF cF pS nS cS pP nP cP) q.nodes.length nN nS S (ksR q F (R.take i)) (φR q F (R.take i)) := by
            obtain ⟨V, vG, gs, h1, h2, h3, h4⟩ := (unhide hS).ex
            rw [unhide HFX, unhide HNN] at h1
            rw [unhide HNN]
            exact ⟨V, vG, gs, h1.below (Below.a1 wr _), h2, h3, h4⟩
          have hkl : (ksR q F (R.take i)).length ≤ 4194304 := by
            have := ksR_len q F (R.take i)
            rw [List.length_take] at this
            omega
          refine (take_row (unhide HEA) hBZ hSz (fun k hk => φR_out q F _ k hk) hkl (unhide HRO _ (unhide hmem))).mono fun e w' ⟨h1, h2, h3⟩ => ⟨h1, hBZ.trans h2, fun h => ?_⟩
          have := h3 h
          rw [htk, ksR_snoc, φR_snoc]
          rw [unhide HFX, unhide HNN]
          rw [unhide HNN] at this
          exact this
        have HALL : Hid (stE q F S r = 0 → ∀ y ∈ R.take (i + 1), stE q F S y = 0) := fun h y hy => by
          rw [htk, List.mem_append, List.mem_singleton] at hy
          rcases hy with h1 | h1
          · exact unhide hall y h1
          · rw [h1]; exact h
        have HBADR : Hid (stE q F S r = 11 → overB q F S R = true) := fun h => by
          unfold overB rowsB
          rw [Bool.or_eq_true, List.any_eq_true]
          exact .inl ⟨r, unhide hmem, by rw [h]; rfl⟩
        obtain ⟨er, her⟩ : ∃ v, v = stE q F S r := ⟨_, rfl⟩
        have hor := stE_or q F S r
        rw [← her] at D47 HALL HBADR hor
        have hin : (i : Int) < (nR : Int) := by omega
        have hi0 : ¬ (i : Int) < 0 := by omega
        subst e1
        obtain ⟨i0, i1, i2, i3, s4, acc, amt, s7, s8⟩ := r
        unfold Ro.vals Ro.val at *
        clear hrr htk hr hbl hil her hBZ
        rcases hor with h0 | h0
        · subst h0
          go_wp2_with fail
          refine (unhide D47).mono ?_
          rintro e w1 ⟨rfl, hb1, hs1⟩
          have HB1 := hide hb1
          have HS1 := hide (hs1 (by first | trivial | rfl))
          clear hb1 hs1
          go_wp2_with fail
          exact ⟨⟨i + 1, by go_num, by omega, unhide HB1, unhide HS1, unhide HALL (by first | trivial | rfl)⟩, by simp [intOf]; omega⟩
        · subst h0
          go_wp2_with fail
          refine (unhide D47).mono ?_
          rintro e w1 ⟨rfl, hb1, hs1⟩
          have HO : Hid (LnsOut W q F S R (.returned (.tuple #[.slice none 0 0, .int .i64 11])) w1) := by
            have hov := unhide HBADR (by first | trivial | rfl)
            exact ⟨(unhide HBA).trans (hb1.mono (unhide HBA).size), fun _ => rfl, fun h => by rw [hov] at h; cases h⟩
          clear hb1 hs1
          go_wp2_with fail
          go_ret2
          have hE := unhide HO
          exact hE
      · have hin : i = nR := by omega
        subst hin
        have etk : R.take i = R := List.take_of_length_le (by rw [unhide HRN]; exact Nat.le_refl _)
        rw [etk] at hS hall
        have ROWS : Hid (rowsB q F S R = false) := by
          show _ = _
          unfold rowsB
          rw [List.any_eq_false]
          intro r hr
          rw [unhide hall r hr]
          decide
        have KLEN : Hid ((ksF q F S R).length ≤ 4194304) := by
          have h1 := ksR_len q F R
          have h2 := unhide HRN
          show _ ≤ _
          unfold ksF
          split
          · split
            · omega
            · rw [List.length_append]; simp; omega
          · omega
        clear hall
        have c80 := (unhide BX _ (unhide hB)).2.2.2
        by_cases hF0 : nF = 0
        · have hFe : F = [] := List.eq_nil_of_length_eq_zero ((unhide HEA).fn.trans hF0)
          have hF0b : ((nF : Int) == 0) = true := by rw [hF0]; rfl
          clear hF0
          have l80 := (unhide BX _ (unhide hB)).1
          have d48 := hide (hasEnds_any (p1 := pF) (n1 := nF) (c1 := cF) (c := cS) (p3 := pP) (n3 := nP) (c3 := cP) (unhide HEA).sn ((unhide HEA).s.below (unhide hB)) (unhide HEA).sb)
          obtain ⟨eb, heb⟩ : ∃ v, v = endsB S := ⟨_, rfl⟩
          rw [← heb] at d48
          have HEB := hide heb
          clear heb
          cases eb with
          | false =>
            have D49 : Hid (∀ w, Below A.heap.size A w → Sg A.heap.size w d g b fx nN nN nS S (ksR q F R) (φR q F R) → Calls Tryz.prog 49 #[.pointer (some ⟨d, 0, none⟩), .agg #[.int .i64 0, .int .i64 0, .string ⟨#[]⟩, .int .i64 0, .int .i64 0, .string ⟨#[]⟩, .int .i64 0, .int .i64 0, .string ⟨#[]⟩, .int .i64 0, .int .i64 0, .string ⟨#[]⟩, .int .i64 0, .int .i64 0, .string ⟨#[]⟩, .int .i64 0, .int .i64 0, .string ⟨#[]⟩, .int .i64 0, .int .i64 0, .string ⟨#[]⟩, .int .i64 0, .int .i64 0, .string ⟨#[]⟩, .int .i64 0, .int .i64 0, .string ⟨#[]⟩, .int .i64 0, .int .i64 0, .string ⟨#[]⟩, .int .i64 0, .int .i64 0, .string ⟨#[]⟩, .int .i64 0, .int .i64 0, .string ⟨#[]⟩, .int .i64 0, .int .i64 0, .string ⟨#[]⟩, .int .i64 0, .int .i64 0, .string ⟨#[]⟩]] w fun e w' => (∃ v, e = .returned v) ∧ Below A.heap.size A w' ∧ Sg A.heap.size w' d g b fx nN nN nS S (ksF q F S R) (φR q F R)) := fun w hbw hsw => by
              obtain ⟨V, vG, gs, h1, h2, h3, h4⟩ := hsw.ex
              have hgl : gs.length = (ksR q F R).length := by rw [← h3, List.length_map]
              have hkl := ksR_len q F R
              have h7 : fx[7]? = some (.slice pS nS cS) := by rw [unhide HFX]; rfl
              have hRN := unhide HRN
              refine (groupOf_any h1 hbw.size (by omega) (unhide HEA).sb (k := noK) ⟨rfl, fun c hc => by rw [(List.mem_replicate.1 hc).2]; exact ⟨in0, in0, Nat.zero_le _⟩⟩ h7).mono fun e w' ⟨t, t0, i', vG', he, hs, hb', x, hx, hxk, hxt⟩ => ⟨⟨_, he⟩, hbw.trans hb', V, vG', _, hs, h2, ?_, fun y hy => ?_⟩
              · have eK : ksF q F S R = if noK ∈ ksR q F R then ksR q F R else ksR q F R ++ [noK] := by unfold ksF; rw [if_pos ⟨hFe, (unhide HEB).symm⟩]
                rw [eK]
                unfold grG
                rw [h3]
                by_cases hm : noK ∈ ksR q F R
                · rw [if_pos hm, if_pos hm]; exact h3
                · rw [if_neg hm, if_neg hm, List.map_append, h3]; rfl
              · unfold grG at hy
                rw [h3] at hy
                split at hy
                · exact h4 y hy
                · rename_i hm
                  rcases List.mem_append.1 hy with h5 | h5
                  · exact h4 y h5
                  · rw [List.mem_singleton] at h5
                    subst h5
                    show List.replicate nS (0, Cl.no) = S.map (φR q F R noK)
                    rw [φR_out q F R noK hm, List.map_const', (unhide HEA).sn]
            go_wp2_with fail
            refine (unhide d48).mono ?_
            rintro e w1 ⟨rfl, hb1⟩
            have hBw1 : Below A.heap.size A w1 := (unhide hB).trans (hb1.mono (unhide hB).size)
            have hSw1 : Sg A.heap.size w1 d g b fx nN nN nS S (ksR q F R) (φR q F R) := by
              obtain ⟨V, vG, gs, h1, h2, h3, h4⟩ := (unhide hS).ex
              exact ⟨V, vG, gs, h1.below hb1, h2, h3, h4⟩
            have D9 := hide (unhide D49 w1 hBw1 hSw1)
            clear hb1 hBw1 hSw1 D49 hS hB
            go_wp2_with fail
            refine (unhide D9).mono ?_
            rintro e w2 ⟨⟨v, rfl⟩, hb2, hs2⟩
            have HBV := hide hb2
            have HFIN := hide hs2
            clear hb2 hs2 D9 c80 l80
            -- the lines
            obtain ⟨V, vG, gs, hSc, hVo, hks, htl⟩ := (unhide HFIN).ex
            obtain ⟨nG, hnG⟩ : ∃ n, n = gs.length := ⟨_, rfl⟩
            have hnK : nG = (ksF q F S R).length := by rw [hnG, ← hks, List.length_map]
            have hnGb : nG ≤ 4194304 := by rw [hnK]; exact unhide KLEN
            obtain ⟨pG, cG, evG, _, _⟩ := row_slice hSc.row
            rw [← hnG] at evG
            subst evG
            have g10 := hSc.cell.2.1
            have hml : (Instr.makeSlice 32 (.int .i64 (nG : Int)) (.int .i64 (nG : Int))).run Tryz.prog w2 = .ok (.slice (some ⟨w2.heap.size, 0, none⟩) nG nG) (w2.alloc (.cells (madeCells (Value.slice none 0 0).cells (nG * 1)) 46)) := run_mk w2 32 46 Tryz.underlying32 info46 nG (by omega) (by omega)
            obtain ⟨L0, hL0⟩ : ∃ L, L = w2.alloc (.cells (madeCells (Value.slice none 0 0).cells (nG * 1)) 46) := ⟨_, rfl⟩
            rw [← hL0] at hml
            have hL0s : L0.heap.size = w2.heap.size + 1 := by rw [hL0]; simp
            have hBL : Below w2.heap.size w2 L0 := by rw [hL0]; exact Below.a1 w2 _
            have hbk0 : Bk L0 w2.heap.size 46 ([] ++ List.replicate nG (.slice none 0 0)) := by
              show L0.heap[_]? = _
              rw [hL0, List.nil_append, ← made_slices]
              exact heap_new _ _
            have hSL := hSc.below hBL
            have g10b := hSL.cell.2.1
            have hdl := hSc.blk.lt
            -- what a round finds
            have RG : Hid (∀ wr i, Fr L0 wr (fun j => j = w2.heap.size) → (hi : i < nG) → ∃ gb ga x, pG = some ⟨gb, 0, none⟩ ∧ gs[i]? = some x ∧ (ld119 (.pointer (some ⟨gb, i * 43, none⟩))).run Tryz.prog wr = .ok (.agg ga) wr ∧
                ∃ Y, (st119 (.pointer (some ⟨wr.heap.size, 0, none⟩)) (.agg ga)).run Tryz.prog (wr.alloc (.cells #[.int .i64 0, .int .i64 0, .string ⟨#[]⟩, .int .i64 0, .int .i64 0, .string ⟨#[]⟩, .int .i64 0, .int .i64 0, .string ⟨#[]⟩, .int .i64 0, .int .i64 0, .string ⟨#[]⟩, .int .i64 0, .int .i64 0, .string ⟨#[]⟩, .int .i64 0, .int .i64 0, .string ⟨#[]⟩, .int .i64 0, .int .i64 0, .string ⟨#[]⟩, .int .i64 0, .int .i64 0, .string ⟨#[]⟩, .int .i64 0, .int .i64 0, .string ⟨#[]⟩, .int .i64 0, .int .i64 0, .string ⟨#[]⟩, .int .i64 0, .int .i64 0, .string ⟨#[]⟩, .int .i64 0, .int .i64 0, .string ⟨#[]⟩, .int .i64 0, .int .i64 0, .string ⟨#[]⟩, .int .i64 0, .int .i64 0, .string ⟨#[]⟩, .slice none 0 0] 119)) = .ok () Y ∧ Below wr.heap.size wr Y ∧ (ld119 (.pointer (some ⟨wr.heap.size, 0, none⟩))).run Tryz.prog Y = .ok (.agg ga) Y ∧ (ld80 (.pointer (some ⟨W.heap.size, 0, none⟩))).run Tryz.prog Y = .ok (.agg #[.slice pF nF cF, .slice pS nS cS, .slice pP nP cP]) Y ∧
                Calls Tryz.prog 50 #[.agg #[.slice pF nF cF, .slice pS nS cS, .slice pP nP cP], .agg ga] Y (LnOut Y x.key nF S (φR q F R x.key))) := by
              intro wr i hF hi
              have hil : i < gs.length := by omega
              have hrow := hSL.row
              rw [← hnG] at hrow
              obtain ⟨gb, off, ep, hlt, hrr⟩ := (own_lies kU_ok hnG.symm hrow).2 i hil
              obtain ⟨_, _, e2, _, h2⟩ := row_slice hrow
              cases e2
              have ho : off = 0 := (h2 _ ep).1
              subst ho
              have hgne : gb ≠ w2.heap.size := fun e => by
                have h3 : (Value.slice pG nG cG).ownBlock = some gb := by rw [ep]; rfl
                have h4 := (row_block hSc.row h3).2.1
                omega
              have hm : gs[i] ∈ gs := List.getElem_mem hil
              obtain ⟨ga, hga⟩ : ∃ ga, ga = (gs[i].vals).toArray := ⟨_, rfl⟩
              have hl43 : gs[i].vals.length = 43 := kU_ok.len gs[i]
              have hld : (ld119 (.pointer (some ⟨gb, i * 43, none⟩))).run Tryz.prog wr = .ok (.agg ga) wr := by
                rw [hga]
                refine run_ld119 hl43 (fun j u hu => ?_)
                have := hrr j u hu
                rw [Nat.zero_add] at this
                rw [← this]
                exact hF.cell (p := ⟨gb, i * 43 + j, none⟩) hlt hgne
              have hbz : Bk (wr.alloc (.cells #[.int .i64 0, .int .i64 0, .string ⟨#[]⟩, .int .i64 0, .int .i64 0, .string ⟨#[]⟩, .int .i64 0, .int .i64 0, .string ⟨#[]⟩, .int .i64 0, .int .i64 0, .string ⟨#[]⟩, .int .i64 0, .int .i64 0, .string ⟨#[]⟩, .int .i64 0, .int .i64 0, .string ⟨#[]⟩, .int .i64 0, .int .i64 0, .string ⟨#[]⟩, .int .i64 0, .int .i64 0, .string ⟨#[]⟩, .int .i64 0, .int .i64 0, .string ⟨#[]⟩, .int .i64 0, .int .i64 0, .string ⟨#[]⟩, .int .i64 0, .int .i64 0, .string ⟨#[]⟩, .int .i64 0, .int .i64 0, .string ⟨#[]⟩, .int .i64 0, .int .i64 0, .string ⟨#[]⟩, .int .i64 0, .int .i64 0, .string ⟨#[]⟩, .slice none 0 0] 119)) wr.heap.size 119 ([] ++ (kcs noK ++ [Value.slice none 0 0]) ++ []) := by
                rw [List.nil_append, List.append_nil]
                exact heap_new wr _
              obtain ⟨Y, y1, y2, y3⟩ := hbz.store 119 ga (by rw [hga]; simp [hl43, kcs_len, noK]) (by rw [hga, sz119]; simp [hl43]) (by
                rw [hga, Array.all_eq_true_iff_forall_mem]
                intro u hu
                exact kU_ok.one gs[i] u (by have h := hu; simp only [List.mem_toArray] at h; exact h))
              have y2 : Bk Y wr.heap.size 119 gs[i].vals := by rw [hga] at y2; simpa using y2
              have hbY : Below wr.heap.size wr Y := ((Below.refl _ wr).alloc (Nat.le_refl _) _).trans (y3.below (by simp) (fun j hj e => by omega))
              have hFY : Fr L0 Y (fun j => j = w2.heap.size) := hF.trans (Fr.of_below hbY _) (fun _ _ h => h)
              have hAY : Below A.heap.size A Y := by
                have h1 := (unhide HBV).trans (hBL.mono (unhide HBV).size)
                exact h1.trans (hFY.below h1.size (fun j hj e => by have := (unhide HBV).size; omega))
              have hTY : TLs Y gs[i].t (S.map (φR q F R gs[i].key)) := by
                rw [← htl _ hm]
                have ht := hSc.tal _ hm
                exact (hSL.tal _ hm).same (hFY.block _ (by have := ht.lt; omega) (by have := ht.lt; show ¬ gs[i].t = w2.heap.size; omega))
              refine ⟨gb, ga, gs[i], ep, List.getElem?_eq_getElem hil, hld, Y, y1, hbY, by rw [hga]; exact run_ld119 hl43 (fun j u hu => by rw [y2.cell, Nat.zero_add]; exact hu), (unhide BX _ hAY).1, ?_⟩
              have hE := unhide HEA
              exact line_any hE.sn (hE.s.below hAY) hE.sb hE.f14 (hSc.ok _ hm).1 hTY ga (by
                rw [hga]
                unfold Gr.vals
                rw [p14_id (hSc.ok _ hm).1, hSc.tn _ hm])
            have KEY : Hid (∀ (i : Nat) (x : Gr), gs[i]? = some x → (ksF q F S R)[i]? = some x.key) := fun i x hx => by rw [← hks, List.getElem?_map, hx]; rfl
            have HNK := hide hnK
            have HBL := hide hBL
            have HL0S := hide hL0s
            have HBK0 := hide hbk0
            have HG := hide (show ∀ wr : World, Fr L0 wr (fun j => j = w2.heap.size) → wr.cell? ⟨d, 10, none⟩ = some (.slice pG nG cG) from fun wr h => by rw [h.cell (p := ⟨d, 10, none⟩) (by show d < _; omega) (by show ¬ d = _; omega)]; exact g10b)
            clear hSc hVo hks htl hnG hnK hL0 hL0s hBL hbk0 hSL hdl
            go_wp2_with fail
            go_loopw [55] (fun v55 wr => ∃ (i : Nat) (ss : List Value), v55 = .int .i64 i ∧ i ≤ nG ∧ Hid (Fr L0 wr (fun j => j = w2.heap.size)) ∧ Hid (Bk wr w2.heap.size 46 (ss ++ List.replicate (nG - i) (.slice none 0 0))) ∧ Hid (ss.length = i) ∧ Hid (∀ j k, (ksF q F S R)[j]? = some k → j < i → lnB S (φR q F R k) = false ∧ ∃ p c, ss[j]? = some (.slice p (lnC k nF S (φR q F R k)).length c) ∧ Lies kC wr p (lnC k nF S (φR q F R k)) ∧ ∀ b o, p = some ⟨b, o, none⟩ → b ≠ w2.heap.size ∧ b < wr.heap.size)) (fun v55 _ => nG - (intOf v55).toNat)
            case atStart => exact ⟨0, [], rfl, by omega, Fr.refl _ _, unhide HBK0, rfl, fun j k _ h => by omega⟩
            case round =>
              obtain ⟨i, ss, rfl, hi, hF, hB, hsl, hdone⟩ := hrel
              clear g10 g10b
              by_cases hlt : i < nG
              · obtain ⟨gb, ga, x, e1, hx, l1, Y, y1, hbY, l2, l3, dl⟩ := unhide RG wr i (unhide hF) hlt
                subst e1
                have DL := hide dl
                have HBY := hide hbY
                have HKEY := hide (unhide KEY i x hx)
                have hin : (i : Int) < (nG : Int) := by omega
                have hi0 : ¬ (i : Int) < 0 := by omega
                clear dl hbY hx RG
                go_wp2_with fail
                refine (unhide DL).mono ?_
                rintro e w5 ⟨hbad, hgood⟩
                by_cases hlb : lnB S (φR q F R x.key) = true
                · obtain ⟨rfl, hb5⟩ := hbad hlb
                  have HO : Hid (LnsOut W q F S R (.returned (.tuple #[.slice none 0 0, .int .i64 11])) w5) := by
                    have hov : overB q F S R = true := by
                      unfold overB linesB
                      rw [Bool.or_eq_true, List.any_eq_true]
                      exact .inr ⟨x.key, List.mem_of_getElem? (unhide HKEY), hlb⟩
                    refine ⟨?_, fun _ => rfl, fun h => by rw [hov] at h; cases h⟩
                    have h0 : Below W.heap.size W w2 := (unhide HBA).trans ((unhide HBV).mono (unhide HBA).size)
                    have h1 := h0.trans ((unhide HBL).mono h0.size)
                    have h2 := h1.trans ((unhide hF).below h1.size (fun j hj e => by have := h0.size; omega))
                    have h3 := h2.trans ((unhide HBY).mono h2.size)
                    exact h3.trans (hb5.mono h3.size)
                  clear hbad hgood hb5 hlb
                  go_wp2_with fail
                  go_ret2
                  have hE := unhide HO
                  exact hE
                · have hlb' : lnB S (φR q F R x.key) = false := by simpa using hlb
                  obtain ⟨p5, c5, rfl, hr5⟩ := hgood hlb'
                  have hF5 : Fr L0 w5 (fun j => j = w2.heap.size) := ((unhide hF).trans (Fr.of_below (unhide HBY) _) (fun _ _ h => h)).trans (Fr.of_below hr5.bel _) (fun _ _ h => h)
                  have hB5 : Bk w5 w2.heap.size 46 (ss ++ List.replicate (nG - i) (.slice none 0 0)) := by
                    have hlt2 := (unhide hB).lt
                    have h1 := (unhide hB).same ((unhide HBY).block _ hlt2)
                    exact h1.same (hr5.bel.block _ h1.lt)
                  have hrep : List.replicate (nG - i) (Value.slice none 0 0) = .slice none 0 0 :: List.replicate (nG - (i + 1)) (.slice none 0 0) := by
                    rw [← List.replicate_succ, show nG - (i + 1) + 1 = nG - i by omega]
                  rw [hrep] at hB5
                  have hcl : w5.cell? ⟨w2.heap.size, i, none⟩ = some (.slice none 0 0) := by
                    rw [hB5.cell, List.getElem?_append_right (by rw [unhide hsl]; exact Nat.le_refl _), unhide hsl, Nat.sub_self]; rfl
                  have hfz : w5.frozen? ⟨w2.heap.size, i, none⟩ = false := by simp [World.frozen?, show w5.heap[w2.heap.size]? = some _ from hB5]
                  have HEND : Hid (Fr L0 (w5.setCell ⟨w2.heap.size, i, none⟩ (.slice p5 (nF + S.length) c5)) (fun j => j = w2.heap.size) ∧ Bk (w5.setCell ⟨w2.heap.size, i, none⟩ (.slice p5 (nF + S.length) c5)) w2.heap.size 46 ((ss ++ [.slice p5 (nF + S.length) c5]) ++ List.replicate (nG - (i + 1)) (.slice none 0 0)) ∧ ∀ j k, (ksF q F S R)[j]? = some k → j < i + 1 → lnB S (φR q F R k) = false ∧ ∃ p c, (ss ++ [Value.slice p5 (nF + S.length) c5])[j]? = some (.slice p (lnC k nF S (φR q F R k)).length c) ∧ Lies kC (w5.setCell ⟨w2.heap.size, i, none⟩ (.slice p5 (nF + S.length) c5)) p (lnC k nF S (φR q F R k)) ∧ ∀ b o, p = some ⟨b, o, none⟩ → b ≠ w2.heap.size ∧ b < (w5.setCell ⟨w2.heap.size, i, none⟩ (.slice p5 (nF + S.length) c5)).heap.size) := by
                    have hsz : (w5.setCell ⟨w2.heap.size, i, none⟩ (.slice p5 (nF + S.length) c5)).heap.size = w5.heap.size := by simp [World.setCell]
                    have hset : ∀ m : Nat, m ≠ w2.heap.size → (w5.setCell ⟨w2.heap.size, i, none⟩ (.slice p5 (nF + S.length) c5)).heap[m]? = w5.heap[m]? := fun m hm => Below.heap_setCell _ _ _ _ hm
                    have hlie : ∀ {p : Option Addr} {LL : List Cl}, Lies kC w5 p LL → (∀ b o, p = some ⟨b, o, none⟩ → b ≠ w2.heap.size) → Lies kC (w5.setCell ⟨w2.heap.size, i, none⟩ (.slice p5 (nF + S.length) c5)) p LL := fun {p LL} h1 h2 => by
                      refine ⟨h1.1, fun t ht => ?_⟩
                      obtain ⟨b, off, e, hlt, hr⟩ := h1.2 t ht
                      exact ⟨b, off, e, by rw [hsz]; exact hlt, fun j u hu => (World.cell?_of_block (a := ⟨b, off + t * kC.s + j, none⟩) (hset b (h2 b off e))).trans (hr j u hu)⟩
                    refine ⟨hF5.setCell (p := ⟨w2.heap.size, i, none⟩) (.inl rfl) _, ?_, fun j k hk hj => ?_⟩
                    · unfold Bk at hB5 ⊢
                      rw [setC hB5]
                      have := unhide hsl
                      simp [← this]
                    · by_cases hji : j < i
                      · obtain ⟨h1, p, c, h2, h3, h4⟩ := unhide hdone j k hk hji
                        have hbw : Below wr.heap.size wr w5 := (unhide HBY).trans (hr5.bel.mono (unhide HBY).size)
                        refine ⟨h1, p, c, ?_, hlie (h3.below hbw) (fun b o e => (h4 b o e).1), fun b o e => ⟨(h4 b o e).1, by rw [hsz]; have := (h4 b o e).2; have := hbw.size; omega⟩⟩
                        rw [List.getElem?_append_left (by rw [unhide hsl]; exact hji)]
                        exact h2
                      · have e : j = i := by omega
                        subst e
                        rw [unhide HKEY] at hk
                        cases hk
                        have hlen : (lnC x.key nF S (φR q F R x.key)).length = nF + S.length := hr5.len
                        have hap : ∀ b o, p5 = some ⟨b, o, none⟩ → b ≠ w2.heap.size ∧ b < w5.heap.size := fun b o e => by
                          have hob : (Value.slice p5 (nF + S.length) c5).ownBlock = some b := by rw [e]; rfl
                          have h1 := row_block hr5.row hob
                          have h2 := (unhide HBY).size
                          have h3 := (unhide hB).lt
                          exact ⟨by omega, h1.2.1⟩
                        refine ⟨hlb', p5, c5, ?_, hlie (hr5.lies kC_ok) (fun b o e => (hap b o e).1), fun b o e => ⟨(hap b o e).1, by rw [hsz]; exact (hap b o e).2⟩⟩
                        rw [hlen, List.getElem?_append_right (by rw [unhide hsl]; exact Nat.le_refl _), unhide hsl, Nat.sub_self]
                        rfl
                  have HSL : Hid ((ss ++ [Value.slice p5 (nF + S.length) c5]).length = i + 1) := by show _ = _; rw [List.length_append, unhide hsl]; rfl
                  obtain ⟨mL, hmL⟩ : ∃ m, m = nF + S.length := ⟨_, rfl⟩
                  rw [← hmL] at HEND HSL
                  have HML := hide hmL
                  rw [← hmL]
                  clear hbad hgood hr5 hF5 hB5 hrep hlb hlb' hmL
                  go_wp2_with fail
                  obtain ⟨z1, z2, z3⟩ := unhide HEND
                  exact ⟨⟨i + 1, ss ++ [Value.slice p5 mL c5], by go_num, by omega, z1, z2, HSL, z3⟩, by simp [intOf]; omega⟩
              · have hin : i = nG := by omega
                subst hin
                have HO : Hid (LnsOut W q F S R (.returned (.tuple #[.slice (some ⟨w2.heap.size, 0, none⟩) i i, .int .i64 0])) wr) := by
                  have hlb : linesB q F S R = false := by
                    unfold linesB
                    rw [List.any_eq_false]
                    intro k hk
                    obtain ⟨j, hj, rfl⟩ := List.mem_iff_getElem.1 hk
                    have := (unhide hdone j _ (List.getElem?_eq_getElem hj) (by rw [unhide HNK]; exact hj)).1
                    rw [this]; decide
                  have hov : overB q F S R = false := by unfold overB; rw [unhide ROWS, hlb]; rfl
                  have hll : (linesL q F S R).length = i := by unfold linesL; rw [List.length_map, ← unhide HNK]
                  refine ⟨?_, (fun h => by rw [hov] at h; cases h), fun _ => ⟨w2.heap.size, ss, by rw [hll], ?_⟩⟩
                  · have h0 : Below W.heap.size W w2 := (unhide HBA).trans ((unhide HBV).mono (unhide HBA).size)
                    have h1 := h0.trans ((unhide HBL).mono h0.size)
                    exact h1.trans ((unhide hF).below h1.size (fun j hj e => by have := h0.size; omega))
                  · have hb := unhide hB
                    rw [Nat.sub_self, List.replicate_zero, List.append_nil] at hb
                    refine ⟨hb, ?_, by rw [hll, unhide hsl], fun j hj => ?_⟩
                    · have h0 : Below W.heap.size W w2 := (unhide HBA).trans ((unhide HBV).mono (unhide HBA).size)
                      exact h0.size
                    · have hj2 : j < (ksF q F S R).length := by unfold linesL at hj; rwa [List.length_map] at hj
                      obtain ⟨_, p, c, h2, h3, h4⟩ := unhide hdone j _ (List.getElem?_eq_getElem hj2) (by rw [unhide HNK]; exact hj2)
                      have e0 : (linesL q F S R)[j] = lnC (ksF q F S R)[j] F.length S (φR q F R (ksF q F S R)[j]) := List.getElem_map _
                      have e : (linesL q F S R)[j] = lnC (ksF q F S R)[j] nF S (φR q F R (ksF q F S R)[j]) := by rw [e0, (unhide HEA).fn]
                      rw [e]
                      exact ⟨p, c, h2, h3, h4⟩
                go_wp2_with fail
                go_ret2
                have hE := unhide HO
                exact hE
          | true =>
            go_wp2_with fail
            refine (unhide d48).mono ?_
            rintro e w1 ⟨rfl, hb1⟩
            have HBV : Hid (Below A.heap.size A w1) := (unhide hB).trans (hb1.mono (unhide hB).size)
            have HFIN : Hid (Sg A.heap.size w1 d g b fx nN nN nS S (ksF q F S R) (φR q F R)) := by
              obtain ⟨V, vG, gs, h1, h2, h3, h4⟩ := (unhide hS).ex
              have e : ksF q F S R = ksR q F R := by unfold ksF; rw [if_neg (fun h => by have := h.2; rw [← unhide HEB] at this; cases this)]
              rw [e]
              exact ⟨V, vG, gs, h1.below hb1, h2, h3, h4⟩
            clear hb1 hS hB c80 l80
            -- the lines
            obtain ⟨V, vG, gs, hSc, hVo, hks, htl⟩ := (unhide HFIN).ex
            obtain ⟨nG, hnG⟩ : ∃ n, n = gs.length := ⟨_, rfl⟩
            have hnK : nG = (ksF q F S R).length := by rw [hnG, ← hks, List.length_map]
            have hnGb : nG ≤ 4194304 := by rw [hnK]; exact unhide KLEN
            obtain ⟨pG, cG, evG, _, _⟩ := row_slice hSc.row
            rw [← hnG] at evG
            subst evG
            have g10 := hSc.cell.2.1
            have hml : (Instr.makeSlice 32 (.int .i64 (nG : Int)) (.int .i64 (nG : Int))).run Tryz.prog w1 = .ok (.slice (some ⟨w1.heap.size, 0, none⟩) nG nG) (w1.alloc (.cells (madeCells (Value.slice none 0 0).cells (nG * 1)) 46)) := run_mk w1 32 46 Tryz.underlying32 info46 nG (by omega) (by omega)
            obtain ⟨L0, hL0⟩ : ∃ L, L = w1.alloc (.cells (madeCells (Value.slice none 0 0).cells (nG * 1)) 46) := ⟨_, rfl⟩
            rw [← hL0] at hml
            have hL0s : L0.heap.size = w1.heap.size + 1 := by rw [hL0]; simp
            have hBL : Below w1.heap.size w1 L0 := by rw [hL0]; exact Below.a1 w1 _
            have hbk0 : Bk L0 w1.heap.size 46 ([] ++ List.replicate nG (.slice none 0 0)) := by
              show L0.heap[_]? = _
              rw [hL0, List.nil_append, ← made_slices]
              exact heap_new _ _
            have hSL := hSc.below hBL
            have g10b := hSL.cell.2.1
            have hdl := hSc.blk.lt
            -- what a round finds
            have RG : Hid (∀ wr i, Fr L0 wr (fun j => j = w1.heap.size) → (hi : i < nG) → ∃ gb ga x, pG = some ⟨gb, 0, none⟩ ∧ gs[i]? = some x ∧ (ld119 (.pointer (some ⟨gb, i * 43, none⟩))).run Tryz.prog wr = .ok (.agg ga) wr ∧
                ∃ Y, (st119 (.pointer (some ⟨wr.heap.size, 0, none⟩)) (.agg ga)).run Tryz.prog (wr.alloc (.cells #[.int .i64 0, .int .i64 0, .string ⟨#[]⟩, .int .i64 0, .int .i64 0, .string ⟨#[]⟩, .int .i64 0, .int .i64 0, .string ⟨#[]⟩, .int .i64 0, .int .i64 0, .string ⟨#[]⟩, .int .i64 0, .int .i64 0, .string ⟨#[]⟩, .int .i64 0, .int .i64 0, .string ⟨#[]⟩, .int .i64 0, .int .i64 0, .string ⟨#[]⟩, .int .i64 0, .int .i64 0, .string ⟨#[]⟩, .int .i64 0, .int .i64 0, .string ⟨#[]⟩, .int .i64 0, .int .i64 0, .string ⟨#[]⟩, .int .i64 0, .int .i64 0, .string ⟨#[]⟩, .int .i64 0, .int .i64 0, .string ⟨#[]⟩, .int .i64 0, .int .i64 0, .string ⟨#[]⟩, .int .i64 0, .int .i64 0, .string ⟨#[]⟩, .slice none 0 0] 119)) = .ok () Y ∧ Below wr.heap.size wr Y ∧ (ld119 (.pointer (some ⟨wr.heap.size, 0, none⟩))).run Tryz.prog Y = .ok (.agg ga) Y ∧ (ld80 (.pointer (some ⟨W.heap.size, 0, none⟩))).run Tryz.prog Y = .ok (.agg #[.slice pF nF cF, .slice pS nS cS, .slice pP nP cP]) Y ∧
                Calls Tryz.prog 50 #[.agg #[.slice pF nF cF, .slice pS nS cS, .slice pP nP cP], .agg ga] Y (LnOut Y x.key nF S (φR q F R x.key))) := by
              intro wr i hF hi
              have hil : i < gs.length := by omega
              have hrow := hSL.row
              rw [← hnG] at hrow
              obtain ⟨gb, off, ep, hlt, hrr⟩ := (own_lies kU_ok hnG.symm hrow).2 i hil
              obtain ⟨_, _, e2, _, h2⟩ := row_slice hrow
              cases e2
              have ho : off = 0 := (h2 _ ep).1
              subst ho
              have hgne : gb ≠ w1.heap.size := fun e => by
                have h3 : (Value.slice pG nG cG).ownBlock = some gb := by rw [ep]; rfl
                have h4 := (row_block hSc.row h3).2.1
                omega
              have hm : gs[i] ∈ gs := List.getElem_mem hil
              obtain ⟨ga, hga⟩ : ∃ ga, ga = (gs[i].vals).toArray := ⟨_, rfl⟩
              have hl43 : gs[i].vals.length = 43 := kU_ok.len gs[i]
              have hld : (ld119 (.pointer (some ⟨gb, i * 43, none⟩))).run Tryz.prog wr = .ok (.agg ga) wr := by
                rw [hga]
                refine run_ld119 hl43 (fun j u hu => ?_)
                have := hrr j u hu
                rw [Nat.zero_add] at this
                rw [← this]
                exact hF.cell (p := ⟨gb, i * 43 + j, none⟩) hlt hgne
              have hbz : Bk (wr.alloc (.cells #[.int .i64 0, .int .i64 0, .string ⟨#[]⟩, .int .i64 0, .int .i64 0, .string ⟨#[]⟩, .int .i64 0, .int .i64 0, .string ⟨#[]⟩, .int .i64 0, .int .i64 0, .string ⟨#[]⟩, .int .i64 0, .int .i64 0, .string ⟨#[]⟩, .int .i64 0, .int .i64 0, .string ⟨#[]⟩, .int .i64 0, .int .i64 0, .string ⟨#[]⟩, .int .i64 0, .int .i64 0, .string ⟨#[]⟩, .int .i64 0, .int .i64 0, .string ⟨#[]⟩, .int .i64 0, .int .i64 0, .string ⟨#[]⟩, .int .i64 0, .int .i64 0, .string ⟨#[]⟩, .int .i64 0, .int .i64 0, .string ⟨#[]⟩, .int .i64 0, .int .i64 0, .string ⟨#[]⟩, .int .i64 0, .int .i64 0, .string ⟨#[]⟩, .slice none 0 0] 119)) wr.heap.size 119 ([] ++ (kcs noK ++ [Value.slice none 0 0]) ++ []) := by
                rw [List.nil_append, List.append_nil]
                exact heap_new wr _
              obtain ⟨Y, y1, y2, y3⟩ := hbz.store 119 ga (by rw [hga]; simp [hl43, kcs_len, noK]) (by rw [hga, sz119]; simp [hl43]) (by
                rw [hga, Array.all_eq_true_iff_forall_mem]
                intro u hu
                exact kU_ok.one gs[i] u (by have h := hu; simp only [List.mem_toArray] at h; exact h))
              have y2 : Bk Y wr.heap.size 119 gs[i].vals := by rw [hga] at y2; simpa using y2
              have hbY : Below wr.heap.size wr Y := ((Below.refl _ wr).alloc (Nat.le_refl _) _).trans (y3.below (by simp) (fun j hj e => by omega))
              have hFY : Fr L0 Y (fun j => j = w1.heap.size) := hF.trans (Fr.of_below hbY _) (fun _ _ h => h)
              have hAY : Below A.heap.size A Y := by
                have h1 := (unhide HBV).trans (hBL.mono (unhide HBV).size)
                exact h1.trans (hFY.below h1.size (fun j hj e => by have := (unhide HBV).size; omega))
              have hTY : TLs Y gs[i].t (S.map (φR q F R gs[i].key)) := by
                rw [← htl _ hm]
                have ht := hSc.tal _ hm
                exact (hSL.tal _ hm).same (hFY.block _ (by have := ht.lt; omega) (by have := ht.lt; show ¬ gs[i].t = w1.heap.size; omega))
              refine ⟨gb, ga, gs[i], ep, List.getElem?_eq_getElem hil, hld, Y, y1, hbY, by rw [hga]; exact run_ld119 hl43 (fun j u hu => by rw [y2.cell, Nat.zero_add]; exact hu), (unhide BX _ hAY).1, ?_⟩
              have hE := unhide HEA
              exact line_any hE.sn (hE.s.below hAY) hE.sb hE.f14 (hSc.ok _ hm).1 hTY ga (by
                rw [hga]
                unfold Gr.vals
                rw [p14_id (hSc.ok _ hm).1, hSc.tn _ hm])
            have KEY : Hid (∀ (i : Nat) (x : Gr), gs[i]? = some x → (ksF q F S R)[i]? = some x.key) := fun i x hx => by rw [← hks, List.getElem?_map, hx]; rfl
            have HNK := hide hnK
            have HBL := hide hBL
            have HL0S := hide hL0s
            have HBK0 := hide hbk0
            have HG := hide (show ∀ wr : World, Fr L0 wr (fun j => j = w1.heap.size) → wr.cell? ⟨d, 10, none⟩ = some (.slice pG nG cG) from fun wr h => by rw [h.cell (p := ⟨d, 10, none⟩) (by show d < _; omega) (by show ¬ d = _; omega)]; exact g10b)
            clear hSc hVo hks htl hnG hnK hL0 hL0s hBL hbk0 hSL hdl
            go_wp2_with fail
            go_loopw [55] (fun v55 wr => ∃ (i : Nat) (ss : List Value), v55 = .int .i64 i ∧ i ≤ nG ∧ Hid (Fr L0 wr (fun j => j = w1.heap.size)) ∧ Hid (Bk wr w1.heap.size 46 (ss ++ List.replicate (nG - i) (.slice none 0 0))) ∧ Hid (ss.length = i) ∧ Hid (∀ j k, (ksF q F S R)[j]? = some k → j < i → lnB S (φR q F R k) = false ∧ ∃ p c, ss[j]? = some (.slice p (lnC k nF S (φR q F R k)).length c) ∧ Lies kC wr p (lnC k nF S (φR q F R k)) ∧ ∀ b o, p = some ⟨b, o, none⟩ → b ≠ w1.heap.size ∧ b < wr.heap.size)) (fun v55 _ => nG - (intOf v55).toNat)
            case atStart => exact ⟨0, [], rfl, by omega, Fr.refl _ _, unhide HBK0, rfl, fun j k _ h => by omega⟩
            case round =>
              obtain ⟨i, ss, rfl, hi, hF, hB, hsl, hdone⟩ := hrel
              clear g10 g10b
              by_cases hlt : i < nG
              · obtain ⟨gb, ga, x, e1, hx, l1, Y, y1, hbY, l2, l3, dl⟩ := unhide RG wr i (unhide hF) hlt
                subst e1
                have DL := hide dl
                have HBY := hide hbY
                have HKEY := hide (unhide KEY i x hx)
                have hin : (i : Int) < (nG : Int) := by omega
                have hi0 : ¬ (i : Int) < 0 := by omega
                clear dl hbY hx RG
                go_wp2_with fail
                refine (unhide DL).mono ?_
                rintro e w5 ⟨hbad, hgood⟩
                by_cases hlb : lnB S (φR q F R x.key) = true
                · obtain ⟨rfl, hb5⟩ := hbad hlb
                  have HO : Hid (LnsOut W q F S R (.returned (.tuple #[.slice none 0 0, .int .i64 11])) w5) := by
                    have hov : overB q F S R = true := by
                      unfold overB linesB
                      rw [Bool.or_eq_true, List.any_eq_true]
                      exact .inr ⟨x.key, List.mem_of_getElem? (unhide HKEY), hlb⟩
                    refine ⟨?_, fun _ => rfl, fun h => by rw [hov] at h; cases h⟩
                    have h0 : Below W.heap.size W w1 := (unhide HBA).trans ((unhide HBV).mono (unhide HBA).size)
                    have h1 := h0.trans ((unhide HBL).mono h0.size)
                    have h2 := h1.trans ((unhide hF).below h1.size (fun j hj e => by have := h0.size; omega))
                    have h3 := h2.trans ((unhide HBY).mono h2.size)
                    exact h3.trans (hb5.mono h3.size)
                  clear hbad hgood hb5 hlb
                  go_wp2_with fail
                  go_ret2
                  have hE := unhide HO
                  exact hE
                · have hlb' : lnB S (φR q F R x.key) = false := by simpa using hlb
                  obtain ⟨p5, c5, rfl, hr5⟩ := hgood hlb'
                  have hF5 : Fr L0 w5 (fun j => j = w1.heap.size) := ((unhide hF).trans (Fr.of_below (unhide HBY) _) (fun _ _ h => h)).trans (Fr.of_below hr5.bel _) (fun _ _ h => h)
                  have hB5 : Bk w5 w1.heap.size 46 (ss ++ List.replicate (nG - i) (.slice none 0 0)) := by
                    have hlt2 := (unhide hB).lt
                    have h1 := (unhide hB).same ((unhide HBY).block _ hlt2)
                    exact h1.same (hr5.bel.block _ h1.lt)
                  have hrep : List.replicate (nG - i) (Value.slice none 0 0) = .slice none 0 0 :: List.replicate (nG - (i + 1)) (.slice none 0 0) := by
                    rw [← List.replicate_succ, show nG - (i + 1) + 1 = nG - i by omega]
                  rw [hrep] at hB5
                  have hcl : w5.cell? ⟨w1.heap.size, i, none⟩ = some (.slice none 0 0) := by
                    rw [hB5.cell, List.getElem?_append_right (by rw [unhide hsl]; exact Nat.le_refl _), unhide hsl, Nat.sub_self]; rfl
                  have hfz : w5.frozen? ⟨w1.heap.size, i, none⟩ = false := by simp [World.frozen?, show w5.heap[w1.heap.size]? = some _ from hB5]
                  have HEND : Hid (Fr L0 (w5.setCell ⟨w1.heap.size, i, none⟩ (.slice p5 (nF + S.length) c5)) (fun j => j = w1.heap.size) ∧ Bk (w5.setCell ⟨w1.heap.size, i, none⟩ (.slice p5 (nF + S.length) c5)) w1.heap.size 46 ((ss ++ [.slice p5 (nF + S.length) c5]) ++ List.replicate (nG - (i + 1)) (.slice none 0 0)) ∧ ∀ j k, (ksF q F S R)[j]? = some k → j < i + 1 → lnB S (φR q F R k) = false ∧ ∃ p c, (ss ++ [Value.slice p5 (nF + S.length) c5])[j]? = some (.slice p (lnC k nF S (φR q F R k)).length c) ∧ Lies kC (w5.setCell ⟨w1.heap.size, i, none⟩ (.slice p5 (nF + S.length) c5)) p (lnC k nF S (φR q F R k)) ∧ ∀ b o, p = some ⟨b, o, none⟩ → b ≠ w1.heap.size ∧ b < (w5.setCell ⟨w1.heap.size, i, none⟩ (.slice p5 (nF + S.length) c5)).heap.size) := by
                    have hsz : (w5.setCell ⟨w1.heap.size, i, none⟩ (.slice p5 (nF + S.length) c5)).heap.size = w5.heap.size := by simp [World.setCell]
                    have hset : ∀ m : Nat, m ≠ w1.heap.size → (w5.setCell ⟨w1.heap.size, i, none⟩ (.slice p5 (nF + S.length) c5)).heap[m]? = w5.heap[m]? := fun m hm => Below.heap_setCell _ _ _ _ hm
                    have hlie : ∀ {p : Option Addr} {LL : List Cl}, Lies kC w5 p LL → (∀ b o, p = some ⟨b, o, none⟩ → b ≠ w1.heap.size) → Lies kC (w5.setCell ⟨w1.heap.size, i, none⟩ (.slice p5 (nF + S.length) c5)) p LL := fun {p LL} h1 h2 => by
                      refine ⟨h1.1, fun t ht => ?_⟩
                      obtain ⟨b, off, e, hlt, hr⟩ := h1.2 t ht
                      exact ⟨b, off, e, by rw [hsz]; exact hlt, fun j u hu => (World.cell?_of_block (a := ⟨b, off + t * kC.s + j, none⟩) (hset b (h2 b off e))).trans (hr j u hu)⟩
                    refine ⟨hF5.setCell (p := ⟨w1.heap.size, i, none⟩) (.inl rfl) _, ?_, fun j k hk hj => ?_⟩
                    · unfold Bk at hB5 ⊢
                      rw [setC hB5]
                      have := unhide hsl
                      simp [← this]
                    · by_cases hji : j < i
                      · obtain ⟨h1, p, c, h2, h3, h4⟩ := unhide hdone j k hk hji
                        have hbw : Below wr.heap.size wr w5 := (unhide HBY).trans (hr5.bel.mono (unhide HBY).size)
                        refine ⟨h1, p, c, ?_, hlie (h3.below hbw) (fun b o e => (h4 b o e).1), fun b o e => ⟨(h4 b o e).1, by rw [hsz]; have := (h4 b o e).2; have := hbw.size; omega⟩⟩
                        rw [List.getElem?_append_left (by rw [unhide hsl]; exact hji)]
                        exact h2
                      · have e : j = i := by omega
                        subst e
                        rw [unhide HKEY] at hk
                        cases hk
                        have hlen : (lnC x.key nF S (φR q F R x.key)).length = nF + S.length := hr5.len
                        have hap : ∀ b o, p5 = some ⟨b, o, none⟩ → b ≠ w1.heap.size ∧ b < w5.heap.size := fun b o e => by
                          have hob : (Value.slice p5 (nF + S.length) c5).ownBlock = some b := by rw [e]; rfl
                          have h1 := row_block hr5.row hob
                          have h2 := (unhide HBY).size
                          have h3 := (unhide hB).lt
                          exact ⟨by omega, h1.2.1⟩
                        refine ⟨hlb', p5, c5, ?_, hlie (hr5.lies kC_ok) (fun b o e => (hap b o e).1), fun b o e => ⟨(hap b o e).1, by rw [hsz]; exact (hap b o e).2⟩⟩
                        rw [hlen, List.getElem?_append_right (by rw [unhide hsl]; exact Nat.le_refl _), unhide hsl, Nat.sub_self]
                        rfl
                  have HSL : Hid ((ss ++ [Value.slice p5 (nF + S.length) c5]).length = i + 1) := by show _ = _; rw [List.length_append, unhide hsl]; rfl
                  obtain ⟨mL, hmL⟩ : ∃ m, m = nF + S.length := ⟨_, rfl⟩
                  rw [← hmL] at HEND HSL
                  have HML := hide hmL
                  rw [← hmL]
                  clear hbad hgood hr5 hF5 hB5 hrep hlb hlb' hmL
                  go_wp2_with fail
                  obtain ⟨z1, z2, z3⟩ := unhide HEND
                  exact ⟨⟨i + 1, ss ++ [Value.slice p5 mL c5], by go_num, by omega, z1, z2, HSL, z3⟩, by simp [intOf]; omega⟩
              · have hin : i = nG := by omega
                subst hin
                have HO : Hid (LnsOut W q F S R (.returned (.tuple #[.slice (some ⟨w1.heap.size, 0, none⟩) i i, .int .i64 0])) wr) := by
                  have hlb : linesB q F S R = false := by
                    unfold linesB
                    rw [List.any_eq_false]
                    intro k hk
                    obtain ⟨j, hj, rfl⟩ := List.mem_iff_getElem.1 hk
                    have := (unhide hdone j _ (List.getElem?_eq_getElem hj) (by rw [unhide HNK]; exact hj)).1
                    rw [this]; decide
                  have hov : overB q F S R = false := by unfold overB; rw [unhide ROWS, hlb]; rfl
                  have hll : (linesL q F S R).length = i := by unfold linesL; rw [List.length_map, ← unhide HNK]
                  refine ⟨?_, (fun h => by rw [hov] at h; cases h), fun _ => ⟨w1.heap.size, ss, by rw [hll], ?_⟩⟩
                  · have h0 : Below W.heap.size W w1 := (unhide HBA).trans ((unhide HBV).mono (unhide HBA).size)
                    have h1 := h0.trans ((unhide HBL).mono h0.size)
                    exact h1.trans ((unhide hF).below h1.size (fun j hj e => by have := h0.size; omega))
                  · have hb := unhide hB
                    rw [Nat.sub_self, List.replicate_zero, List.append_nil] at hb
                    refine ⟨hb, ?_, by rw [hll, unhide hsl], fun j hj => ?_⟩
                    · have h0 : Below W.heap.size W w1 := (unhide HBA).trans ((unhide HBV).mono (unhide HBA).size)
                      exact h0.size
                    · have hj2 : j < (ksF q F S R).length := by unfold linesL at hj; rwa [List.length_map] at hj
                      obtain ⟨_, p, c, h2, h3, h4⟩ := unhide hdone j _ (List.getElem?_eq_getElem hj2) (by rw [unhide HNK]; exact hj2)
                      have e0 : (linesL q F S R)[j] = lnC (ksF q F S R)[j] F.length S (φR q F R (ksF q F S R)[j]) := List.getElem_map _
                      have e : (linesL q F S R)[j] = lnC (ksF q F S R)[j] nF S (φR q F R (ksF q F S R)[j]) := by rw [e0, (unhide HEA).fn]
                      rw [e]
                      exact ⟨p, c, h2, h3, h4⟩
                go_wp2_with fail
                go_ret2
                have hE := unhide HO
                exact hE
        · have hF0' : ¬ (nF : Int) = 0 := by omega
          have hF0b : ((nF : Int) == 0) = false := beqF hF0'
          have HBV := hB
          have HFIN : Hid (Sg A.heap.size wr d g b fx nN nN nS S (ksF q F S R) (φR q F R)) := by
            have e : ksF q F S R = ksR q F R := by
              unfold ksF
              rw [if_neg (fun h => hF0 (by rw [← (unhide HEA).fn, h.1]; rfl))]
            show Sg _ _ _ _ _ _ _ _ _ _ _ _
            rw [e]; exact unhide hS
          clear hS hB
          obtain ⟨wr0, hwr0⟩ : ∃ w, w = wr := ⟨_, rfl⟩
          rw [← hwr0] at HBV HFIN c80 ⊢
          clear hwr0
          -- the lines
          obtain ⟨V, vG, gs, hSc, hVo, hks, htl⟩ := (unhide HFIN).ex
          obtain ⟨nG, hnG⟩ : ∃ n, n = gs.length := ⟨_, rfl⟩
          have hnK : nG = (ksF q F S R).length := by rw [hnG, ← hks, List.length_map]
          have hnGb : nG ≤ 4194304 := by rw [hnK]; exact unhide KLEN
          obtain ⟨pG, cG, evG, _, _⟩ := row_slice hSc.row
          rw [← hnG] at evG
          subst evG
          have g10 := hSc.cell.2.1
          have hml : (Instr.makeSlice 32 (.int .i64 (nG : Int)) (.int .i64 (nG : Int))).run Tryz.prog wr0 = .ok (.slice (some ⟨wr0.heap.size, 0, none⟩) nG nG) (wr0.alloc (.cells (madeCells (Value.slice none 0 0).cells (nG * 1)) 46)) := run_mk wr0 32 46 Tryz.underlying32 info46 nG (by omega) (by omega)
          obtain ⟨L0, hL0⟩ : ∃ L, L = wr0.alloc (.cells (madeCells (Value.slice none 0 0).cells (nG * 1)) 46) := ⟨_, rfl⟩
          rw [← hL0] at hml
          have hL0s : L0.heap.size = wr0.heap.size + 1 := by rw [hL0]; simp
          have hBL : Below wr0.heap.size wr0 L0 := by rw [hL0]; exact Below.a1 wr0 _
          have hbk0 : Bk L0 wr0.heap.size 46 ([] ++ List.replicate nG (.slice none 0 0)) := by
            show L0.heap[_]? = _
            rw [hL0, List.nil_append, ← made_slices]
            exact heap_new _ _
          have hSL := hSc.below hBL
          have g10b := hSL.cell.2.1
          have hdl := hSc.blk.lt
          -- what a round finds
          have RG : Hid (∀ wr i, Fr L0 wr (fun j => j = wr0.heap.size) → (hi : i < nG) → ∃ gb ga x, pG = some ⟨gb, 0, none⟩ ∧ gs[i]? = some x ∧ (ld119 (.pointer (some ⟨gb, i * 43, none⟩))).run Tryz.prog wr = .ok (.agg ga) wr ∧
              ∃ Y, (st119 (.pointer (some ⟨wr.heap.size, 0, none⟩)) (.agg ga)).run Tryz.prog (wr.alloc (.cells #[.int .i64 0, .int .i64 0, .string ⟨#[]⟩, .int .i64 0, .int .i64 0, .string ⟨#[]⟩, .int .i64 0, .int .i64 0, .string ⟨#[]⟩, .int .i64 0, .int .i64 0, .string ⟨#[]⟩, .int .i64 0, .int .i64 0, .string ⟨#[]⟩, .int .i64 0, .int .i64 0, .string ⟨#[]⟩, .int .i64 0, .int .i64 0, .string ⟨#[]⟩, .int .i64 0, .int .i64 0, .string ⟨#[]⟩, .int .i64 0, .int .i64 0, .string ⟨#[]⟩, .int .i64 0, .int .i64 0, .string ⟨#[]⟩, .int .i64 0, .int .i64 0, .string ⟨#[]⟩, .int .i64 0, .int .i64 0, .string ⟨#[]⟩, .int .i64 0, .int .i64 0, .string ⟨#[]⟩, .int .i64 0, .int .i64 0, .string ⟨#[]⟩, .slice none 0 0] 119)) = .ok () Y ∧ Below wr.heap.size wr Y ∧ (ld119 (.pointer (some ⟨wr.heap.size, 0, none⟩))).run Tryz.prog Y = .ok (.agg ga) Y ∧ (ld80 (.pointer (some ⟨W.heap.size, 0, none⟩))).run Tryz.prog Y = .ok (.agg #[.slice pF nF cF, .slice pS nS cS, .slice pP nP cP]) Y ∧
              Calls Tryz.prog 50 #[.agg #[.slice pF nF cF, .slice pS nS cS, .slice pP nP cP], .agg ga] Y (LnOut Y x.key nF S (φR q F R x.key))) := by
            intro wr i hF hi
            have hil : i < gs.length := by omega
            have hrow := hSL.row
            rw [← hnG] at hrow
            obtain ⟨gb, off, ep, hlt, hrr⟩ := (own_lies kU_ok hnG.symm hrow).2 i hil
            obtain ⟨_, _, e2, _, h2⟩ := row_slice hrow
            cases e2
            have ho : off = 0 := (h2 _ ep).1
            subst ho
            have hgne : gb ≠ wr0.heap.size := fun e => by
              have h3 : (Value.slice pG nG cG).ownBlock = some gb := by rw [ep]; rfl
              have h4 := (row_block hSc.row h3).2.1
              omega
            have hm : gs[i] ∈ gs := List.getElem_mem hil
            obtain ⟨ga, hga⟩ : ∃ ga, ga = (gs[i].vals).toArray := ⟨_, rfl⟩
            have hl43 : gs[i].vals.length = 43 := kU_ok.len gs[i]
            have hld : (ld119 (.pointer (some ⟨gb, i * 43, none⟩))).run Tryz.prog wr = .ok (.agg ga) wr := by
              rw [hga]
              refine run_ld119 hl43 (fun j u hu => ?_)
              have := hrr j u hu
              rw [Nat.zero_add] at this
              rw [← this]
              exact hF.cell (p := ⟨gb, i * 43 + j, none⟩) hlt hgne
            have hbz : Bk (wr.alloc (.cells #[.int .i64 0, .int .i64 0, .string ⟨#[]⟩, .int .i64 0, .int .i64 0, .string ⟨#[]⟩, .int .i64 0, .int .i64 0, .string ⟨#[]⟩, .int .i64 0, .int .i64 0, .string ⟨#[]⟩, .int .i64 0, .int .i64 0, .string ⟨#[]⟩, .int .i64 0, .int .i64 0, .string ⟨#[]⟩, .int .i64 0, .int .i64 0, .string ⟨#[]⟩, .int .i64 0, .int .i64 0, .string ⟨#[]⟩, .int .i64 0, .int .i64 0, .string ⟨#[]⟩, .int .i64 0, .int .i64 0, .string ⟨#[]⟩, .int .i64 0, .int .i64 0, .string ⟨#[]⟩, .int .i64 0, .int .i64 0, .string ⟨#[]⟩, .int .i64 0, .int .i64 0, .string ⟨#[]⟩, .int .i64 0, .int .i64 0, .string ⟨#[]⟩, .slice none 0 0] 119)) wr.heap.size 119 ([] ++ (kcs noK ++ [Value.slice none 0 0]) ++ []) := by
              rw [List.nil_append, List.append_nil]
              exact heap_new wr _
            obtain ⟨Y, y1, y2, y3⟩ := hbz.store 119 ga (by rw [hga]; simp [hl43, kcs_len, noK]) (by rw [hga, sz119]; simp [hl43]) (by
              rw [hga, Array.all_eq_true_iff_forall_mem]
              intro u hu
              exact kU_ok.one gs[i] u (by have h := hu; simp only [List.mem_toArray] at h; exact h))
            have y2 : Bk Y wr.heap.size 119 gs[i].vals := by rw [hga] at y2; simpa using y2
            have hbY : Below wr.heap.size wr Y := ((Below.refl _ wr).alloc (Nat.le_refl _) _).trans (y3.below (by simp) (fun j hj e => by omega))
            have hFY : Fr L0 Y (fun j => j = wr0.heap.size) := hF.trans (Fr.of_below hbY _) (fun _ _ h => h)
            have hAY : Below A.heap.size A Y := by
              have h1 := (unhide HBV).trans (hBL.mono (unhide HBV).size)
              exact h1.trans (hFY.below h1.size (fun j hj e => by have := (unhide HBV).size; omega))
            have hTY : TLs Y gs[i].t (S.map (φR q F R gs[i].key)) := by
              rw [← htl _ hm]
              have ht := hSc.tal _ hm
              exact (hSL.tal _ hm).same (hFY.block _ (by have := ht.lt; omega) (by have := ht.lt; show ¬ gs[i].t = wr0.heap.size; omega))
            refine ⟨gb, ga, gs[i], ep, List.getElem?_eq_getElem hil, hld, Y, y1, hbY, by rw [hga]; exact run_ld119 hl43 (fun j u hu => by rw [y2.cell, Nat.zero_add]; exact hu), (unhide BX _ hAY).1, ?_⟩
            have hE := unhide HEA
            exact line_any hE.sn (hE.s.below hAY) hE.sb hE.f14 (hSc.ok _ hm).1 hTY ga (by
              rw [hga]
              unfold Gr.vals
              rw [p14_id (hSc.ok _ hm).1, hSc.tn _ hm])
          have KEY : Hid (∀ (i : Nat) (x : Gr), gs[i]? = some x → (ksF q F S R)[i]? = some x.key) := fun i x hx => by rw [← hks, List.getElem?_map, hx]; rfl
          have HNK := hide hnK
          have HBL := hide hBL
          have HL0S := hide hL0s
          have HBK0 := hide hbk0
          have HG := hide (show ∀ wr : World, Fr L0 wr (fun j => j = wr0.heap.size) → wr.cell? ⟨d, 10, none⟩ = some (.slice pG nG cG) from fun wr h => by rw [h.cell (p := ⟨d, 10, none⟩) (by show d < _; omega) (by show ¬ d = _; omega)]; exact g10b)
          clear hSc hVo hks htl hnG hnK hL0 hL0s hBL hbk0 hSL hdl
          go_wp2_with fail
          go_loopw [55] (fun v55 wr => ∃ (i : Nat) (ss : List Value), v55 = .int .i64 i ∧ i ≤ nG ∧ Hid (Fr L0 wr (fun j => j = wr0.heap.size)) ∧ Hid (Bk wr wr0.heap.size 46 (ss ++ List.replicate (nG - i) (.slice none 0 0))) ∧ Hid (ss.length = i) ∧ Hid (∀ j k, (ksF q F S R)[j]? = some k → j < i → lnB S (φR q F R k) = false ∧ ∃ p c, ss[j]? = some (.slice p (lnC k nF S (φR q F R k)).length c) ∧ Lies kC wr p (lnC k nF S (φR q F R k)) ∧ ∀ b o, p = some ⟨b, o, none⟩ → b ≠ wr0.heap.size ∧ b < wr.heap.size)) (fun v55 _ => nG - (intOf v55).toNat)
          case atStart => exact ⟨0, [], rfl, by omega, Fr.refl _ _, unhide HBK0, rfl, fun j k _ h => by omega⟩
          case round =>
            obtain ⟨i, ss, rfl, hi, hF, hB, hsl, hdone⟩ := hrel
            clear g10 g10b
            by_cases hlt : i < nG
            · obtain ⟨gb, ga, x, e1, hx, l1, Y, y1, hbY, l2, l3, dl⟩ := unhide RG wr i (unhide hF) hlt
              subst e1
              have DL := hide dl
              have HBY := hide hbY
              have HKEY := hide (unhide KEY i x hx)
              have hin : (i : Int) < (nG : Int) := by omega
              have hi0 : ¬ (i : Int) < 0 := by omega
              clear dl hbY hx RG
              go_wp2_with fail
              refine (unhide DL).mono ?_
              rintro e w5 ⟨hbad, hgood⟩
              by_cases hlb : lnB S (φR q F R x.key) = true
              · obtain ⟨rfl, hb5⟩ := hbad hlb
                have HO : Hid (LnsOut W q F S R (.returned (.tuple #[.slice none 0 0, .int .i64 11])) w5) := by
                  have hov : overB q F S R = true := by
                    unfold overB linesB
                    rw [Bool.or_eq_true, List.any_eq_true]
                    exact .inr ⟨x.key, List.mem_of_getElem? (unhide HKEY), hlb⟩
                  refine ⟨?_, fun _ => rfl, fun h => by rw [hov] at h; cases h⟩
                  have h0 : Below W.heap.size W wr0 := (unhide HBA).trans ((unhide HBV).mono (unhide HBA).size)
                  have h1 := h0.trans ((unhide HBL).mono h0.size)
                  have h2 := h1.trans ((unhide hF).below h1.size (fun j hj e => by have := h0.size; omega))
                  have h3 := h2.trans ((unhide HBY).mono h2.size)
                  exact h3.trans (hb5.mono h3.size)
                clear hbad hgood hb5 hlb
                go_wp2_with fail
                go_ret2
                have hE := unhide HO
                exact hE
              · have hlb' : lnB S (φR q F R x.key) = false := by simpa using hlb
                obtain ⟨p5, c5, rfl, hr5⟩ := hgood hlb'
                have hF5 : Fr L0 w5 (fun j => j = wr0.heap.size) := ((unhide hF).trans (Fr.of_below (unhide HBY) _) (fun _ _ h => h)).trans (Fr.of_below hr5.bel _) (fun _ _ h => h)
                have hB5 : Bk w5 wr0.heap.size 46 (ss ++ List.replicate (nG - i) (.slice none 0 0)) := by
                  have hlt2 := (unhide hB).lt
                  have h1 := (unhide hB).same ((unhide HBY).block _ hlt2)
                  exact h1.same (hr5.bel.block _ h1.lt)
                have hrep : List.replicate (nG - i) (Value.slice none 0 0) = .slice none 0 0 :: List.replicate (nG - (i + 1)) (.slice none 0 0) := by
                  rw [← List.replicate_succ, show nG - (i + 1) + 1 = nG - i by omega]
                rw [hrep] at hB5
                have hcl : w5.cell? ⟨wr0.heap.size, i, none⟩ = some (.slice none 0 0) := by
                  rw [hB5.cell, List.getElem?_append_right (by rw [unhide hsl]; exact Nat.le_refl _), unhide hsl, Nat.sub_self]; rfl
                have hfz : w5.frozen? ⟨wr0.heap.size, i, none⟩ = false := by simp [World.frozen?, show w5.heap[wr0.heap.size]? = some _ from hB5]
                have HEND : Hid (Fr L0 (w5.setCell ⟨wr0.heap.size, i, none⟩ (.slice p5 (nF + S.length) c5)) (fun j => j = wr0.heap.size) ∧ Bk (w5.setCell ⟨wr0.heap.size, i, none⟩ (.slice p5 (nF + S.length) c5)) wr0.heap.size 46 ((ss ++ [.slice p5 (nF + S.length) c5]) ++ List.replicate (nG - (i + 1)) (.slice none 0 0)) ∧ ∀ j k, (ksF q F S R)[j]? = some k → j < i + 1 → lnB S (φR q F R k) = false ∧ ∃ p c, (ss ++ [Value.slice p5 (nF + S.length) c5])[j]? = some (.slice p (lnC k nF S (φR q F R k)).length c) ∧ Lies kC (w5.setCell ⟨wr0.heap.size, i, none⟩ (.slice p5 (nF + S.length) c5)) p (lnC k nF S (φR q F R k)) ∧ ∀ b o, p = some ⟨b, o, none⟩ → b ≠ wr0.heap.size ∧ b < (w5.setCell ⟨wr0.heap.size, i, none⟩ (.slice p5 (nF + S.length) c5)).heap.size) := by
                  have hsz : (w5.setCell ⟨wr0.heap.size, i, none⟩ (.slice p5 (nF + S.length) c5)).heap.size = w5.heap.size := by simp [World.setCell]
                  have hset : ∀ m : Nat, m ≠ wr0.heap.size → (w5.setCell ⟨wr0.heap.size, i, none⟩ (.slice p5 (nF + S.length) c5)).heap[m]? = w5.heap[m]? := fun m hm => Below.heap_setCell _ _ _ _ hm
                  have hlie : ∀ {p : Option Addr} {LL : List Cl}, Lies kC w5 p LL → (∀ b o, p = some ⟨b, o, none⟩ → b ≠ wr0.heap.size) → Lies kC (w5.setCell ⟨wr0.heap.size, i, none⟩ (.slice p5 (nF + S.length) c5)) p LL := fun {p LL} h1 h2 => by
                    refine ⟨h1.1, fun t ht => ?_⟩
                    obtain ⟨b, off, e, hlt, hr⟩ := h1.2 t ht
                    exact ⟨b, off, e, by rw [hsz]; exact hlt, fun j u hu => (World.cell?_of_block (a := ⟨b, off + t * kC.s + j, none⟩) (hset b (h2 b off e))).trans (hr j u hu)⟩
                  refine ⟨hF5.setCell (p := ⟨wr0.heap.size, i, none⟩) (.inl rfl) _, ?_, fun j k hk hj => ?_⟩
                  · unfold Bk at hB5 ⊢
                    rw [setC hB5]
                    have := unhide hsl
                    simp [← this]
                  · by_cases hji : j < i
                    · obtain ⟨h1, p, c, h2, h3, h4⟩ := unhide hdone j k hk hji
                      have hbw : Below wr.heap.size wr w5 := (unhide HBY).trans (hr5.bel.mono (unhide HBY).size)
                      refine ⟨h1, p, c, ?_, hlie (h3.below hbw) (fun b o e => (h4 b o e).1), fun b o e => ⟨(h4 b o e).1, by rw [hsz]; have := (h4 b o e).2; have := hbw.size; omega⟩⟩
                      rw [List.getElem?_append_left (by rw [unhide hsl]; exact hji)]
                      exact h2
                    · have e : j = i := by omega
                      subst e
                      rw [unhide HKEY] at hk
                      cases hk
                      have hlen : (lnC x.key nF S (φR q F R x.key)).length = nF + S.length := hr5.len
                      have hap : ∀ b o, p5 = some ⟨b, o, none⟩ → b ≠ wr0.heap.size ∧ b < w5.heap.size := fun b o e => by
                        have hob : (Value.slice p5 (nF + S.length) c5).ownBlock = some b := by rw [e]; rfl
                        have h1 := row_block hr5.row hob
                        have h2 := (unhide HBY).size
                        have h3 := (unhide hB).lt
                        exact ⟨by omega, h1.2.1⟩
                      refine ⟨hlb', p5, c5, ?_, hlie (hr5.lies kC_ok) (fun b o e => (hap b o e).1), fun b o e => ⟨(hap b o e).1, by rw [hsz]; exact (hap b o e).2⟩⟩
                      rw [hlen, List.getElem?_append_right (by rw [unhide hsl]; exact Nat.le_refl _), unhide hsl, Nat.sub_self]
                      rfl
                have HSL : Hid ((ss ++ [Value.slice p5 (nF + S.length) c5]).length = i + 1) := by show _ = _; rw [List.length_append, unhide hsl]; rfl
                obtain ⟨mL, hmL⟩ : ∃ m, m = nF + S.length := ⟨_, rfl⟩
                rw [← hmL] at HEND HSL
                have HML := hide hmL
                rw [← hmL]
                clear hbad hgood hr5 hF5 hB5 hrep hlb hlb' hmL
                go_wp2_with fail
                obtain ⟨z1, z2, z3⟩ := unhide HEND
                exact ⟨⟨i + 1, ss ++ [Value.slice p5 mL c5], by go_num, by omega, z1, z2, HSL, z3⟩, by simp [intOf]; omega⟩
            · have hin : i = nG := by omega
              subst hin
              have HO : Hid (LnsOut W q F S R (.returned (.tuple #[.slice (some ⟨wr0.heap.size, 0, none⟩) i i, .int .i64 0])) wr) := by
                have hlb : linesB q F S R = false := by
                  unfold linesB
                  rw [List.any_eq_false]
                  intro k hk
                  obtain ⟨j, hj, rfl⟩ := List.mem_iff_getElem.1 hk
                  have := (unhide hdone j _ (List.getElem?_eq_getElem hj) (by rw [unhide HNK]; exact hj)).1
                  rw [this]; decide
                have hov : overB q F S R = false := by unfold overB; rw [unhide ROWS, hlb]; rfl
                have hll : (linesL q F S R).length = i := by unfold linesL; rw [List.length_map, ← unhide HNK]
                refine ⟨?_, (fun h => by rw [hov] at h; cases h), fun _ => ⟨wr0.heap.size, ss, by rw [hll], ?_⟩⟩
                · have h0 : Below W.heap.size W wr0 := (unhide HBA).trans ((unhide HBV).mono (unhide HBA).size)
                  have h1 := h0.trans ((unhide HBL).mono h0.size)
                  exact h1.trans ((unhide hF).below h1.size (fun j hj e => by have := h0.size; omega))
                · have hb := unhide hB
                  rw [Nat.sub_self, List.replicate_zero, List.append_nil] at hb
                  refine ⟨hb, ?_, by rw [hll, unhide hsl], fun j hj => ?_⟩
                  · have h0 : Below W.heap.size W wr0 := (unhide HBA).trans ((unhide HBV).mono (unhide HBA).size)
                    exact h0.size
                  · have hj2 : j < (ksF q F S R).length := by unfold linesL at hj; rwa [List.length_map] at hj
                    obtain ⟨_, p, c, h2, h3, h4⟩ := unhide hdone j _ (List.getElem?_eq_getElem hj2) (by rw [unhide HNK]; exact hj2)
                    have e0 : (linesL q F S R)[j] = lnC (ksF q F S R)[j] F.length S (φR q F R (ksF q F S R)[j]) := List.getElem_map _
                    have e : (linesL q F S R)[j] = lnC (ksF q F S R)[j] nF S (φR q F R (ksF q F S R)[j]) := by rw [e0, (unhide HEA).fn]
                    rw [e]
                    exact ⟨p, c, h2, h3, h4⟩
              go_wp2_with fail
              go_ret2
              have hE := unhide HO
              exact hE
end
end Go.Proofs.YtbenciieenbmeaaGreatDoor
