import Derived.Test.YtfclknlpdcanpaaGreatDoorW07
/- aged: pop (38). -/
namespace Go.Proofs.YtfclknlpdcanpaaGreatDoor
open Go Go.Shelf Go.ChangeShapes Go.WideShapes Go.ChangeAt Go.RowKit Go.Maps
set_option linter.unusedVariables false
attribute [local go_sem ↓] ld86_is st86_is
def PopOut (W w' : World) (d : Nat) (c0 c1 c2 c3 c4 c5 vt : Value) (n : Nat) (H : List (Int × Nat)) : Prop := ∃ H', (∀ x ∈ H', x ∈ H) ∧ (∀ x ∈ H, x = H.getD 0 (0, 0) ∨ x ∈ H') ∧ Trn W w' d c0 c1 c2 c3 c4 c5 vt n H'
/-- what pop's loop keeps -/
structure PopR (W wr : World) (d g c n : Nat) (c0 c1 c2 c3 c4 c5 vt : Value) (H L : List (Int × Nat)) (i : Nat) : Prop where
  li : i < n ∨ n = 0
  i2 : i ≤ 1000000
  tr : TR wr g n c L
  dn : HpDn (dy L) n i
  m1 : ∀ x ∈ L, x ∈ H
  m2 : ∀ x ∈ H, x = H.getD 0 (0, 0) ∨ x ∈ L
  fr : Fr W wr (fun k => k = d ∨ k = g)
  hd : wr.heap[d]? = some (.cells #[c0, c1, c2, c3, c4, c5, vt] 100 (0, 0))
  rb : wr.heap[W.heap.size]? = some (.cells #[.int .i64 0, .pointer none] 116 (0, 0))
  fb : wr.heap[W.heap.size + 1]? = some (.cells #[.int .i64 (H.getD 0 (0, 0)).1, ptr (H.getD 0 (0, 0)).2] 116 (0, 0))
theorem PopR.more {W wr : World} {d g c n : Nat} {c0 c1 c2 c3 c4 c5 vt : Value} {H L : List (Int × Nat)} {i : Nat} (h : PopR W wr d g c n c0 c1 c2 c3 c4 c5 vt H L i) (o : Obj) (k : Nat) : PopR W ((wr.alloc o).drewN k) d g c n c0 c1 c2 c3 c4 c5 vt H L i := by
  have hk : ∀ b, b < wr.heap.size → ((wr.alloc o).drewN k).heap[b]? = wr.heap[b]? := fun b hb => Below.heap_alloc _ _ _ hb
  exact ⟨h.li, h.i2, h.tr.below (hk g h.tr.lt.1), h.dn, h.m1, h.m2, (h.fr.alloc o).drewN k, (hk d (heap_lt h.hd)).trans h.hd, (hk _ (heap_lt h.rb)).trans h.rb, (hk _ (heap_lt h.fb)).trans h.fb⟩
/-- the end: the row put into its field, the first one into the result -/
theorem PopR.done {W wr : World} {d g c n : Nat} {c0 c1 c2 c3 c4 c5 vt : Value} {H L : List (Int × Nat)} {i : Nat} (h : PopR W wr d g c n c0 c1 c2 c3 c4 c5 vt H L i) (hv : vt.ownBlock = some g) (hgd : g ≠ d) (hdl : d < W.heap.size) (hgl : g < W.heap.size) (hh : Hp (dy L) n) (x : Int × Nat) : PopOut W (setT (wr.setCell ⟨d, 6, none⟩ (.slice (some ⟨g, 0, none⟩) n c)) W.heap.size 0 x) d c0 c1 c2 c3 c4 c5 vt n H := by
  refine ⟨L, h.m1, h.m2, ⟨?_, ⟨.slice (some ⟨g, 0, none⟩) n c, ?_, ?_, .inl hv.symm⟩, h.tr.2, hh⟩⟩
  · exact (setT_fr (h.fr.setCell (p := ⟨d, 6, none⟩) (.inl (.inl rfl)) _) (.inr (Nat.le_refl _)) _ _).mono (fun k _ hk => hk.imp id (fun e => by rw [e]; exact hv))
  · rw [setT_other _ _ _ _ _ (by omega)]
    exact (Go.heap_setCell_same wr d 6 _ 100 _ h.hd).trans rfl
  · refine row_keep h.tr.1 (fun k hk => ?_)
    have e : g = k := Option.some.inj hk
    subst e
    rw [setT_other _ _ _ _ _ (by omega)]
    exact Below.heap_setCell _ _ _ _ hgd
set_option maxRecDepth 100000 in
set_option maxHeartbeats 8000000 in
theorem pop_any {W : World} {d n : Nat} {c0 c1 c2 c3 c4 c5 vt : Value} {H : List (Int × Nat)} (hd : W.heap[d]? = some (.cells #[c0, c1, c2, c3, c4, c5, vt] 100 (0, 0))) (hv : W.ownsRow 0 116 2 vt (n + 1) (kT.flat H)) (hn : H.length = n + 1) (hn2 : n ≤ 1000000) (hp : Hp (dy H) (n + 1)) :
    Calls Tryz.prog 109 #[.pointer (some ⟨d, 6, none⟩)] W fun e w' => e = .returned (.agg #[.int .i64 (H.getD 0 (0, 0)).1, ptr (H.getD 0 (0, 0)).2]) ∧ PopOut W w' d c0 c1 c2 c3 c4 c5 vt n H := by
  have hdl := heap_lt hd
  obtain ⟨pv, c, hvt, hnil, hsome⟩ := row_slice hv
  subst hvt
  obtain ⟨g, rfl⟩ : ∃ g, pv = some ⟨g, 0, none⟩ := by
    rcases hv.2 with ⟨h1, h2⟩ | ⟨g', cap', cur, h1, _⟩
    · omega
    · injection h1 with h1; exact ⟨g', h1⟩
  have hT : TR W g (n + 1) c H := ⟨hv, hn⟩
  have hgd : g ≠ d := fun e => by
    have h1 := row_ty hv rfl
    have h2 : tyAt W g = some 116 := h1
    rw [e, ty_of hd] at h2
    cases h2
  have hgl := hT.lt.1
  have hgc := hT.lt.2.1
  have c6 : W.cell? ⟨d, 6, none⟩ = some (.slice (some ⟨g, 0, none⟩) (n + 1) c) := by simp [World.cell?, hd]
  obtain ⟨x0, hx0⟩ : ∃ x, x = H.getD 0 (0, 0) := ⟨_, rfl⟩
  obtain ⟨xl, hxl⟩ : ∃ x, x = H.getD n (0, 0) := ⟨_, rfl⟩
  obtain ⟨Z, hZ⟩ : ∃ Z, Z = (W.alloc (.cells #[.int .i64 0, .pointer none] 116)).alloc (.cells #[.int .i64 0, .pointer none] 116) := ⟨_, rfl⟩
  have hZ1 : Z.heap[W.heap.size + 1]? = some (.cells #[.int .i64 0, .pointer none] 116 (0, 0)) := by
    rw [hZ]
    exact heap_at (by simp)
  have hZ0 : Z.heap[W.heap.size]? = some (.cells #[.int .i64 0, .pointer none] 116 (0, 0)) := by
    rw [hZ]
    exact (Below.heap_alloc _ _ _ (by simp)).trans (by show (W.heap.push _)[W.heap.size]? = _; simp)
  have hthZ : Z.there (W.heap.size + 1) (0 * 2) 2 := fun j hj => by
    have : j = 0 ∨ j = 1 := by omega
    rcases this with rfl | rfl <;> simp [World.cell?, World.frozen?, hZ1]
  have sF := run_st86 hthZ x0.1 x0.2
  rw [Nat.zero_mul] at sF
  obtain ⟨A, hA⟩ : ∃ A, A = setT Z (W.heap.size + 1) 0 x0 := ⟨_, rfl⟩
  have hA1' : A.heap[W.heap.size + 1]? = some (.cells #[.int .i64 x0.1, ptr x0.2] 116 (0, 0)) := by
    rw [hA]
    show ((Z.setCell ⟨W.heap.size + 1, 0 * 2, none⟩ _).setCell ⟨W.heap.size + 1, 0 * 2 + 1, none⟩ _).heap[W.heap.size + 1]? = _
    rw [Go.heap_setCell_same _ _ _ _ _ _ (Go.heap_setCell_same _ _ _ _ _ _ hZ1)]
    rfl
  have hbA : ∀ k, k < W.heap.size → A.heap[k]? = W.heap[k]? := fun k hk => by
    rw [hA, setT_other _ _ _ _ _ (by omega), hZ, Below.heap_alloc _ _ _ (by simp; omega), Below.heap_alloc _ _ _ hk]
  have sF' : (st86 (.pointer (some ⟨W.heap.size + 1, 0, none⟩)) (.agg #[.int .i64 x0.1, ptr x0.2])).run Tryz.prog ((W.alloc (.cells #[.int .i64 0, .pointer none] 116)).alloc (.cells #[.int .i64 0, .pointer none] 116)) = .ok () A := by
    rw [← hZ, hA]; exact sF
  have hTA : TR A g (n + 1) c H := hT.below (hbA g hgl)
  have l0 := run_ld86 ((hT.drewN 0).range (k := 0) (by omega))
  rw [← hx0, Nat.zero_mul] at l0
  have l0' : (ld86 (.pointer (some ⟨g, 0, none⟩))).run Tryz.prog (W.alloc (.cells #[.int .i64 0, .pointer none] 116)) = .ok (.agg #[.int .i64 x0.1, ptr x0.2]) (W.alloc (.cells #[.int .i64 0, .pointer none] 116)) := by
    have := run_ld86 ((hT.below (W' := W.alloc (.cells #[.int .i64 0, .pointer none] 116)) (Below.heap_alloc _ _ _ hgl)).range (k := 0) (by omega))
    rw [← hx0, Nat.zero_mul] at this
    exact this
  have ll := run_ld86 (hTA.range (k := n) (by omega))
  rw [← hxl] at ll
  have s0 := run_st86 (hTA.there (k := 0) (by omega)) xl.1 xl.2
  rw [Nat.zero_mul] at s0
  obtain ⟨A1, hA1⟩ : ∃ A1, A1 = setT A g 0 xl := ⟨_, rfl⟩
  have hT1 : TR A1 g (n + 1) c (H.set 0 xl) := by rw [hA1]; exact hTA.set 0 xl
  have s1 := run_st86z (hT1.there (k := n) (by omega))
  obtain ⟨A2, hA2⟩ : ∃ A2, A2 = wipeT A1 g n := ⟨_, rfl⟩
  have hT2 : TR A2 g n c ((H.set 0 xl).take n) := by rw [hA2]; exact hT1.wipe
  rw [← hA1] at s0
  rw [← hA2] at s1
  have hk2 : ∀ k, k ≠ g → A2.heap[k]? = A.heap[k]? := fun k hk => by rw [hA2, wipeT_other _ _ _ _ hk, hA1, setT_other _ _ _ _ _ hk]
  have HR : Hid (PopR W A2 d g c n c0 c1 c2 c3 c4 c5 (.slice (some ⟨g, 0, none⟩) (n + 1) c) H ((H.set 0 xl).take n) 0) := by
    have ht := top_mem hn
    rw [← hxl] at ht
    refine ⟨by omega, by omega, hT2, ?_, ht.1, ht.2, ?_, ?_, ?_, ?_⟩
    · have := top_dn hn hp
      rw [← hxl] at this
      exact this
    · rw [hA2, hA1, hA, hZ]
      exact wipeT_fr (setT_fr (setT_fr (((Fr.refl W _).alloc _).alloc _) (.inr (by omega)) _ _) (.inl (.inr rfl)) _ _) (.inl (.inr rfl)) _
    · rw [hk2 d (fun e => hgd e.symm), hbA d hdl]; exact hd
    · rw [hk2 _ (by omega), hA, setT_other _ _ _ _ _ (by omega)]; exact hZ0
    · rw [hk2 _ (by omega), ← hx0]; exact hA1'
  have HGL := hide hgl; have HX0 := hide hx0
  clear hd hv hn hp hnil hsome hT hTA hT1 hT2 hbA hk2 l0 hA1 hA2 hxl hA hA1' sF hthZ hZ hZ0 hZ1
  rw [← hx0]
  clear hx0
  go_enter Tryz.func109, Tryz.ntmps109
  go_wp2_with fail
  go_loopw [6] (fun v6 wr => ∃ (i : Nat) (I : Int) (L : List (Int × Nat)), v6 = .int .i64 I ∧ Hid (I = i) ∧ Hid (PopR W wr d g c n c0 c1 c2 c3 c4 c5 (.slice (some ⟨g, 0, none⟩) (n + 1) c) H L i)) (fun v6 _ => n - (intOf v6).toNat)
  case atStart => exact ⟨0, 0, _, rfl, rfl, unhide HR⟩
  case round =>
    obtain ⟨i, I, L, rfl, hI, hrel⟩ := hrel
    have hII := unhide hI
    have h0 := unhide hrel
    have hi2 := h0.i2
    have hw0 : IntKind.i64.wrap (2 * I) = 2 * I := by rw [IntKind.wrap_i64]; omega
    have hw1 : IntKind.i64.wrap (2 * I + 1) = 2 * I + 1 := by rw [IntKind.wrap_i64]; omega
    have hw2 : IntKind.i64.wrap (2 * I + 2) = 2 * I + 2 := by rw [IntKind.wrap_i64]; omega
    obtain ⟨B, hB⟩ : ∃ B, B = wr.alloc (.cells #[.int .i64 (2 * I + 1), .int .i64 (2 * I + 2)] 3) := ⟨_, rfl⟩
    have hTB : TR B g n c L := h0.tr.below (by rw [hB]; exact Below.heap_alloc _ _ _ h0.tr.lt.1)
    have hqB : B.heap[wr.heap.size]? = some (.cells #[.int .i64 (2 * I + 1), .int .i64 (2 * I + 2)] 3 (0, 0)) := by rw [hB]; exact heap_new _ _
    have dL := hide (least_two (W := B) (f := dy L) (g := g) (n := n) (c := c) (q := wr.heap.size) (c2 := 2) (a := i) (A1 := 2 * I + 1) (A2 := 2 * I + 2) (by omega) (fun k hk => hTB.day hk) (by simp [World.cell?, hqB]) (by simp [World.cell?, hqB]) (by omega) (by omega) h0.li (by omega))
    rw [← hII] at dL
    have HTB := hide hTB; have HBB := hide hB
    clear hTB hqB hII h0 hi2
    subst hB
    go_wp2_with fail
    refine (unhide dL).mono ?_
    rintro e w1 ⟨rfl, k, hw⟩
    obtain ⟨M, hM⟩ : ∃ M : Int, M = (low (dy L) n i : Nat) := ⟨_, rfl⟩
    rw [← hM]
    have HW := hide hw; have HM := hide hM
    clear hw hM dL
    have h1 : PopR W w1 d g c n c0 c1 c2 c3 c4 c5 (.slice (some ⟨g, 0, none⟩) (n + 1) c) H L i := by rw [unhide HW]; exact (unhide hrel).more _ _
    have d6 : w1.cell? ⟨d, 6, none⟩ = some (.slice (some ⟨g, 0, none⟩) (n + 1) c) := by simp [World.cell?, h1.hd]
    have f6 : w1.frozen? ⟨d, 6, none⟩ = false := by simp [World.frozen?, h1.hd]
    have hgl := unhide HGL
    rcases low_is (dy L) n i with ⟨e1, hmin⟩ | ⟨hl1, hl2, hl3, hl4, hl5, hl6⟩
    · have hMI : M = I := by rw [unhide HM, e1, unhide hI]
      have hHp : Hp (dy L) n := h1.dn.stop hmin
      obtain ⟨w4, hw4⟩ : ∃ w4, w4 = w1.setCell ⟨d, 6, none⟩ (.slice (some ⟨g, 0, none⟩) n c) := ⟨_, rfl⟩
      have hR4 : w4.heap[W.heap.size]? = some (.cells #[.int .i64 0, .pointer none] 116 (0, 0)) := by rw [hw4, Below.heap_setCell _ _ _ _ (by simp; omega)]; exact h1.rb
      have hF4 : w4.heap[W.heap.size + 1]? = some (.cells #[.int .i64 x0.1, ptr x0.2] 116 (0, 0)) := by rw [hw4, Below.heap_setCell _ _ _ _ (by simp; omega), unhide HX0]; exact h1.fb
      have lF := run_ld86 (w := w4) (b := W.heap.size + 1) (o := 0) (t := x0.1) (p := x0.2) (fun i v hv => by
        rw [Nat.zero_add]; simpa [World.cell?, hF4] using hv)
      have hth : w4.there W.heap.size (0 * 2) 2 := fun j hj => by
        have : j = 0 ∨ j = 1 := by omega
        rcases this with rfl | rfl <;> simp [World.cell?, World.frozen?, hR4]
      have sR := run_st86 hth x0.1 x0.2
      rw [Nat.zero_mul] at sR
      have HOUT := hide (h1.done rfl hgd hdl hgl hHp x0)
      rw [← hw4] at HOUT
      obtain ⟨w5, hw5⟩ : ∃ w5, w5 = setT w4 W.heap.size 0 x0 := ⟨_, rfl⟩
      have hR5 : w5.heap[W.heap.size]? = some (.cells #[.int .i64 x0.1, ptr x0.2] 116 (0, 0)) := by
        rw [hw5]
        show ((w4.setCell ⟨W.heap.size, 0 * 2, none⟩ _).setCell ⟨W.heap.size, 0 * 2 + 1, none⟩ _).heap[W.heap.size]? = _
        rw [Go.heap_setCell_same _ _ _ _ _ _ (Go.heap_setCell_same _ _ _ _ _ _ hR4)]
        rfl
      rw [← hw5] at sR HOUT
      rw [hw4] at lF sR
      have r0 : w5.cell? ⟨W.heap.size, 0, none⟩ = some (.int .i64 x0.1) := by simp [World.cell?, hR5]
      have r1 : w5.cell? ⟨W.heap.size, 1, none⟩ = some (ptr x0.2) := by simp [World.cell?, hR5]
      have HR5 := hide hR5
      clear h1 hmin hHp hR4 hF4 hth hw5 hR5 HW hw4
      go_wp2_with fail
      refine bodyPost_ret (v := .agg #[.int .i64 x0.1, ptr x0.2]) (by simp [results, Tryz.results109, go_sem, *]) rfl ⟨rfl, unhide HOUT⟩
    · obtain ⟨m, hm⟩ : ∃ m, m = low (dy L) n i := ⟨_, rfl⟩
      rw [← hm] at hl1 hl2 hl3 hl4 hl5 hl6 HM
      have hMI : ¬ M = I := by rw [unhide HM, unhide hI]; omega
      have hMb : (M == I) = false := by rw [beq_eq_false_iff_ne]; exact hMI
      have hMt : M.toNat = m := by rw [unhide HM]; omega
      have hIt : I.toNat = i := by rw [unhide hI]; omega
      have hM1 : 0 ≤ M := by rw [unhide HM]; omega
      have hM2 : M < n := by rw [unhide HM]; omega
      have hI1 : 0 ≤ I := by rw [unhide hI]; omega
      have hI2 : I < n := by rw [unhide hI]; omega
      have hwM : IntKind.i64.wrap M = M := by rw [IntKind.wrap_i64]; omega
      obtain ⟨xi, hxi⟩ : ∃ x, x = L.getD i (0, 0) := ⟨_, rfl⟩
      obtain ⟨xm, hxm⟩ : ∃ x, x = L.getD m (0, 0) := ⟨_, rfl⟩
      obtain ⟨w3, hw3⟩ : ∃ w3, w3 = setT w1.drew g m xi := ⟨_, rfl⟩
      have hT1 : TR w1.drew g n c L := h1.tr.drewN 1
      have hT3 : TR w3 g n c (L.set m xi) := by rw [hw3]; exact hT1.set m xi
      have lm := run_ld86 (hT1.range (k := m) hl1)
      have li := run_ld86 (hT1.range (k := i) (by omega))
      rw [← hxm] at lm
      rw [← hxi] at li
      have s1 := run_st86 (hT1.there (k := m) hl1) xi.1 xi.2
      have s2 := run_st86 (hT3.there (k := i) (by omega)) xm.1 xm.2
      have HREL : Hid (PopR W (setT w3 g i xm) d g c n c0 c1 c2 c3 c4 c5 (.slice (some ⟨g, 0, none⟩) (n + 1) c) H (swL L m i) m) := by
        have hml : m < L.length := by rw [hT1.2]; exact hl1
        have hil : i < L.length := by rw [hT1.2]; omega
        have ho : ∀ b, b ≠ g → (setT w3 g i xm).heap[b]? = w1.heap[b]? := fun b hb => by rw [setT_other _ _ _ _ _ hb, hw3, setT_other _ _ _ _ _ hb]; rfl
        refine ⟨.inl hl1, by omega, ?_, ?_, fun x hx => h1.m1 x ((swL_mem hml hil x).1 hx), fun x hx => (h1.m2 x hx).imp id (fun h => (swL_mem hml hil x).2 h), ?_, (ho d (fun e => hgd e.symm)).trans h1.hd, (ho _ (by omega)).trans h1.rb, (ho _ (by omega)).trans h1.fb⟩
        · have := hT3.set i xm
          rw [hxi, hxm] at this
          rw [hxm]
          exact this
        · rw [swL_dy hml hil]
          exact h1.dn.step hl1 hl2 hl3 hl5 hl6
        · rw [hw3]
          exact setT_fr (setT_fr h1.fr.drew (.inl (.inr rfl)) _ _) (.inl (.inr rfl)) _ _
      have HL4 := hide hl4; have HL1 := hide hl1
      clear hT1 hT3 hxi hxm h1 hl1 hl2 hl3 hl4 hl5 hl6 hm HW d6 f6
      rw [← hw3] at s1
      clear hw3
      go_wp2_with fail
      refine wp_region_last (n := 13) (S := fun W' => (ld86 (.pointer (some ⟨g, m * 2, none⟩))).run Tryz.prog W' = .ok (.agg #[.int .i64 xm.1, ptr xm.2]) W' ∧ (ld86 (.pointer (some ⟨g, i * 2, none⟩))).run Tryz.prog W' = .ok (.agg #[.int .i64 xi.1, ptr xi.2]) W' ∧ W' = w1.drew) (by kernel_rfl) (by exact ⟨lm, li, rfl⟩) (fun hHeld => ?_)
      refine tkW 0 ?_; refine tkW 1 ?_; refine tkW 2 ?_; refine tkW 3 ?_; refine tkW 4 ?_; refine tkW 5 ?_; refine tkW 6 ?_; refine tkS 7 ?_; refine tkW 8 ?_; refine tkW 9 ?_; refine tkW 10 ?_; refine tkS 11 ?_; refine tkW 12 ?_
      clear hHeld
      refine wpAnyL_past (i := 13) (by kernel_rfl) rfl (by kernel_rfl) (fun KK hK => ?_)
      go_simp
      refine hK.out _ _ ?_
      clear hK KK
      refine wpAnyL_past (i := 14) (by kernel_rfl) rfl (by kernel_rfl) (fun KK hK => ?_)
      go_simp
      refine hK.out _ _ ?_
      clear hK KK
      refine wpAnyL_past (i := 15) (by kernel_rfl) rfl (by kernel_rfl) (fun KK hK => ?_)
      go_simp
      refine hK.out _ _ ?_
      clear hK KK
      refine wpAnyL_done (by kernel_rfl) ?_
      go_wp2_with fail
      refine ⟨⟨m, M, swL L m i, rfl, unhide HM, unhide HREL⟩, ?_⟩
      simp only [intOf]
      have := unhide HL4
      have := unhide HL1
      omega
end Go.Proofs.YtfclknlpdcanpaaGreatDoor
/- aged: the view in memory: all that it owns, and how it changes. -/
namespace Go.Proofs.YtfclknlpdcanpaaGreatDoor
open Go Go.Shelf Go.ChangeShapes Go.WideShapes Go.ChangeAt Go.RowKit Go.Maps
set_option linter.unusedVariables false
/-- what a view holds: its claims' blocks with what is in them, its lists, its maps, its accounts -/
structure Gh where
  bs : List Nat
  cl : Nat → Cl
  lf : Nat → Int
  pt : Nat → Pts
  pv : Nat → Value
  sh : Nat → Int × Int
  vc : Value
  ps : List Nat
  va : Value
  al : List Al
  vt : Value
  tn : List (Int × Nat)
  inv : Int
  gone : Int
  mb : Option Nat
  ma : Option Nat
  kf : List UInt8 → Option Nat
  qa : List UInt8 → Option Nat
  nk : Nat
  na : Nat
  av : List UInt8 → Value
  ls : List UInt8 → List Nat
  nw : List UInt8 → Nat → Int
def Gh.agV (G : Gh) : Array Value := #[G.vc, .map G.mb, .map G.ma, G.va, .int .i64 G.inv, .int .i64 G.gone, G.vt]
def Gh.clV (G : Gh) (p : Nat) : Array Value := #[.string (G.cl p).key, .string (G.cl p).acc, .int .i64 (G.cl p).day, .int .i64 (G.cl p).due, .int .i64 (G.cl p).amt, .int .i64 (G.lf p), G.pv p, .int .i64 (G.sh p).1, .int .i64 (G.sh p).2]
def Gh.acV (G : Gh) (k : List UInt8) : Array Value := #[G.av k, .int .i64 (G.nw k 0), .int .i64 (G.nw k 1), .int .i64 (G.nw k 2), .int .i64 (G.nw k 3), .int .i64 (G.nw k 4)]
structure Raw (W : World) (d : Nat) (G : Gh) : Prop where
  ob : W.heap[d]? = some (.cells G.agV 100 (0, 0))
  rc : W.ownsRow 0 101 1 G.vc G.ps.length (kP.flat G.ps)
  ra : W.ownsRow 0 58 4 G.va G.al.length (kA.flat G.al)
  rt : W.ownsRow 0 116 2 G.vt G.tn.length (kT.flat G.tn)
  nd : G.bs.Nodup
  cb : ∀ p ∈ G.bs, W.heap[p]? = some (.cells (G.clV p) 109 (0, 0))
  pr : ∀ p ∈ G.bs, W.ownsRow 0 112 2 (G.pv p) (G.pt p).length (kQ.flat (G.pt p))
  pi : ∀ p ∈ G.bs, ∀ p' ∈ G.bs, ∀ g, (G.pv p).ownBlock = some g → (G.pv p').ownBlock = some g → p = p'
  mm : ∀ b, G.mb = some b → PMAt W b G.nk G.kf
  mn : G.mb = none → ∀ k, G.kf k = none
  am : ∀ b, G.ma = some b → PMAt W b G.na G.qa
  an : G.ma = none → ∀ k, G.qa k = none
  mx : ∀ b, G.mb = some b → G.ma ≠ some b
  ac : ∀ k q, G.qa k = some q → W.heap[q]? = some (.cells (G.acV k) 120 (0, 0))
  ar : ∀ k q, G.qa k = some q → W.ownsRow 0 101 1 (G.av k) (G.ls k).length (kP.flat (G.ls k))
  qi : ∀ k k' q, G.qa k = some q → G.qa k' = some q → k = k'
  ai : ∀ k k' g, G.qa k ≠ none → G.qa k' ≠ none → (G.av k).ownBlock = some g → (G.av k').ownBlock = some g → k = k'
  vi : ∀ k g, G.qa k ≠ none → (G.av k).ownBlock = some g → G.vc.ownBlock ≠ some g
/-- the blocks that are the view's -/
def Gh.own (G : Gh) (d b : Nat) : Prop := b = d ∨ G.vc.ownBlock = some b ∨ G.va.ownBlock = some b ∨ G.vt.ownBlock = some b ∨ b ∈ G.bs ∨ (∃ p ∈ G.bs, (G.pv p).ownBlock = some b) ∨ G.mb = some b ∨ G.ma = some b ∨ (∃ k, G.qa k = some b) ∨ ∃ k, G.qa k ≠ none ∧ (G.av k).ownBlock = some b
theorem own_d {G : Gh} {d : Nat} : G.own d d := .inl rfl
theorem own_vc {G : Gh} {d b : Nat} (h : G.vc.ownBlock = some b) : G.own d b := .inr (.inl h)
theorem own_va {G : Gh} {d b : Nat} (h : G.va.ownBlock = some b) : G.own d b := .inr (.inr (.inl h))
theorem own_vt {G : Gh} {d b : Nat} (h : G.vt.ownBlock = some b) : G.own d b := .inr (.inr (.inr (.inl h)))
theorem own_bs {G : Gh} {d b : Nat} (h : b ∈ G.bs) : G.own d b := .inr (.inr (.inr (.inr (.inl h))))
theorem own_pv {G : Gh} {d b p : Nat} (hp : p ∈ G.bs) (h : (G.pv p).ownBlock = some b) : G.own d b := .inr (.inr (.inr (.inr (.inr (.inl ⟨p, hp, h⟩)))))
theorem own_mk {G : Gh} {d b : Nat} (h : G.mb = some b) : G.own d b := .inr (.inr (.inr (.inr (.inr (.inr (.inl h))))))
theorem own_ma {G : Gh} {d b : Nat} (h : G.ma = some b) : G.own d b := .inr (.inr (.inr (.inr (.inr (.inr (.inr (.inl h)))))))
theorem own_qa {G : Gh} {d b : Nat} {k : List UInt8} (h : G.qa k = some b) : G.own d b := .inr (.inr (.inr (.inr (.inr (.inr (.inr (.inr (.inl ⟨k, h⟩))))))))
theorem own_av {G : Gh} {d b : Nat} {k : List UInt8} (hk : G.qa k ≠ none) (h : (G.av k).ownBlock = some b) : G.own d b := .inr (.inr (.inr (.inr (.inr (.inr (.inr (.inr (.inr ⟨k, hk, h⟩))))))))
theorem some_of {α : Type} {o : Option α} (h : o ≠ none) : ∃ x, o = some x := by
  cases o with
  | none => exact absurd rfl h
  | some x => exact ⟨x, rfl⟩
theorem ne_none {α : Type} {o : Option α} {x : α} (h : o = some x) : o ≠ none := by rw [h]; exact fun e => by cases e
theorem Raw.lt {W : World} {d : Nat} {G : Gh} (h : Raw W d G) {b : Nat} (hb : G.own d b) : b < W.heap.size := by
  rcases hb with rfl | hb | hb | hb | hb | ⟨p, hp, hb⟩ | hb | hb | ⟨k, hb⟩ | ⟨k, hk, hb⟩
  · exact heap_lt h.ob
  · exact (row_block h.rc hb).2.1
  · exact (row_block h.ra hb).2.1
  · exact (row_block h.rt hb).2.1
  · exact heap_lt (h.cb b hb)
  · exact (row_block (h.pr p hp) hb).2.1
  · obtain ⟨es, c, e⟩ := (h.mm b hb).block; exact heap_lt e
  · obtain ⟨es, c, e⟩ := (h.am b hb).block; exact heap_lt e
  · exact heap_lt (h.ac k b hb)
  · obtain ⟨q, hq⟩ := some_of hk
    exact (row_block (h.ar k q hq) hb).2.1
theorem Raw.keep {W W' : World} {d : Nat} {G : Gh} (h : Raw W d G) (hk : ∀ b, G.own d b → W'.heap[b]? = W.heap[b]?) : Raw W' d G where
  ob := (hk d own_d).trans h.ob
  rc := row_keep h.rc fun g hg => hk g (own_vc hg)
  ra := row_keep h.ra fun g hg => hk g (own_va hg)
  rt := row_keep h.rt fun g hg => hk g (own_vt hg)
  nd := h.nd
  cb p hp := (hk p (own_bs hp)).trans (h.cb p hp)
  pr p hp := row_keep (h.pr p hp) fun g hg => hk g (own_pv hp hg)
  pi := h.pi
  mm b hb := (h.mm b hb).keep (hk b (own_mk hb))
  mn := h.mn
  am b hb := (h.am b hb).keep (hk b (own_ma hb))
  an := h.an
  mx := h.mx
  ac k q hq := (hk q (own_qa hq)).trans (h.ac k q hq)
  ar k q hq := row_keep (h.ar k q hq) fun g hg => hk g (own_av (ne_none hq) hg)
  qi := h.qi
  ai := h.ai
  vi := h.vi
theorem Raw.below {W W' : World} {d : Nat} {G : Gh} (h : Raw W d G) (hb : Below W.heap.size W W') : Raw W' d G := h.keep fun b hb' => hb.block b (h.lt hb')
/-- one step -/
structure Next (W W' : World) (d : Nat) (G G' : Gh) : Prop where
  raw : Raw W' d G'
  fr : Fr W W' (G.own d)
  own : ∀ b, G'.own d b → G.own d b ∨ W.heap.size ≤ b
theorem Next.refl {W : World} {d : Nat} {G : Gh} (h : Raw W d G) : Next W W d G G := ⟨h, Fr.refl _ _, fun b hb => .inl hb⟩
theorem Next.trans {W W1 W2 : World} {d : Nat} {G G1 G2 : Gh} (h : Next W W1 d G G1) (k : Next W1 W2 d G1 G2) : Next W W2 d G G2 :=
  ⟨k.raw, h.fr.trans k.fr (fun i hi hx => (h.own i hx).elim id (fun h => by omega)), fun b hb => (k.own b hb).elim (h.own b) (fun h2 => .inr (Nat.le_trans h.fr.size h2))⟩
theorem Next.below {W W1 W2 : World} {d : Nat} {G G1 : Gh} (h : Next W W1 d G G1) (k : Below W1.heap.size W1 W2) : Next W W2 d G G1 :=
  h.trans ⟨h.raw.below k, Fr.of_below k _, fun b hb => .inl hb⟩
theorem Next.drewN {W W1 : World} {d : Nat} {G G1 : Gh} (h : Next W W1 d G G1) (n : Nat) : Next W (W1.drewN n) d G G1 := ⟨h.raw.keep (fun _ _ => rfl), h.fr.drewN n, h.own⟩
/-- types tell blocks apart -/
theorem Raw.tyD {W : World} {d : Nat} {G : Gh} (h : Raw W d G) : tyAt W d = some 100 := ty_of h.ob
theorem Raw.tyB {W : World} {d : Nat} {G : Gh} (h : Raw W d G) {p : Nat} (hp : p ∈ G.bs) : tyAt W p = some 109 := ty_of (h.cb p hp)
theorem Raw.tyQ {W : World} {d : Nat} {G : Gh} (h : Raw W d G) {k : List UInt8} {q : Nat} (hq : G.qa k = some q) : tyAt W q = some 120 := ty_of (h.ac k q hq)
/-- nothing but numbers in the view's, the claims' and the accounts' blocks changes -/
theorem Raw.scalar {W W' : World} {d : Nat} {G G' : Gh} (h : Raw W d G) (e1 : G'.bs = G.bs) (e2 : G'.pt = G.pt) (e3 : G'.pv = G.pv) (e4 : G'.vc = G.vc) (e5 : G'.ps = G.ps) (e6 : G'.va = G.va) (e7 : G'.al = G.al) (e8 : G'.vt = G.vt) (e9 : G'.tn = G.tn) (e10 : G'.mb = G.mb) (e11 : G'.ma = G.ma) (e12 : G'.kf = G.kf) (e13 : G'.qa = G.qa) (e14 : G'.nk = G.nk) (e15 : G'.na = G.na) (e16 : G'.av = G.av) (e17 : G'.ls = G.ls)
    (hf : Fr W W' (fun b => b = d ∨ b ∈ G.bs ∨ ∃ k, G.qa k = some b)) (hd : W'.heap[d]? = some (.cells G'.agV 100 (0, 0))) (hc : ∀ p ∈ G.bs, W'.heap[p]? = some (.cells (G'.clV p) 109 (0, 0))) (hq : ∀ k q, G.qa k = some q → W'.heap[q]? = some (.cells (G'.acV k) 120 (0, 0))) : Next W W' d G G' := by
  have hs : ∀ t, t ≠ 100 → t ≠ 109 → t ≠ 120 → SameT W W' t := fun t h1 h2 h3 b hb => hf.block b (ty_lt hb) (fun hx => by
    rcases hx with rfl | hx | ⟨k, hx⟩
    · rw [h.tyD] at hb; exact h1 (Option.some.inj hb).symm
    · rw [h.tyB hx] at hb; exact h2 (Option.some.inj hb).symm
    · rw [h.tyQ hx] at hb; exact h3 (Option.some.inj hb).symm)
  have hm : ∀ b es c, W.heap[b]? = some (Obj.map es c) → W'.heap[b]? = W.heap[b]? := fun b es c hb => hf.block b (heap_lt hb) (fun hx => by
    rcases hx with rfl | hx | ⟨k, hx⟩
    · rw [h.ob] at hb; cases hb
    · rw [h.cb _ hx] at hb; cases hb
    · rw [h.ac _ _ hx] at hb; cases hb)
  have hown : ∀ b, G'.own d b → G.own d b := fun b hb => by
    unfold Gh.own at hb ⊢
    rw [e1, e3, e4, e6, e8, e10, e11, e13, e16] at hb
    exact hb
  refine ⟨?_, hf.mono (fun i _ hx => by
    rcases hx with rfl | hx | ⟨k, hx⟩
    · exact own_d
    · exact own_bs hx
    · exact own_qa hx), fun b hb => .inl (hown b hb)⟩
  refine { ob := hd, rc := ?_, ra := ?_, rt := ?_, nd := ?_, cb := ?_, pr := ?_, pi := ?_, mm := ?_, mn := ?_, am := ?_, an := ?_, mx := ?_, ac := ?_, ar := ?_, qi := ?_, ai := ?_, vi := ?_ }
  · rw [e4, e5]; exact row_same h.rc (hs 101 (by decide) (by decide) (by decide))
  · rw [e6, e7]; exact row_same h.ra (hs 58 (by decide) (by decide) (by decide))
  · rw [e8, e9]; exact row_same h.rt (hs 116 (by decide) (by decide) (by decide))
  · rw [e1]; exact h.nd
  · rw [e1]; exact hc
  · rw [e1, e2, e3]; exact fun p hp => row_same (h.pr p hp) (hs 112 (by decide) (by decide) (by decide))
  · rw [e1, e3]; exact h.pi
  · rw [e10, e12, e14]; exact fun b hb => (h.mm b hb).keep (by obtain ⟨es, c, e⟩ := (h.mm b hb).block; exact hm b es c e)
  · rw [e10, e12]; exact h.mn
  · rw [e11, e13, e15]; exact fun b hb => (h.am b hb).keep (by obtain ⟨es, c, e⟩ := (h.am b hb).block; exact hm b es c e)
  · rw [e11, e13]; exact h.an
  · rw [e10, e11]; exact h.mx
  · rw [e13]; exact hq
  · rw [e13, e16, e17]; exact fun k q hq => row_same (h.ar k q hq) (hs 101 (by decide) (by decide) (by decide))
  · rw [e13]; exact h.qi
  · rw [e13, e16]; exact h.ai
  · rw [e4, e13, e16]; exact h.vi
/-- other turns -/
theorem Raw.turns {W w' : World} {d : Nat} {G : Gh} (h : Raw W d G) {n' : Nat} {H' : List (Int × Nat)} (ht : Trn W w' d G.vc (.map G.mb) (.map G.ma) G.va (.int .i64 G.inv) (.int .i64 G.gone) G.vt n' H') : ∃ vt', Next W w' d G { G with vt := vt', tn := H' } := by
  obtain ⟨vt', hd, hr, hl⟩ := ht.row
  have hsame : ∀ b, b < W.heap.size → b ≠ d → G.vt.ownBlock ≠ some b → w'.heap[b]? = W.heap[b]? := fun b hb h1 h2 => ht.fr.block b hb (fun hx => hx.elim h1 h2)
  have hs : ∀ t, t ≠ 100 → t ≠ 116 → SameT W w' t := fun t h1 h2 b hb => hsame b (ty_lt hb) (fun e => by rw [e, h.tyD] at hb; exact h1 (Option.some.inj hb).symm) (fun e => by rw [row_ty h.rt e] at hb; exact h2 (Option.some.inj hb).symm)
  have hm : ∀ b es c, W.heap[b]? = some (Obj.map es c) → w'.heap[b]? = W.heap[b]? := fun b es c hb => hsame b (heap_lt hb) (fun e => by rw [e, h.ob] at hb; cases hb) (fun e => by
    obtain ⟨_, _, o, ho, hc⟩ := row_block h.rt e
    rw [hb] at ho; cases ho; cases hc)
  refine ⟨vt', ?_, ht.fr.mono (fun i _ hx => hx.elim (fun e => by rw [e]; exact own_d) own_vt), fun b hb => ?_⟩
  · exact { ob := hd, rc := row_same h.rc (hs 101 (by decide) (by decide)), ra := row_same h.ra (hs 58 (by decide) (by decide)), rt := by rw [ht.len]; exact hr, nd := h.nd
            cb := fun p hp => (hs 109 (by decide) (by decide) p (h.tyB hp)).trans (h.cb p hp)
            pr := fun p hp => row_same (h.pr p hp) (hs 112 (by decide) (by decide)), pi := h.pi
            mm := fun b hb => (h.mm b hb).keep (by obtain ⟨es, c, e⟩ := (h.mm b hb).block; exact hm b es c e), mn := h.mn
            am := fun b hb => (h.am b hb).keep (by obtain ⟨es, c, e⟩ := (h.am b hb).block; exact hm b es c e), an := h.an, mx := h.mx
            ac := fun k q hq => (hs 120 (by decide) (by decide) q (h.tyQ hq)).trans (h.ac k q hq)
            ar := fun k q hq => row_same (h.ar k q hq) (hs 101 (by decide) (by decide)), qi := h.qi, ai := h.ai, vi := h.vi }
  · rcases hb with hb | hb | hb | hb | hb | hb | hb | hb | hb | hb
    · exact .inl (.inl hb)
    · exact .inl (own_vc hb)
    · exact .inl (own_va hb)
    · rcases hl with h1 | ⟨g, h1, h2⟩
      · exact .inl (own_vt (h1.symm.trans hb))
      · have hb : vt'.ownBlock = some b := hb
        rw [h1] at hb
        exact .inr (by rw [← Option.some.inj hb]; exact h2)
    · exact .inl (own_bs hb)
    · obtain ⟨p, hp, hb⟩ := hb; exact .inl (own_pv hp hb)
    · exact .inl (own_mk hb)
    · exact .inl (own_ma hb)
    · obtain ⟨k, hb⟩ := hb; exact .inl (own_qa hb)
    · obtain ⟨k, hk, hb⟩ := hb; exact .inl (own_av hk hb)
end Go.Proofs.YtfclknlpdcanpaaGreatDoor
