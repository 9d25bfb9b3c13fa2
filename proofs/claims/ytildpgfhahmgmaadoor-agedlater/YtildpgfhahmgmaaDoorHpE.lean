/- aged: pop (38). -/
import Derived.Test.YtildpgfhahmgmaaDoorHpD
import Derived.Test.YtildpgfhahmgmaaDoorShA
namespace Go.Proofs.YtildpgfhahmgmaaDoor
open Go Go.Shelf Go.ChangeShapes Go.WideShapes Go.ChangeAt Go.RowKit Go.Maps
set_option linter.unusedVariables false
attribute [local go_sem ↓] ld86_is st86_is
def PopOut (W w' : World) (d : Nat) (c0 c1 c2 c3 c4 c5 vt : Value) (n : Nat) (H : List (Int × Nat)) : Prop := ∃ H', (∀ x ∈ H', x ∈ H) ∧ (∀ x ∈ H, x = H.getD 0 (0, 0) ∨ x ∈ H') ∧ Trn W w' d c0 c1 c2 c3 c4 c5 vt n H'
/-- what pop's loop keeps -/
structure PopR (W wr : World) (d g c n : Nat) (c0 c1 c2 c3 c4 c5 vt : Value) (H L : List (Int × Nat)) (i : Nat) : Prop where
  li : i < n ∨ n = 0
  i2 : i ≤ 1000000
  tr : TR wr g n c L
  dn : HpDn (dy L) n i
  m1 : ∀ x ∈ L, x ∈ H
  m2 : ∀ x ∈ H, x = H.getD 0 (0, 0) ∨ x ∈ L
  fr : Fr W wr (fun k => k = d ∨ k = g)
  hd : wr.heap[d]? = some (.cells #[c0, c1, c2, c3, c4, c5, vt] 83 (0, 0))
  rb : wr.heap[W.heap.size]? = some (.cells #[.int .i64 0, .pointer none] 86 (0, 0))
  fb : wr.heap[W.heap.size + 1]? = some (.cells #[.int .i64 (H.getD 0 (0, 0)).1, ptr (H.getD 0 (0, 0)).2] 86 (0, 0))
theorem PopR.more {W wr : World} {d g c n : Nat} {c0 c1 c2 c3 c4 c5 vt : Value} {H L : List (Int × Nat)} {i : Nat} (h : PopR W wr d g c n c0 c1 c2 c3 c4 c5 vt H L i) (o : Obj) (k : Nat) : PopR W ((wr.alloc o).drewN k) d g c n c0 c1 c2 c3 c4 c5 vt H L i := by
  have hk : ∀ b, b < wr.heap.size → ((wr.alloc o).drewN k).heap[b]? = wr.heap[b]? := fun b hb => Below.heap_alloc _ _ _ hb
  exact ⟨h.li, h.i2, h.tr.below (hk g h.tr.lt.1), h.dn, h.m1, h.m2, (h.fr.alloc o).drewN k, (hk d (heap_lt h.hd)).trans h.hd, (hk _ (heap_lt h.rb)).trans h.rb, (hk _ (heap_lt h.fb)).trans h.fb⟩
/-- the end: the row put into its field, the first one into the result -/
theorem PopR.done {W wr : World} {d g c n : Nat} {c0 c1 c2 c3 c4 c5 vt : Value} {H L : List (Int × Nat)} {i : Nat} (h : PopR W wr d g c n c0 c1 c2 c3 c4 c5 vt H L i) (hv : vt.ownBlock = some g) (hgd : g ≠ d) (hdl : d < W.heap.size) (hgl : g < W.heap.size) (hh : Hp (dy L) n) (x : Int × Nat) : PopOut W (setT (wr.setCell ⟨d, 6, none⟩ (.slice (some ⟨g, 0, none⟩) n c)) W.heap.size 0 x) d c0 c1 c2 c3 c4 c5 vt n H := by
  refine ⟨L, h.m1, h.m2, ⟨?_, ⟨.slice (some ⟨g, 0, none⟩) n c, ?_, ?_, .inl hv.symm⟩, h.tr.2, hh⟩⟩
  · exact (setT_fr (h.fr.setCell (p := ⟨d, 6, none⟩) (.inl (.inl rfl)) _) (.inr (Nat.le_refl _)) _ _).mono (fun k _ hk => hk.imp id (fun e => by rw [e]; exact hv))
  · rw [setT_other _ _ _ _ _ (by omega)]
    exact (Go.heap_setCell_same wr d 6 _ 83 _ h.hd).trans rfl
  · refine row_keep h.tr.1 (fun k hk => ?_)
    have e : g = k := Option.some.inj hk
    subst e
    rw [setT_other _ _ _ _ _ (by omega)]
    exact Below.heap_setCell _ _ _ _ hgd
set_option maxRecDepth 100000 in
set_option maxHeartbeats 8000000 in
theorem pop_any {W : World} {d n : Nat} {c0 c1 c2 c3 c4 c5 vt : Value} {H : List (Int × Nat)} (hd : W.heap[d]? = some (.cells #[c0, c1, c2, c3, c4, c5, vt] 83 (0, 0))) (hv : W.ownsRow 0 86 2 vt (n + 1) (kT.flat H)) (hn : H.length = n + 1) (hn2 : n ≤ 1000000) (hp : Hp (dy H) (n + 1)) :
    Calls Tryd.prog 38 #[.pointer (some ⟨d, 6, none⟩)] W fun e w' => e = .returned (.agg #[.int .i64 (H.getD 0 (0, 0)).1, ptr (H.getD 0 (0, 0)).2]) ∧ PopOut W w' d c0 c1 c2 c3 c4 c5 vt n H := by
  have hdl := heap_lt hd
  obtain ⟨pv, c, hvt, hnil, hsome⟩ := row_slice hv
  subst hvt
  obtain ⟨g, rfl⟩ : ∃ g, pv = some ⟨g, 0, none⟩ := by
    rcases hv.2 with ⟨h1, h2⟩ | ⟨g', cap', cur, h1, _⟩
    · omega
    · injection h1 with h1; exact ⟨g', h1⟩
  have hT : TR W g (n + 1) c H := ⟨hv, hn⟩
  have hgd : g ≠ d := fun e => by
    have h1 := row_ty hv rfl
    have h2 : tyAt W g = some 86 := h1
    rw [e, ty_of hd] at h2
    cases h2
  have hgl := hT.lt.1
  have hgc := hT.lt.2.1
  have c6 : W.cell? ⟨d, 6, none⟩ = some (.slice (some ⟨g, 0, none⟩) (n + 1) c) := by simp [World.cell?, hd]
  obtain ⟨x0, hx0⟩ : ∃ x, x = H.getD 0 (0, 0) := ⟨_, rfl⟩
  obtain ⟨xl, hxl⟩ : ∃ x, x = H.getD n (0, 0) := ⟨_, rfl⟩
  obtain ⟨Z, hZ⟩ : ∃ Z, Z = (W.alloc (.cells #[.int .i64 0, .pointer none] 86)).alloc (.cells #[.int .i64 0, .pointer none] 86) := ⟨_, rfl⟩
  have hZ1 : Z.heap[W.heap.size + 1]? = some (.cells #[.int .i64 0, .pointer none] 86 (0, 0)) := by
    rw [hZ]
    exact heap_at (by simp)
  have hZ0 : Z.heap[W.heap.size]? = some (.cells #[.int .i64 0, .pointer none] 86 (0, 0)) := by
    rw [hZ]
    exact (Below.heap_alloc _ _ _ (by simp)).trans (by show (W.heap.push _)[W.heap.size]? = _; simp)
  have hthZ : Z.there (W.heap.size + 1) (0 * 2) 2 := fun j hj => by
    have : j = 0 ∨ j = 1 := by omega
    rcases this with rfl | rfl <;> simp [World.cell?, World.frozen?, hZ1]
  have sF := run_st86 hthZ x0.1 x0.2
  rw [Nat.zero_mul] at sF
  obtain ⟨A, hA⟩ : ∃ A, A = setT Z (W.heap.size + 1) 0 x0 := ⟨_, rfl⟩
  have hA1' : A.heap[W.heap.size + 1]? = some (.cells #[.int .i64 x0.1, ptr x0.2] 86 (0, 0)) := by
    rw [hA]
    show ((Z.setCell ⟨W.heap.size + 1, 0 * 2, none⟩ _).setCell ⟨W.heap.size + 1, 0 * 2 + 1, none⟩ _).heap[W.heap.size + 1]? = _
    rw [Go.heap_setCell_same _ _ _ _ _ _ (Go.heap_setCell_same _ _ _ _ _ _ hZ1)]
    rfl
  have hbA : ∀ k, k < W.heap.size → A.heap[k]? = W.heap[k]? := fun k hk => by
    rw [hA, setT_other _ _ _ _ _ (by omega), hZ, Below.heap_alloc _ _ _ (by simp; omega), Below.heap_alloc _ _ _ hk]
  have sF' : (st86 (.pointer (some ⟨W.heap.size + 1, 0, none⟩)) (.agg #[.int .i64 x0.1, ptr x0.2])).run Tryd.prog ((W.alloc (.cells #[.int .i64 0, .pointer none] 86)).alloc (.cells #[.int .i64 0, .pointer none] 86)) = .ok () A := by
    rw [← hZ, hA]; exact sF
  have hTA : TR A g (n + 1) c H := hT.below (hbA g hgl)
  have l0 := run_ld86 ((hT.drewN 0).range (k := 0) (by omega))
  rw [← hx0, Nat.zero_mul] at l0
  have l0' : (ld86 (.pointer (some ⟨g, 0, none⟩))).run Tryd.prog (W.alloc (.cells #[.int .i64 0, .pointer none] 86)) = .ok (.agg #[.int .i64 x0.1, ptr x0.2]) (W.alloc (.cells #[.int .i64 0, .pointer none] 86)) := by
    have := run_ld86 ((hT.below (W' := W.alloc (.cells #[.int .i64 0, .pointer none] 86)) (Below.heap_alloc _ _ _ hgl)).range (k := 0) (by omega))
    rw [← hx0, Nat.zero_mul] at this
    exact this
  have ll := run_ld86 (hTA.range (k := n) (by omega))
  rw [← hxl] at ll
  have s0 := run_st86 (hTA.there (k := 0) (by omega)) xl.1 xl.2
  rw [Nat.zero_mul] at s0
  obtain ⟨A1, hA1⟩ : ∃ A1, A1 = setT A g 0 xl := ⟨_, rfl⟩
  have hT1 : TR A1 g (n + 1) c (H.set 0 xl) := by rw [hA1]; exact hTA.set 0 xl
  have s1 := run_st86z (hT1.there (k := n) (by omega))
  obtain ⟨A2, hA2⟩ : ∃ A2, A2 = wipeT A1 g n := ⟨_, rfl⟩
  have hT2 : TR A2 g n c ((H.set 0 xl).take n) := by rw [hA2]; exact hT1.wipe
  rw [← hA1] at s0
  rw [← hA2] at s1
  have hk2 : ∀ k, k ≠ g → A2.heap[k]? = A.heap[k]? := fun k hk => by rw [hA2, wipeT_other _ _ _ _ hk, hA1, setT_other _ _ _ _ _ hk]
  have HR : Hid (PopR W A2 d g c n c0 c1 c2 c3 c4 c5 (.slice (some ⟨g, 0, none⟩) (n + 1) c) H ((H.set 0 xl).take n) 0) := by
    have ht := top_mem hn
    rw [← hxl] at ht
    refine ⟨by omega, by omega, hT2, ?_, ht.1, ht.2, ?_, ?_, ?_, ?_⟩
    · have := top_dn hn hp
      rw [← hxl] at this
      exact this
    · rw [hA2, hA1, hA, hZ]
      exact wipeT_fr (setT_fr (setT_fr (((Fr.refl W _).alloc _).alloc _) (.inr (by omega)) _ _) (.inl (.inr rfl)) _ _) (.inl (.inr rfl)) _
    · rw [hk2 d (fun e => hgd e.symm), hbA d hdl]; exact hd
    · rw [hk2 _ (by omega), hA, setT_other _ _ _ _ _ (by omega)]; exact hZ0
    · rw [hk2 _ (by omega), ← hx0]; exact hA1'
  have HGL := hide hgl; have HX0 := hide hx0
  clear hd hv hn hp hnil hsome hT hTA hT1 hT2 hbA hk2 l0 hA1 hA2 hxl hA hA1' sF hthZ hZ hZ0 hZ1
  rw [← hx0]
  clear hx0
  go_enter Tryd.func38, Tryd.ntmps38
  go_wp2_with fail
  go_loopw [6] (fun v6 wr => ∃ (i : Nat) (I : Int) (L : List (Int × Nat)), v6 = .int .i64 I ∧ Hid (I = i) ∧ Hid (PopR W wr d g c n c0 c1 c2 c3 c4 c5 (.slice (some ⟨g, 0, none⟩) (n + 1) c) H L i)) (fun v6 _ => n - (intOf v6).toNat)
  case atStart => exact ⟨0, 0, _, rfl, rfl, unhide HR⟩
  case round =>
    obtain ⟨i, I, L, rfl, hI, hrel⟩ := hrel
    have hII := unhide hI
    have h0 := unhide hrel
    have hi2 := h0.i2
    have hw0 : IntKind.i64.wrap (2 * I) = 2 * I := by rw [IntKind.wrap_i64]; omega
    have hw1 : IntKind.i64.wrap (2 * I + 1) = 2 * I + 1 := by rw [IntKind.wrap_i64]; omega
    have hw2 : IntKind.i64.wrap (2 * I + 2) = 2 * I + 2 := by rw [IntKind.wrap_i64]; omega
    obtain ⟨B, hB⟩ : ∃ B, B = wr.alloc (.cells #[.int .i64 (2 * I + 1), .int .i64 (2 * I + 2)] 3) := ⟨_, rfl⟩
    have hTB : TR B g n c L := h0.tr.below (by rw [hB]; exact Below.heap_alloc _ _ _ h0.tr.lt.1)
    have hqB : B.heap[wr.heap.size]? = some (.cells #[.int .i64 (2 * I + 1), .int .i64 (2 * I + 2)] 3 (0, 0)) := by rw [hB]; exact heap_new _ _
    have dL := hide (least_two (W := B) (f := dy L) (g := g) (n := n) (c := c) (q := wr.heap.size) (c2 := 2) (a := i) (A1 := 2 * I + 1) (A2 := 2 * I + 2) (by omega) (fun k hk => hTB.day hk) (by simp [World.cell?, hqB]) (by simp [World.cell?, hqB]) (by omega) (by omega) h0.li (by omega))
    rw [← hII] at dL
    have HTB := hide hTB; have HBB := hide hB
    clear hTB hqB hII h0 hi2
    subst hB
    go_wp2_with fail
    refine (unhide dL).mono ?_
    rintro e w1 ⟨rfl, k, hw⟩
    obtain ⟨M, hM⟩ : ∃ M : Int, M = (low (dy L) n i : Nat) := ⟨_, rfl⟩
    rw [← hM]
    have HW := hide hw; have HM := hide hM
    clear hw hM dL
    have h1 : PopR W w1 d g c n c0 c1 c2 c3 c4 c5 (.slice (some ⟨g, 0, none⟩) (n + 1) c) H L i := by rw [unhide HW]; exact (unhide hrel).more _ _
    have d6 : w1.cell? ⟨d, 6, none⟩ = some (.slice (some ⟨g, 0, none⟩) (n + 1) c) := by simp [World.cell?, h1.hd]
    have f6 : w1.frozen? ⟨d, 6, none⟩ = false := by simp [World.frozen?, h1.hd]
    have hgl := unhide HGL
    rcases low_is (dy L) n i with ⟨e1, hmin⟩ | ⟨hl1, hl2, hl3, hl4, hl5, hl6⟩
    · have hMI : M = I := by rw [unhide HM, e1, unhide hI]
      have hHp : Hp (dy L) n := h1.dn.stop hmin
      obtain ⟨w4, hw4⟩ : ∃ w4, w4 = w1.setCell ⟨d, 6, none⟩ (.slice (some ⟨g, 0, none⟩) n c) := ⟨_, rfl⟩
      have hR4 : w4.heap[W.heap.size]? = some (.cells #[.int .i64 0, .pointer none] 86 (0, 0)) := by rw [hw4, Below.heap_setCell _ _ _ _ (by simp; omega)]; exact h1.rb
      have hF4 : w4.heap[W.heap.size + 1]? = some (.cells #[.int .i64 x0.1, ptr x0.2] 86 (0, 0)) := by rw [hw4, Below.heap_setCell _ _ _ _ (by simp; omega), unhide HX0]; exact h1.fb
      have lF := run_ld86 (w := w4) (b := W.heap.size + 1) (o := 0) (t := x0.1) (p := x0.2) (fun i v hv => by
        rw [Nat.zero_add]; simpa [World.cell?, hF4] using hv)
      have hth : w4.there W.heap.size (0 * 2) 2 := fun j hj => by
        have : j = 0 ∨ j = 1 := by omega
        rcases this with rfl | rfl <;> simp [World.cell?, World.frozen?, hR4]
      have sR := run_st86 hth x0.1 x0.2
      rw [Nat.zero_mul] at sR
      have HOUT := hide (h1.done rfl hgd hdl hgl hHp x0)
      rw [← hw4] at HOUT
      obtain ⟨w5, hw5⟩ : ∃ w5, w5 = setT w4 W.heap.size 0 x0 := ⟨_, rfl⟩
      have hR5 : w5.heap[W.heap.size]? = some (.cells #[.int .i64 x0.1, ptr x0.2] 86 (0, 0)) := by
        rw [hw5]
        show ((w4.setCell ⟨W.heap.size, 0 * 2, none⟩ _).setCell ⟨W.heap.size, 0 * 2 + 1, none⟩ _).heap[W.heap.size]? = _
        rw [Go.heap_setCell_same _ _ _ _ _ _ (Go.heap_setCell_same _ _ _ _ _ _ hR4)]
        rfl
      rw [← hw5] at sR HOUT
      rw [hw4] at lF sR
      have r0 : w5.cell? ⟨W.heap.size, 0, none⟩ = some (.int .i64 x0.1) := by simp [World.cell?, hR5]
      have r1 : w5.cell? ⟨W.heap.size, 1, none⟩ = some (ptr x0.2) := by simp [World.cell?, hR5]
      have HR5 := hide hR5
      clear h1 hmin hHp hR4 hF4 hth hw5 hR5 HW hw4
      go_wp2_with fail
      refine bodyPost_ret (v := .agg #[.int .i64 x0.1, ptr x0.2]) (by simp [results, Tryd.results38, go_sem, *]) rfl ⟨rfl, unhide HOUT⟩
    · obtain ⟨m, hm⟩ : ∃ m, m = low (dy L) n i := ⟨_, rfl⟩
      rw [← hm] at hl1 hl2 hl3 hl4 hl5 hl6 HM
      have hMI : ¬ M = I := by rw [unhide HM, unhide hI]; omega
      have hMb : (M == I) = false := by rw [beq_eq_false_iff_ne]; exact hMI
      have hMt : M.toNat = m := by rw [unhide HM]; omega
      have hIt : I.toNat = i := by rw [unhide hI]; omega
      have hM1 : 0 ≤ M := by rw [unhide HM]; omega
      have hM2 : M < n := by rw [unhide HM]; omega
      have hI1 : 0 ≤ I := by rw [unhide hI]; omega
      have hI2 : I < n := by rw [unhide hI]; omega
      have hwM : IntKind.i64.wrap M = M := by rw [IntKind.wrap_i64]; omega
      obtain ⟨xi, hxi⟩ : ∃ x, x = L.getD i (0, 0) := ⟨_, rfl⟩
      obtain ⟨xm, hxm⟩ : ∃ x, x = L.getD m (0, 0) := ⟨_, rfl⟩
      obtain ⟨w3, hw3⟩ : ∃ w3, w3 = setT w1.drew g m xi := ⟨_, rfl⟩
      have hT1 : TR w1.drew g n c L := h1.tr.drewN 1
      have hT3 : TR w3 g n c (L.set m xi) := by rw [hw3]; exact hT1.set m xi
      have lm := run_ld86 (hT1.range (k := m) hl1)
      have li := run_ld86 (hT1.range (k := i) (by omega))
      rw [← hxm] at lm
      rw [← hxi] at li
      have s1 := run_st86 (hT1.there (k := m) hl1) xi.1 xi.2
      have s2 := run_st86 (hT3.there (k := i) (by omega)) xm.1 xm.2
      have HREL : Hid (PopR W (setT w3 g i xm) d g c n c0 c1 c2 c3 c4 c5 (.slice (some ⟨g, 0, none⟩) (n + 1) c) H (swL L m i) m) := by
        have hml : m < L.length := by rw [hT1.2]; exact hl1
        have hil : i < L.length := by rw [hT1.2]; omega
        have ho : ∀ b, b ≠ g → (setT w3 g i xm).heap[b]? = w1.heap[b]? := fun b hb => by rw [setT_other _ _ _ _ _ hb, hw3, setT_other _ _ _ _ _ hb]; rfl
        refine ⟨.inl hl1, by omega, ?_, ?_, fun x hx => h1.m1 x ((swL_mem hml hil x).1 hx), fun x hx => (h1.m2 x hx).imp id (fun h => (swL_mem hml hil x).2 h), ?_, (ho d (fun e => hgd e.symm)).trans h1.hd, (ho _ (by omega)).trans h1.rb, (ho _ (by omega)).trans h1.fb⟩
        · have := hT3.set i xm
          rw [hxi, hxm] at this
          rw [hxm]
          exact this
        · rw [swL_dy hml hil]
          exact h1.dn.step hl1 hl2 hl3 hl5 hl6
        · rw [hw3]
          exact setT_fr (setT_fr h1.fr.drew (.inl (.inr rfl)) _ _) (.inl (.inr rfl)) _ _
      have HL4 := hide hl4; have HL1 := hide hl1
      clear hT1 hT3 hxi hxm h1 hl1 hl2 hl3 hl4 hl5 hl6 hm HW d6 f6
      rw [← hw3] at s1
      clear hw3
      go_wp2_with fail
      refine wp_region_last (n := 13) (S := fun W' => (ld86 (.pointer (some ⟨g, m * 2, none⟩))).run Tryd.prog W' = .ok (.agg #[.int .i64 xm.1, ptr xm.2]) W' ∧ (ld86 (.pointer (some ⟨g, i * 2, none⟩))).run Tryd.prog W' = .ok (.agg #[.int .i64 xi.1, ptr xi.2]) W' ∧ W' = w1.drew) (by kernel_rfl) (by exact ⟨lm, li, rfl⟩) (fun hHeld => ?_)
      refine tkW 0 ?_; refine tkW 1 ?_; refine tkW 2 ?_; refine tkW 3 ?_; refine tkW 4 ?_; refine tkW 5 ?_; refine tkW 6 ?_; refine tkS 7 ?_; refine tkW 8 ?_; refine tkW 9 ?_; refine tkW 10 ?_; refine tkS 11 ?_; refine tkW 12 ?_
      clear hHeld
      refine wpAnyL_past (i := 13) (by kernel_rfl) rfl (by kernel_rfl) (fun KK hK => ?_)
      go_simp
      refine hK.out _ _ ?_
      clear hK KK
      refine wpAnyL_past (i := 14) (by kernel_rfl) rfl (by kernel_rfl) (fun KK hK => ?_)
      go_simp
      refine hK.out _ _ ?_
      clear hK KK
      refine wpAnyL_past (i := 15) (by kernel_rfl) rfl (by kernel_rfl) (fun KK hK => ?_)
      go_simp
      refine hK.out _ _ ?_
      clear hK KK
      refine wpAnyL_done (by kernel_rfl) ?_
      go_wp2_with fail
      refine ⟨⟨m, M, swL L m i, rfl, unhide HM, unhide HREL⟩, ?_⟩
      simp only [intOf]
      have := unhide HL4
      have := unhide HL1
      omega
end Go.Proofs.YtildpgfhahmgmaaDoor
