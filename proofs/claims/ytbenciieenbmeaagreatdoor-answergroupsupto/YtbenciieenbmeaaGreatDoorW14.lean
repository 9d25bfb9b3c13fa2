import Derived.Test.YtbenciieenbmeaaGreatDoorW13
/- answer: worth 104 at and, or. -/
namespace Go.Proofs.YtbenciieenbmeaaGreatDoor
open Go Go.Shelf Go.ChangeShapes Go.WideShapes Go.ChangeAt Go.RowKit Go.Maps
set_option linter.unusedVariables false
section
attribute [local go_sem ↓] stC_is ldC_is
set_option maxRecDepth 100000
set_option maxHeartbeats 4000000
theorem wr2 (k q : Nat) (f m : Int) (s : ByteArray) (r : Ro) (g n c : Nat) (V : List Cl) (hn : V.length = n) (hk : k < n) (hq : q < n) (w : World) (hV : VAt w g V) : Calls Tryz.prog 104 #[.agg #[.int .i64 2, .int .i64 k, .int .i64 q, .int .i64 f, .int .i64 m, .string s], r.val, .slice (some ⟨g, 0, none⟩) n c] w fun e w' => e = .returned (cho (V.getD k .no) (V.getD q .no) true).val ∧ Below w.heap.size w w' := by
  obtain ⟨x, hx⟩ : ∃ x, x = V.getD k .no := ⟨_, rfl⟩
  obtain ⟨y, hy⟩ : ∃ y, y = V.getD q .no := ⟨_, rfl⟩
  have d := hide (cho_any x y true)
  rw [← hx, ← hy]
  obtain ⟨i0, i1, i2, i3, s4, acc, amt, s7, s8⟩ := r
  show Calls Tryz.prog 104 #[_, .agg #[.int .i64 i0, .int .i64 i1, .int .i64 i2, .int .i64 i3, .string s4, .string acc, .int .i64 amt, .string s7, .string s8], _] w _
  obtain ⟨X, hX⟩ : ∃ X, X = ((w.alloc (.cells #[.int .i64 2, .int .i64 k, .int .i64 q, .int .i64 f, .int .i64 m, .string s] 51)).alloc (.cells #[.int .i64 i0, .int .i64 i1, .int .i64 i2, .int .i64 i3, .string s4, .string acc, .int .i64 amt, .string s7, .string s8] 39)).alloc zc := ⟨_, rfl⟩
  have hXs : X.heap.size = w.heap.size + 3 := by rw [hX]; simp
  have hx0 : X.heap[w.heap.size]? = some (.cells #[.int .i64 2, .int .i64 k, .int .i64 q, .int .i64 f, .int .i64 m, .string s] 51 (0, 0)) := by rw [hX]; exact blk3r w _ _ _
  have hx2 : X.heap[w.heap.size + 2]? = some zc := by rw [hX]; exact blk33 w _ _ _
  have hVX : VAt X g V := by rw [hX]; exact hV.below (Below.a3 w _ _ _) hV.lt
  have hBX : Below w.heap.size w X := by rw [hX]; exact Below.a3 w _ _ _
  have HS : Hid (∀ W', Below (w.heap.size + 2) X W' → W'.cell? ⟨w.heap.size, 1, none⟩ = some (.int .i64 k) ∧ W'.cell? ⟨w.heap.size, 2, none⟩ = some (.int .i64 q) ∧ (ldC (.pointer (some ⟨g, k * 3, none⟩))).run Tryz.prog W' = .ok x.val W' ∧ (ldC (.pointer (some ⟨g, q * 3, none⟩))).run Tryz.prog W' = .ok y.val W') := fun W' hB => by
    have hv := hVX.below hB (by have := hV.lt; omega)
    refine ⟨by rw [hB.cell (p := ⟨w.heap.size, 1, none⟩) (by show w.heap.size < _; omega), cellOf hx0]; rfl, by rw [hB.cell (p := ⟨w.heap.size, 2, none⟩) (by show w.heap.size < _; omega), cellOf hx0]; rfl, ?_, ?_⟩
    · rw [hv.ld k (by omega), hx, List.getD_eq_getElem?_getD, List.getElem?_eq_getElem (by omega)]; rfl
    · rw [hv.ld q (by omega), hy, List.getD_eq_getElem?_getD, List.getElem?_eq_getElem (by omega)]; rfl
  have HX := hide hX
  have HX2 := hide hx2
  have HXs := hide hXs
  have HBX := hide hBX
  have hkn : (k : Int) < (n : Int) := by omega
  have h3 : ¬ (k : Int) < 0 := by omega
  have hqn : (q : Int) < (n : Int) := by omega
  have h4 : ¬ (q : Int) < 0 := by omega
  clear hV hx hy hn hk hq hX hXs hx0 hx2 hVX hBX
  go_enter Tryz.func104, Tryz.ntmps104
  go_wp2_with fail
  rw [← unhide HX]
  have hD : Below (w.heap.size + 2) X X.drew := below_drewN (Below.refl _ X) 1
  refine wp_region_last (n := 12) (S := fun W' => W'.cell? ⟨w.heap.size, 1, none⟩ = some (.int .i64 k) ∧ W'.cell? ⟨w.heap.size, 2, none⟩ = some (.int .i64 q) ∧ (ldC (.pointer (some ⟨g, k * 3, none⟩))).run Tryz.prog W' = .ok x.val W' ∧ (ldC (.pointer (some ⟨g, q * 3, none⟩))).run Tryz.prog W' = .ok y.val W') (by kernel_rfl) (unhide HS _ hD) (fun hHeld => ?_)
  refine tkW 0 ?_; refine tkW 1 ?_; refine tkN 2 ?_; refine tkW 3 ?_; refine tkN 4 ?_; refine tkW 5 ?_; refine tkW 6 ?_; refine tkN 7 ?_; refine tkW 8 ?_; refine tkN 9 ?_
  refine wpAnyL_one (i := 10) (by kernel_rfl) rfl (fun KK hK => ?_)
  go_simp
  go_wp2_with fail
  refine (unhide d _).mono ?_
  rintro e w1 ⟨rfl, hb⟩
  have hb0 : Below X.heap.size X w1 := (below_drewN (Below.refl _ X) 1).trans (hb.mono (by simp))
  have hb2 : Below (w.heap.size + 2) X w1 := hb0.mono (by rw [unhide HXs]; omega)
  obtain ⟨Y, hp, y0, y1, y2, hk⟩ := put45 (n := w.heap.size + 2) ((hb0.block _ (by rw [unhide HXs]; omega)).trans (unhide HX2)) (cho x y true)
  have HK := hide (hk w.heap.size w (by omega) ((unhide HBX).trans (hb2.mono (by omega))))
  have S1 := unhide HS _ hb2
  have S2 := unhide HS _ (hk (w.heap.size + 2) X (Nat.le_refl _) hb2)
  obtain ⟨c', hc'⟩ : ∃ c' : Cl, c' = cho x y true := ⟨_, rfl⟩
  rw [← hc'] at hp y0 y1 y2
  have HV := hide (congrArg (fun c : Cl => Ending.returned c.val) hc')
  rw [← hc']
  have HP := hide hp
  clear hb hk hc' hb0 hb2 hp hD
  go_wp2_with fail
  refine hK.out _ _ (by exact S1) (fun hHeld => ?_)
  clear hK KK
  refine wpAnyL_one (i := 11) (by kernel_rfl) rfl (fun KK hK => ?_)
  have hp := unhide HP
  go_simp
  refine hK.out _ _ (by exact S2) (fun hHeld => ?_)
  clear hK KK
  refine wpAnyL_done (by kernel_rfl) ?_
  go_wp2_with fail
  exact bodyPost_ret (v := cV c'.ty c'.num c'.tx) (by simp [results, Tryz.results104, go_sem, y0, y1, y2]) rfl ⟨unhide HV, unhide HK⟩
theorem wr1 (k q : Nat) (f m : Int) (s : ByteArray) (r : Ro) (g n c : Nat) (V : List Cl) (hn : V.length = n) (hk : k < n) (hq : q < n) (w : World) (hV : VAt w g V) : Calls Tryz.prog 104 #[.agg #[.int .i64 1, .int .i64 k, .int .i64 q, .int .i64 f, .int .i64 m, .string s], r.val, .slice (some ⟨g, 0, none⟩) n c] w fun e w' => e = .returned (cho (V.getD k .no) (V.getD q .no) false).val ∧ Below w.heap.size w w' := by
  obtain ⟨x, hx⟩ : ∃ x, x = V.getD k .no := ⟨_, rfl⟩
  obtain ⟨y, hy⟩ : ∃ y, y = V.getD q .no := ⟨_, rfl⟩
  have d := hide (cho_any x y false)
  rw [← hx, ← hy]
  obtain ⟨i0, i1, i2, i3, s4, acc, amt, s7, s8⟩ := r
  show Calls Tryz.prog 104 #[_, .agg #[.int .i64 i0, .int .i64 i1, .int .i64 i2, .int .i64 i3, .string s4, .string acc, .int .i64 amt, .string s7, .string s8], _] w _
  obtain ⟨X, hX⟩ : ∃ X, X = ((w.alloc (.cells #[.int .i64 1, .int .i64 k, .int .i64 q, .int .i64 f, .int .i64 m, .string s] 51)).alloc (.cells #[.int .i64 i0, .int .i64 i1, .int .i64 i2, .int .i64 i3, .string s4, .string acc, .int .i64 amt, .string s7, .string s8] 39)).alloc zc := ⟨_, rfl⟩
  have hXs : X.heap.size = w.heap.size + 3 := by rw [hX]; simp
  have hx0 : X.heap[w.heap.size]? = some (.cells #[.int .i64 1, .int .i64 k, .int .i64 q, .int .i64 f, .int .i64 m, .string s] 51 (0, 0)) := by rw [hX]; exact blk3r w _ _ _
  have hx2 : X.heap[w.heap.size + 2]? = some zc := by rw [hX]; exact blk33 w _ _ _
  have hVX : VAt X g V := by rw [hX]; exact hV.below (Below.a3 w _ _ _) hV.lt
  have hBX : Below w.heap.size w X := by rw [hX]; exact Below.a3 w _ _ _
  have HS : Hid (∀ W', Below (w.heap.size + 2) X W' → W'.cell? ⟨w.heap.size, 1, none⟩ = some (.int .i64 k) ∧ W'.cell? ⟨w.heap.size, 2, none⟩ = some (.int .i64 q) ∧ (ldC (.pointer (some ⟨g, k * 3, none⟩))).run Tryz.prog W' = .ok x.val W' ∧ (ldC (.pointer (some ⟨g, q * 3, none⟩))).run Tryz.prog W' = .ok y.val W') := fun W' hB => by
    have hv := hVX.below hB (by have := hV.lt; omega)
    refine ⟨by rw [hB.cell (p := ⟨w.heap.size, 1, none⟩) (by show w.heap.size < _; omega), cellOf hx0]; rfl, by rw [hB.cell (p := ⟨w.heap.size, 2, none⟩) (by show w.heap.size < _; omega), cellOf hx0]; rfl, ?_, ?_⟩
    · rw [hv.ld k (by omega), hx, List.getD_eq_getElem?_getD, List.getElem?_eq_getElem (by omega)]; rfl
    · rw [hv.ld q (by omega), hy, List.getD_eq_getElem?_getD, List.getElem?_eq_getElem (by omega)]; rfl
  have HX := hide hX
  have HX2 := hide hx2
  have HXs := hide hXs
  have HBX := hide hBX
  have hkn : (k : Int) < (n : Int) := by omega
  have h3 : ¬ (k : Int) < 0 := by omega
  have hqn : (q : Int) < (n : Int) := by omega
  have h4 : ¬ (q : Int) < 0 := by omega
  clear hV hx hy hn hk hq hX hXs hx0 hx2 hVX hBX
  go_enter Tryz.func104, Tryz.ntmps104
  go_wp2_with fail
  rw [← unhide HX]
  have hD : Below (w.heap.size + 2) X X.drew := below_drewN (Below.refl _ X) 1
  refine wp_region_last (n := 12) (S := fun W' => W'.cell? ⟨w.heap.size, 1, none⟩ = some (.int .i64 k) ∧ W'.cell? ⟨w.heap.size, 2, none⟩ = some (.int .i64 q) ∧ (ldC (.pointer (some ⟨g, k * 3, none⟩))).run Tryz.prog W' = .ok x.val W' ∧ (ldC (.pointer (some ⟨g, q * 3, none⟩))).run Tryz.prog W' = .ok y.val W') (by kernel_rfl) (unhide HS _ hD) (fun hHeld => ?_)
  refine tkW 0 ?_; refine tkW 1 ?_; refine tkN 2 ?_; refine tkW 3 ?_; refine tkN 4 ?_; refine tkW 5 ?_; refine tkW 6 ?_; refine tkN 7 ?_; refine tkW 8 ?_; refine tkN 9 ?_
  refine wpAnyL_one (i := 10) (by kernel_rfl) rfl (fun KK hK => ?_)
  go_simp
  go_wp2_with fail
  refine (unhide d _).mono ?_
  rintro e w1 ⟨rfl, hb⟩
  have hb0 : Below X.heap.size X w1 := (below_drewN (Below.refl _ X) 1).trans (hb.mono (by simp))
  have hb2 : Below (w.heap.size + 2) X w1 := hb0.mono (by rw [unhide HXs]; omega)
  obtain ⟨Y, hp, y0, y1, y2, hk⟩ := put45 (n := w.heap.size + 2) ((hb0.block _ (by rw [unhide HXs]; omega)).trans (unhide HX2)) (cho x y false)
  have HK := hide (hk w.heap.size w (by omega) ((unhide HBX).trans (hb2.mono (by omega))))
  have S1 := unhide HS _ hb2
  have S2 := unhide HS _ (hk (w.heap.size + 2) X (Nat.le_refl _) hb2)
  obtain ⟨c', hc'⟩ : ∃ c' : Cl, c' = cho x y false := ⟨_, rfl⟩
  rw [← hc'] at hp y0 y1 y2
  have HV := hide (congrArg (fun c : Cl => Ending.returned c.val) hc')
  rw [← hc']
  have HP := hide hp
  clear hb hk hc' hb0 hb2 hp hD
  go_wp2_with fail
  refine hK.out _ _ (by exact S1) (fun hHeld => ?_)
  clear hK KK
  refine wpAnyL_one (i := 11) (by kernel_rfl) rfl (fun KK hK => ?_)
  have hp := unhide HP
  go_simp
  refine hK.out _ _ (by exact S2) (fun hHeld => ?_)
  clear hK KK
  refine wpAnyL_done (by kernel_rfl) ?_
  go_wp2_with fail
  exact bodyPost_ret (v := cV c'.ty c'.num c'.tx) (by simp [results, Tryz.results104, go_sem, y0, y1, y2]) rfl ⟨unhide HV, unhide HK⟩
theorem wrB (op : Int) (o16 : ¬ op = 16) (o17 : ¬ op = 17) (o18 : ¬ op = 18) (o19 : ¬ op = 19) (o20 : ¬ op = 20) (o3 : ¬ op = 3) (o15 : ¬ op = 15) (o2 : ¬ op = 2) (o1 : ¬ op = 1) (k q : Nat) (f m : Int) (s : ByteArray) (r : Ro) (g n c : Nat) (V : List Cl) (hn : V.length = n) (hk : k < n) (hq : q < n) (w : World) (hV : VAt w g V) (hM : Mx w) (hI : ∀ c ∈ V, I64 c.num ∧ c.tx.size < 4294967281) : Calls Tryz.prog 104 #[.agg #[.int .i64 op, .int .i64 k, .int .i64 q, .int .i64 f, .int .i64 m, .string s], r.val, .slice (some ⟨g, 0, none⟩) n c] w fun e w' => e = .returned (btwC op (V.getD k .no) (V.getD q .no)).val ∧ Below w.heap.size w w' := by
  obtain ⟨x, hx⟩ : ∃ x, x = V.getD k .no := ⟨_, rfl⟩
  obtain ⟨y, hy⟩ : ∃ y, y = V.getD q .no := ⟨_, rfl⟩
  have e16 := beqF o16
  have e17 := beqF o17
  have e18 := beqF o18
  have e19 := beqF o19
  have e20 := beqF o20
  have e3 := beqF o3
  have e15 := beqF o15
  have e2 := beqF o2
  have e1 := beqF o1
  clear o16 o17 o18 o19 o20 o3 o15 o2 o1
  rw [← hx, ← hy]
  obtain ⟨i0, i1, i2, i3, s4, acc, amt, s7, s8⟩ := r
  show Calls Tryz.prog 104 #[_, .agg #[.int .i64 i0, .int .i64 i1, .int .i64 i2, .int .i64 i3, .string s4, .string acc, .int .i64 amt, .string s7, .string s8], _] w _
  obtain ⟨X, hX⟩ : ∃ X, X = ((w.alloc (.cells #[.int .i64 op, .int .i64 k, .int .i64 q, .int .i64 f, .int .i64 m, .string s] 51)).alloc (.cells #[.int .i64 i0, .int .i64 i1, .int .i64 i2, .int .i64 i3, .string s4, .string acc, .int .i64 amt, .string s7, .string s8] 39)).alloc zc := ⟨_, rfl⟩
  have hXs : X.heap.size = w.heap.size + 3 := by rw [hX]; simp
  have hx0 : X.heap[w.heap.size]? = some (.cells #[.int .i64 op, .int .i64 k, .int .i64 q, .int .i64 f, .int .i64 m, .string s] 51 (0, 0)) := by rw [hX]; exact blk3r w _ _ _
  have hx2 : X.heap[w.heap.size + 2]? = some zc := by rw [hX]; exact blk33 w _ _ _
  have hVX : VAt X g V := by rw [hX]; exact hV.below (Below.a3 w _ _ _) hV.lt
  have hBX : Below w.heap.size w X := by rw [hX]; exact Below.a3 w _ _ _
  have hIx := hI x (by rw [hx, List.getD_eq_getElem?_getD, List.getElem?_eq_getElem (by omega)]; exact List.getElem_mem _)
  have hIy := hI y (by rw [hy, List.getD_eq_getElem?_getD, List.getElem?_eq_getElem (by omega)]; exact List.getElem_mem _)
  have d : Hid (Calls Tryz.prog 124 #[.int .i64 op, x.val, y.val] X.drew fun e w' => e = .returned (btwC op x y).val ∧ Below X.drew.heap.size X.drew w') := between_any op x y _ hIx.1 hIy.1 hIx.2 (hM.below (below_drewN hBX 1) hM.1)
  have HS : Hid (∀ W', Below (w.heap.size + 2) X W' → W'.cell? ⟨w.heap.size, 1, none⟩ = some (.int .i64 k) ∧ W'.cell? ⟨w.heap.size, 2, none⟩ = some (.int .i64 q) ∧ (ldC (.pointer (some ⟨g, k * 3, none⟩))).run Tryz.prog W' = .ok x.val W' ∧ (ldC (.pointer (some ⟨g, q * 3, none⟩))).run Tryz.prog W' = .ok y.val W' ∧ W'.cell? ⟨w.heap.size, 0, none⟩ = some (.int .i64 op)) := fun W' hB => by
    have hv := hVX.below hB (by have := hV.lt; omega)
    refine ⟨by rw [hB.cell (p := ⟨w.heap.size, 1, none⟩) (by show w.heap.size < _; omega), cellOf hx0]; rfl, by rw [hB.cell (p := ⟨w.heap.size, 2, none⟩) (by show w.heap.size < _; omega), cellOf hx0]; rfl, ?_, ?_, by rw [hB.cell (p := ⟨w.heap.size, 0, none⟩) (by show w.heap.size < _; omega), cellOf hx0]; rfl⟩
    · rw [hv.ld k (by omega), hx, List.getD_eq_getElem?_getD, List.getElem?_eq_getElem (by omega)]; rfl
    · rw [hv.ld q (by omega), hy, List.getD_eq_getElem?_getD, List.getElem?_eq_getElem (by omega)]; rfl
  have HX := hide hX
  have HX2 := hide hx2
  have HXs := hide hXs
  have HBX := hide hBX
  have hkn : (k : Int) < (n : Int) := by omega
  have h3 : ¬ (k : Int) < 0 := by omega
  have hqn : (q : Int) < (n : Int) := by omega
  have h4 : ¬ (q : Int) < 0 := by omega
  clear hV hx hy hn hk hq hX hXs hx0 hx2 hVX hBX hM hI hIx hIy
  go_enter Tryz.func104, Tryz.ntmps104
  go_wp2_with fail
  rw [← unhide HX]
  have hD : Below (w.heap.size + 2) X X.drew := below_drewN (Below.refl _ X) 1
  refine wp_region_last (n := 14) (S := fun W' => W'.cell? ⟨w.heap.size, 1, none⟩ = some (.int .i64 k) ∧ W'.cell? ⟨w.heap.size, 2, none⟩ = some (.int .i64 q) ∧ (ldC (.pointer (some ⟨g, k * 3, none⟩))).run Tryz.prog W' = .ok x.val W' ∧ (ldC (.pointer (some ⟨g, q * 3, none⟩))).run Tryz.prog W' = .ok y.val W' ∧ W'.cell? ⟨w.heap.size, 0, none⟩ = some (.int .i64 op)) (by kernel_rfl) (unhide HS _ hD) (fun hHeld => ?_)
  refine tkW 0 ?_; refine tkN 1 ?_; refine tkW 2 ?_; refine tkW 3 ?_; refine tkN 4 ?_; refine tkW 5 ?_; refine tkN 6 ?_; refine tkW 7 ?_; refine tkW 8 ?_; refine tkN 9 ?_; refine tkW 10 ?_; refine tkN 11 ?_
  refine wpAnyL_one (i := 12) (by kernel_rfl) rfl (fun KK hK => ?_)
  go_simp
  go_wp2_with fail
  refine (unhide d).mono ?_
  rintro e w1 ⟨rfl, hb⟩
  have hb0 : Below X.heap.size X w1 := (below_drewN (Below.refl _ X) 1).trans (hb.mono (by simp))
  have hb2 : Below (w.heap.size + 2) X w1 := hb0.mono (by rw [unhide HXs]; omega)
  obtain ⟨Y, hp, y0, y1, y2, hk⟩ := put45 (n := w.heap.size + 2) ((hb0.block _ (by rw [unhide HXs]; omega)).trans (unhide HX2)) (btwC op x y)
  have HK := hide (hk w.heap.size w (by omega) ((unhide HBX).trans (hb2.mono (by omega))))
  have S1 := unhide HS _ hb2
  have S2 := unhide HS _ (hk (w.heap.size + 2) X (Nat.le_refl _) hb2)
  obtain ⟨c', hc'⟩ : ∃ c' : Cl, c' = btwC op x y := ⟨_, rfl⟩
  rw [← hc'] at hp y0 y1 y2
  have HV := hide (congrArg (fun c : Cl => Ending.returned c.val) hc')
  rw [← hc']
  have HP := hide hp
  clear hb hk hc' hb0 hb2 hp hD
  go_wp2_with fail
  refine hK.out _ _ (by exact S1) (fun hHeld => ?_)
  clear hK KK
  refine wpAnyL_one (i := 13) (by kernel_rfl) rfl (fun KK hK => ?_)
  have hp := unhide HP
  go_simp
  refine hK.out _ _ (by exact S2) (fun hHeld => ?_)
  clear hK KK
  refine wpAnyL_done (by kernel_rfl) ?_
  go_wp2_with fail
  exact bodyPost_ret (v := cV c'.ty c'.num c'.tx) (by simp [results, Tryz.results104, go_sem, y0, y1, y2]) rfl ⟨unhide HV, unhide HK⟩
end
end Go.Proofs.YtbenciieenbmeaaGreatDoor
/- answer: worth 104; what nodes are worth at a row; cells that are written. -/
namespace Go.Proofs.YtbenciieenbmeaaGreatDoor
open Go Go.Shelf Go.ChangeShapes Go.WideShapes Go.ChangeAt Go.RowKit Go.Maps
set_option linter.unusedVariables false
structure Fr (w w' : World) (X : Nat → Prop) : Prop where
  os : w'.os = w.os
  tape : w'.tape = w.tape
  output : w'.output = w.output
  size : w.heap.size ≤ w'.heap.size
  block : ∀ k, k < w.heap.size → ¬ X k → w'.heap[k]? = w.heap[k]?
theorem Fr.refl (w : World) (X : Nat → Prop) : Fr w w X := ⟨rfl, rfl, rfl, Nat.le_refl _, fun _ _ _ => rfl⟩
theorem Fr.trans {a b c : World} {X Y : Nat → Prop} (h : Fr a b X) (k : Fr b c Y) (hY : ∀ i, i < a.heap.size → Y i → X i) : Fr a c X :=
  ⟨k.os.trans h.os, k.tape.trans h.tape, k.output.trans h.output, Nat.le_trans h.size k.size, fun i hi hx => (k.block i (Nat.lt_of_lt_of_le hi h.size) (fun hy => hx (hY i hi hy))).trans (h.block i hi hx)⟩
theorem Fr.mono {a b : World} {X Y : Nat → Prop} (h : Fr a b X) (hY : ∀ i, i < a.heap.size → X i → Y i) : Fr a b Y := ⟨h.os, h.tape, h.output, h.size, fun i hi hy => h.block i hi (fun hx => hy (hY i hi hx))⟩
theorem Fr.of_below {a b : World} (h : Below a.heap.size a b) (X : Nat → Prop) : Fr a b X := ⟨h.os, h.tape, h.output, h.size, fun k hk _ => h.block k hk⟩
theorem Fr.below {a b : World} {X : Nat → Prop} (h : Fr a b X) {B : Nat} (hB : B ≤ a.heap.size) (hX : ∀ k, k < B → ¬ X k) : Below B a b := ⟨h.os, h.tape, h.output, h.size, fun k hk => h.block k (Nat.lt_of_lt_of_le hk hB) (hX k hk)⟩
theorem Fr.drewN {a b : World} {X : Nat → Prop} (h : Fr a b X) (n : Nat) : Fr a (b.drewN n) X := ⟨h.os, h.tape, h.output, h.size, h.block⟩
theorem Fr.drew {a b : World} {X : Nat → Prop} (h : Fr a b X) : Fr a b.drew X := ⟨h.os, h.tape, h.output, h.size, h.block⟩
theorem Fr.alloc {a b : World} {X : Nat → Prop} (h : Fr a b X) (o : Obj) : Fr a (b.alloc o) X :=
  ⟨h.os, h.tape, h.output, Nat.le_trans h.size (by simp), fun k hk hx => (Below.heap_alloc _ _ _ (Nat.lt_of_lt_of_le hk h.size)).trans (h.block k hk hx)⟩
theorem Fr.setCell {a b : World} {X : Nat → Prop} (h : Fr a b X) {p : Addr} (hp : X p.block ∨ a.heap.size ≤ p.block) (u : Value) : Fr a (b.setCell p u) X :=
  ⟨h.os, h.tape, h.output, Nat.le_trans h.size (by simp [World.setCell]), fun k hk hx => (Below.heap_setCell _ _ _ _ (fun e => by
    subst e
    rcases hp with hp | hp
    · exact hx hp
    · omega)).trans (h.block k hk hx)⟩

/-- a node's parts are among the n ahead -/
def Nin (x : Nd) (n : Nat) : Prop := (¬ (16 ≤ x.op ∧ x.op ≤ 20) → 0 ≤ x.left ∧ x.left < n) ∧ (¬ (16 ≤ x.op ∧ x.op ≤ 20) → ¬ x.op = 3 → ¬ x.op = 15 → 0 ≤ x.right ∧ x.right < n)
theorem worth_any (x : Nd) (r : Ro) (g n c : Nat) (V : List Cl) (hn : V.length = n) (hx : Nin x n) (w : World) (hV : VAt w g V) (hM : Mon w) (hX : Mx w) (ha : r.acc.size < 4294967281) (hI : ∀ c ∈ V, I64 c.num ∧ c.tx.size < 4294967281) :
    Calls Tryz.prog 104 #[x.val, r.val, .slice (some ⟨g, 0, none⟩) n c] w fun e w' => e = .returned (wrC x r V).val ∧ Below w.heap.size w w' := by
  obtain ⟨op, l, rt, f, m, s⟩ := x
  unfold wrC
  obtain ⟨hl, hr⟩ := hx
  simp only at hl hr ⊢
  by_cases h16 : op = 16
  · subst h16; exact wr16 l rt f m s r _ w hM hX ha
  rw [if_neg h16]
  by_cases h17 : op = 17
  · subst h17; exact wr17 l rt f m s r _ w
  rw [if_neg h17]
  by_cases h18 : op = 18
  · subst h18; exact wr18 l rt f m s r _ w
  rw [if_neg h18]
  by_cases h19 : op = 19
  · subst h19; exact wr19 l rt f m s r _ w
  rw [if_neg h19]
  by_cases h20 : op = 20
  · subst h20; exact wr20 l rt f m s r _ w
  rw [if_neg h20]
  have hno : ¬ (16 ≤ op ∧ op ≤ 20) := by omega
  have hl := hl hno
  have hr := hr hno
  obtain ⟨k, rfl⟩ : ∃ k : Nat, l = k := ⟨l.toNat, by omega⟩
  have vk : vat V k = V.getD k .no := by unfold vat; rw [Int.toNat_natCast]
  rw [vk]
  by_cases h3 : op = 3
  · subst h3; exact wr3 k rt f m s r g n c V hn (by omega) w hV
  by_cases h15 : op = 15
  · subst h15; exact wr15 k rt f m s r g n c V hn (by omega) w hV
  rw [if_neg (fun h => h.elim h3 h15)]
  have hr := hr h3 h15
  obtain ⟨q, rfl⟩ : ∃ q : Nat, rt = q := ⟨rt.toNat, by omega⟩
  have vq : vat V q = V.getD q .no := by unfold vat; rw [Int.toNat_natCast]
  rw [vq]
  by_cases h2 : op = 2
  · subst h2; exact wr2 k q f m s r g n c V hn (by omega) (by omega) w hV
  rw [if_neg h2]
  by_cases h1 : op = 1
  · subst h1; exact wr1 k q f m s r g n c V hn (by omega) (by omega) w hV
  rw [if_neg h1]
  exact wrB op h16 h17 h18 h19 h20 h3 h15 h2 h1 k q f m s r g n c V hn (by omega) (by omega) w hV hX hI
/-- what nodes are worth at a row, each by those ahead of it -/
noncomputable def vlL (L : List Nd) (r : Ro) : List Cl := L.foldl (fun T x => T ++ [wrC x r T]) []
theorem vlL_snoc (L : List Nd) (r : Ro) (x : Nd) : vlL (L ++ [x]) r = vlL L r ++ [wrC x r (vlL L r)] := by unfold vlL; rw [List.foldl_append]; rfl
theorem vlL_len (L : List Nd) (r : Ro) : (vlL L r).length = L.length := by
  suffices h : ∀ (T : List Cl), (L.foldl (fun T x => T ++ [wrC x r T]) T).length = T.length + L.length by simpa [vlL] using h []
  induction L with
  | nil => intro T; simp
  | cons x L ih => intro T; rw [List.foldl_cons, ih]; simp; omega
theorem vlL_take (L : List Nd) (r : Ro) (k : Nat) (hk : k < L.length) : vlL (L.take (k + 1)) r = vlL (L.take k) r ++ [wrC L[k] r (vlL (L.take k) r)] := by
  rw [List.take_succ_eq_append_getElem hk, vlL_snoc]
theorem vat_app (T U : List Cl) (i : Int) (h : 0 ≤ i) (h2 : i < T.length) : vat (T ++ U) i = vat T i := by
  unfold vat
  rw [List.getD_eq_getElem?_getD, List.getD_eq_getElem?_getD, List.getElem?_append_left (by omega)]
theorem wrC_app (x : Nd) (r : Ro) (T U : List Cl) (hx : Nin x T.length) : wrC x r (T ++ U) = wrC x r T := by
  unfold wrC
  by_cases h : 16 ≤ x.op ∧ x.op ≤ 20
  · by_cases h16 : x.op = 16
    · rw [if_pos h16, if_pos h16]
    rw [if_neg h16, if_neg h16]
    by_cases h17 : x.op = 17
    · rw [if_pos h17, if_pos h17]
    rw [if_neg h17, if_neg h17]
    by_cases h18 : x.op = 18
    · rw [if_pos h18, if_pos h18]
    rw [if_neg h18, if_neg h18]
    by_cases h19 : x.op = 19
    · rw [if_pos h19, if_pos h19]
    rw [if_neg h19, if_neg h19, if_pos (by omega), if_pos (by omega)]
  · have hl := hx.1 h
    rw [vat_app T U _ hl.1 hl.2]
    by_cases h3 : x.op = 3 ∨ x.op = 15
    · rw [if_pos h3, if_pos h3]
    · have hr := hx.2 h (fun e => h3 (.inl e)) (fun e => h3 (.inr e))
      rw [vat_app T U _ hr.1 hr.2]
/-- cells in a block of their own, that may be written -/
structure VBk (W : World) (g : Nat) (V : List Cl) : Prop where
  v : VAt W g V
  blk : ∃ cs : Array Value, W.heap[g]? = some (.cells cs 45 (0, 0)) ∧ cs.size = V.length * 3
theorem VBk.same {W W' : World} {g : Nat} {V : List Cl} (h : VBk W g V) (hs : W.heap.size ≤ W'.heap.size) (hb : W'.heap[g]? = W.heap[g]?) : VBk W' g V :=
  ⟨⟨Nat.lt_of_lt_of_le h.v.lt hs, fun i hi j u hu => by have := h.v.at' i hi j u hu; unfold World.cell? at *; rw [hb]; exact this⟩, by rw [hb]; exact h.blk⟩
theorem VBk.set {X : World} {g : Nat} {V : List Cl} (h : VBk X g V) (k : Nat) (hk : k < V.length) (c : Cl) :
    ∃ Y, (stC (.pointer (some ⟨g, k * 3, none⟩)) c.val).run Tryz.prog X = .ok () Y ∧ VBk Y g (V.set k c) ∧ Fr X Y (· = g) := by
  obtain ⟨cs, hcs, hsz⟩ := h.blk
  have hs := run_storeAt_mid (P := Tryz.prog) X g (k * 3) 45 #[.int .i64 c.ty, .int .i64 c.num, .string c.tx] (fun j hj => by
    have hj' : k * 3 + j < cs.size := by have : j < 3 := hj; omega
    simp [World.cell?, World.frozen?, hcs, hj']) szC (by simp; exact ⟨rfl, rfl, rfl⟩)
  have hy : (X.setCells g (k * 3) [.int .i64 c.ty, .int .i64 c.num, .string c.tx]).heap[g]? = some (.cells (((cs.setIfInBounds (k * 3) (.int .i64 c.ty)).setIfInBounds (k * 3 + 1) (.int .i64 c.num)).setIfInBounds (k * 3 + 1 + 1) (.string c.tx)) 45 (0, 0)) := by
    show (((X.setCell ⟨g, k * 3, none⟩ _).setCell ⟨g, k * 3 + 1, none⟩ _).setCell ⟨g, k * 3 + 1 + 1, none⟩ _).heap[g]? = _
    rw [setC (setC (setC hcs))]
  have hF : Fr X (X.setCells g (k * 3) [.int .i64 c.ty, .int .i64 c.num, .string c.tx]) (· = g) := (((Fr.refl X (fun i => i = g)).setCell (p := ⟨g, k * 3, none⟩) (.inl rfl) _).setCell (p := ⟨g, k * 3 + 1, none⟩) (.inl rfl) _).setCell (p := ⟨g, k * 3 + 1 + 1, none⟩) (.inl rfl) _
  refine ⟨_, hs, ⟨⟨Nat.lt_of_lt_of_le h.v.lt hF.size, fun i hi j u hu => ?_⟩, _, hy, by simp [hsz]⟩, hF⟩
  rw [cellOf hy]
  have hi' : i < V.length := by rw [List.length_set] at hi; exact hi
  have hj3 : j < 3 := by
    have := (List.getElem?_eq_some_iff.1 hu).1
    simpa [Cl.vals] using this
  rw [List.getElem_set] at hu
  simp only [Array.getElem?_setIfInBounds, Array.size_setIfInBounds]
  by_cases e : k = i
  · subst e
    rw [if_pos rfl] at hu
    have : j = 0 ∨ j = 1 ∨ j = 2 := by omega
    rcases this with rfl | rfl | rfl
    · rw [if_neg (by omega), if_neg (by omega), if_pos (by omega), if_pos (by omega)]; exact hu
    · rw [if_neg (by omega), if_pos (by omega), if_pos (by omega)]; exact hu
    · rw [if_pos (by omega), if_pos (by omega)]; exact hu
  · rw [if_neg e] at hu
    have h1 := h.v.at' i hi' j u hu
    rw [cellOf hcs] at h1
    rw [if_neg (by omega), if_neg (by omega), if_neg (by omega)]
    exact h1
end Go.Proofs.YtbenciieenbmeaaGreatDoor
/- answer: cells that fit the machine. -/
namespace Go.Proofs.YtbenciieenbmeaaGreatDoor
open Go Go.Shelf Go.ChangeShapes Go.WideShapes Go.ChangeAt Go.RowKit Go.Maps
set_option linter.unusedVariables false
/-- a cell that fits the machine -/
def Cok (c : Cl) : Prop := I64 c.num ∧ c.tx.size < 4294967281
structure RoOk (r : Ro) : Prop where
  i0 : I64 r.i0
  i1 : I64 r.i1
  i2 : I64 r.i2
  i3 : I64 r.i3
  amt : I64 r.amt
  s4 : r.s4.size < 4294967281
  acc : r.acc.size < 4294967281
  s7 : r.s7.size < 4294967281
  s8 : r.s8.size < 4294967281
def NdOk (x : Nd) : Prop := I64 x.num ∧ x.text.size < 4294967281
theorem e_ok : (⟨#[]⟩ : ByteArray).size < 4294967281 := by decide
theorem no_ok : Cok .no := ⟨⟨by decide, by decide⟩, e_ok⟩
theorem fit_ok {b : Bool} {c : Cl} (h : Cok c) : Cok (fit b c) := by
  cases b
  · exact no_ok
  · exact h
theorem wrap_ok (n : Int) : I64 (wrap64 n) := by unfold I64 wrap64; omega
theorem num_ok {t n : Int} (h : I64 n) : Cok (numC t n) := fit_ok ⟨h, e_ok⟩
theorem tru_ok (b : Bool) : Cok (tru b) := by cases b <;> exact ⟨⟨by decide, by decide⟩, e_ok⟩
theorem txt_ok {s : ByteArray} (h : s.size < 4294967281) : Cok (txt s) := ⟨show I64 0 from ⟨by decide, by decide⟩, h⟩
theorem root_ok {s : ByteArray} (h : s.size < 4294967281) : (rootT s).size < 4294967281 := by
  have e : (rootT s).size = (Lib.cut s.data.toList [58]).1.length := List.size_toArray
  rw [e]
  unfold Lib.cut
  have hs : s.data.toList.length = s.size := Array.length_toList
  by_cases c : 0 ≤ Lib.index s.data.toList [58]
  · rw [if_pos c]
    simp only [List.length_take]
    omega
  · rw [if_neg c]
    simp only
    omega
theorem amt_ok {f n : Int} (h : I64 n) : Cok (amtC f n) := by
  unfold amtC
  refine fit_ok ⟨?_, e_ok⟩
  simp only
  have h2 := wrap_ok (-n)
  unfold I64 at *
  by_cases h8 : f = 8
  · rw [if_pos h8]; omega
  rw [if_neg h8]
  by_cases h9 : f = 9
  · rw [if_pos h9]; omega
  rw [if_neg h9]; exact h
theorem day_ok (f n : Int) : Cok (dayC f n) := by
  unfold dayC
  by_cases h : 1 ≤ n ∧ n ≤ 3652059
  · refine fit_ok ?_
    have hd := dat3_is h.1 h.2
    have := hd.y2
    have := hd.m2
    by_cases h3 : f = 3
    · rw [if_pos h3]; exact ⟨by unfold I64; simp only; omega, e_ok⟩
    rw [if_neg h3]
    by_cases h12 : f = 12
    · rw [if_pos h12]; exact ⟨by unfold I64; simp only; omega, e_ok⟩
    rw [if_neg h12]
    by_cases h13 : f = 13
    · rw [if_pos h13]; exact ⟨by unfold I64; simp only; omega, e_ok⟩
    rw [if_neg h13]; exact ⟨⟨by simp only; decide, by simp only; decide⟩, e_ok⟩
  · have e : dayB n = false := by unfold dayB; rw [Bool.and_eq_false_iff, decide_eq_false_iff_not, decide_eq_false_iff_not]; omega
    rw [e]; exact no_ok
theorem fw_ok {f : Int} {r : Ro} (h : RoOk r) : Cok (fwC f r) := by
  unfold fwC
  split; exact num_ok h.i0
  split; exact num_ok h.i1
  split; exact num_ok h.i3
  split; exact txt_ok h.s4
  split; exact txt_ok h.acc
  split; exact txt_ok h.s7
  split; exact txt_ok h.s8
  split; exact txt_ok (root_ok h.acc)
  split; exact amt_ok h.amt
  exact day_ok f r.i2
theorem mov_ok (n d : Int) : Cok (movC n d) := by
  unfold movC
  refine fit_ok ⟨?_, e_ok⟩
  simp only
  unfold dadS I64
  split <;> simp only <;> omega
theorem add_ok (a b : Int) : I64 (Mny.addSpec a b).1 := by
  unfold Mny.addSpec I64
  split
  · simp only; omega
  · split <;> simp only <;> omega
theorem sub_ok (a b : Int) : I64 (Mny.subSpec a b).1 := by
  unfold Mny.subSpec
  split
  · unfold I64; simp only; omega
  · exact add_ok a (-b)
theorem mul_ok (a b : Int) : I64 (Mny.mulSpec a b).1 := by
  unfold Mny.mulSpec I64
  split
  · simp only; omega
  · split
    · rename_i h; simp only; omega
    · simp only; omega
theorem btw_ok (op : Int) (l r : Cl) : Cok (btwC op l r) := by
  unfold btwC
  split; exact no_ok
  split
  · unfold sumC
    split; exact mov_ok _ _
    split; exact mov_ok _ _
    exact fit_ok ⟨add_ok _ _, e_ok⟩
  split
  · unfold difC
    split; exact num_ok (wrap_ok _)
    split; exact mov_ok _ _
    exact fit_ok ⟨sub_ok _ _, e_ok⟩
  split
  · exact fit_ok ⟨mul_ok _ _, e_ok⟩
  exact tru_ok _
theorem opp_ok {c : Cl} (h : Cok c) : Cok (opp c) := by
  unfold opp
  split; exact h
  split; exact tru_ok _
  exact num_ok (wrap_ok _)
theorem cho_ok {l r : Cl} (hl : Cok l) (hr : Cok r) (b : Bool) : Cok (cho l r b) := by
  unfold cho
  split; exact hl
  exact hr
theorem vat_ok {V : List Cl} (h : ∀ c ∈ V, Cok c) (i : Int) : Cok (vat V i) := by
  unfold vat
  rw [List.getD_eq_getElem?_getD]
  cases e : V[i.toNat]? with
  | none => exact no_ok
  | some c => exact h c (List.mem_of_getElem? e)
theorem wr_ok {x : Nd} {r : Ro} {V : List Cl} (hx : NdOk x) (hr : RoOk r) (hV : ∀ c ∈ V, Cok c) : Cok (wrC x r V) := by
  unfold wrC
  split; exact fw_ok hr
  split; exact num_ok hx.1
  split; exact txt_ok hx.2
  split; exact ⟨hx.1, e_ok⟩
  split; exact tru_ok _
  split; exact opp_ok (vat_ok hV _)
  split; exact cho_ok (vat_ok hV _) (vat_ok hV _) _
  split; exact cho_ok (vat_ok hV _) (vat_ok hV _) _
  exact btw_ok _ _ _
theorem vl_ok {L : List Nd} {r : Ro} (hr : RoOk r) (hL : ∀ x ∈ L, NdOk x) : ∀ k ≤ L.length, ∀ c ∈ vlL (L.take k) r, Cok c := by
  intro k
  induction k with
  | zero => intro _ c hc; rw [List.take_zero] at hc; cases hc
  | succ k ih =>
    intro hk c hc
    rw [vlL_take L r k (by omega), List.mem_append, List.mem_singleton] at hc
    rcases hc with hc | rfl
    · exact ih (by omega) c hc
    · exact wr_ok (hL _ (List.getElem_mem _)) hr (ih (by omega))
end Go.Proofs.YtbenciieenbmeaaGreatDoor
/- answer: lookAt 76. -/
namespace Go.Proofs.YtbenciieenbmeaaGreatDoor
open Go Go.Shelf Go.ChangeShapes Go.WideShapes Go.ChangeAt Go.RowKit Go.Maps
set_option linter.unusedVariables false
def ldR (x : Value) : Sem Value := Instr.loadAt 39 x
theorem ldR_is (x : Value) : Instr.loadAt 39 x = ldR x := rfl
theorem szR : (Tryz.prog.info? 39).map (·.size) = some 9 := by kernel_rfl
theorem run_ldR {w : World} {b o : Nat} {r : Ro} (h : w.rangeAt b o r.vals) : (ldR (.pointer (some ⟨b, o, none⟩))).run Tryz.prog w = .ok r.val w :=
  run_loadAt_mid (P := Tryz.prog) w b o 39 r.vals _ h Tryz.underlying39 rfl szR
theorem Fr.cell {a b : World} {X : Nat → Prop} (h : Fr a b X) {p : Addr} (hp : p.block < a.heap.size) (hX : ¬ X p.block) : b.cell? p = a.cell? p := by
  unfold World.cell?
  rw [h.block _ hp hX]
theorem mon6 {w w' : World} (h : Mon w) (hb : Below 6 w w') : Mon w' := var_keep mon_no h (hb.block 2 (by omega))
/-- nodes whose parts are all ahead of them -/
def Ahd (L : List Nd) : Prop := ∀ k (h : k < L.length), Nin L[k] k
section
attribute [local go_sem ↓] stC_is ld37_is ldR_is
set_option maxRecDepth 100000
set_option maxHeartbeats 4000000
theorem lookAt_any {W : World} {p : Option Addr} {n c cv g : Nat} {L : List Nd} {r : Ro} {V : List Cl} (hn : L.length = n) (hnb : n ≤ 2600000000000) (hL : Lies kN W p L) (hA : Ahd L) (hg : ∀ b o, p = some ⟨b, o, none⟩ → b ≠ g) (hg6 : 6 ≤ g) (hVn : V.length = n) (hV : VBk W g V) (hM : Mon W) (hX : Mx W)
    (hr : RoOk r) (hx : ∀ x ∈ L, NdOk x) (hVo : ∀ c ∈ V, Cok c) :
    Calls Tryz.prog 76 #[r.val, .slice p n c, .slice (some ⟨g, 0, none⟩) n cv] W fun e w' => e = .returned (.tuple #[]) ∧ VBk w' g (vlL L r) ∧ Fr W w' (fun i => i = g) := by
  have hgl := hV.v.lt
  obtain ⟨X, hX0⟩ : ∃ X, X = W.alloc (.cells r.vals.toArray 39) := ⟨_, rfl⟩
  have hXs : X.heap.size = W.heap.size + 1 := by rw [hX0]; simp
  have HX0 := hide hX0
  have hFX : Fr W X (fun i => i = g) := by rw [hX0]; exact Fr.of_below (Below.a1 W _) _
  have V0 : Hid (VBk X g (vlL (L.take 0) r ++ V.drop 0)) := by
    show VBk X g ([] ++ V.drop 0)
    rw [List.nil_append, List.drop_zero, hX0]
    exact hV.same (by simp) (Below.heap_alloc _ _ _ hgl)
  have hRw : X.rangeAt W.heap.size 0 r.vals := by rw [hX0]; exact new_range W r.vals 39
  -- what a round finds
  have RD : Hid (∀ wr k, Fr X wr (fun i => i = g) → VBk wr g (vlL (L.take k) r ++ V.drop k) → (hk : k < n) → ∃ b off x, p = some ⟨b, off, none⟩ ∧ L[k]? = some x ∧
      (ld37 (.pointer (some ⟨b, off + k * 6, none⟩))).run Tryz.prog wr = .ok x.val wr ∧
      (ld37 (.pointer (some ⟨wr.heap.size, 0, none⟩))).run Tryz.prog (wr.alloc (.cells x.vals.toArray 51)) = .ok x.val (wr.alloc (.cells x.vals.toArray 51)) ∧
      (ldR (.pointer (some ⟨W.heap.size, 0, none⟩))).run Tryz.prog (wr.alloc (.cells x.vals.toArray 51)) = .ok r.val (wr.alloc (.cells x.vals.toArray 51)) ∧
      ∃ cx : Cl, (Calls Tryz.prog 104 #[x.val, r.val, .slice (some ⟨g, 0, none⟩) n cv] (wr.alloc (.cells x.vals.toArray 51)) fun e w' => e = .returned cx.val ∧ Below (wr.alloc (.cells x.vals.toArray 51)).heap.size (wr.alloc (.cells x.vals.toArray 51)) w') ∧
      (∀ w1, Below (wr.alloc (.cells x.vals.toArray 51)).heap.size (wr.alloc (.cells x.vals.toArray 51)) w1 → ∃ Y, (stC (.pointer (some ⟨g, k * 3, none⟩)) cx.val).run Tryz.prog w1 = .ok () Y ∧ Fr X Y (fun i => i = g) ∧ VBk Y g (vlL (L.take (k + 1)) r ++ V.drop (k + 1)))) := by
    intro wr k hF hv hk
    have hkl : k < L.length := by omega
    obtain ⟨b, off, e1, hbl, hrr⟩ := hL.2 k hkl
    have hbg : b ≠ g := hg b off e1
    have hA1 : Below wr.heap.size wr (wr.alloc (.cells (L[k]).vals.toArray 51)) := Below.a1 wr _
    have hF2 : Fr X (wr.alloc (.cells (L[k]).vals.toArray 51)) (fun i => i = g) := hF.alloc _
    have hB6 : Below 6 X (wr.alloc (.cells (L[k]).vals.toArray 51)) := hF2.below (by omega) (fun j hj e => by omega)
    have hBW : Below 6 W (wr.alloc (.cells (L[k]).vals.toArray 51)) := by
      have : Below 6 W X := hFX.below (by omega) (fun j hj e => by omega)
      exact this.trans hB6
    have hv2 : VBk (wr.alloc (.cells (L[k]).vals.toArray 51)) g (vlL (L.take k) r ++ V.drop k) := hv.same (by simp) (Below.heap_alloc _ _ _ hv.v.lt)
    have hlk : (vlL (L.take k) r).length = k := by rw [vlL_len, List.length_take]; omega
    have hln : (vlL (L.take k) r ++ V.drop k).length = n := by rw [List.length_append, hlk, List.length_drop]; omega
    have hok : ∀ c ∈ vlL (L.take k) r ++ V.drop k, Cok c := fun c hc => by
      rw [List.mem_append] at hc
      rcases hc with hc | hc
      · exact vl_ok hr hx k (by omega) c hc
      · exact hVo c (List.mem_of_mem_drop hc)
    have hin : Nin L[k] n := by
      obtain ⟨h1, h2⟩ := hA k hkl
      exact ⟨fun h => by have := h1 h; omega, fun h h3 h15 => by have := h2 h h3 h15; omega⟩
    refine ⟨b, off, L[k], e1, List.getElem?_eq_getElem hkl, ?_, run_ld37 (new_range wr _ 51), ?_, wrC L[k] r (vlL (L.take k) r), ?_, ?_⟩
    · refine run_ld37 (fun j u hu => ?_)
      have h1 : W.cell? ⟨b, off + k * 6 + j, none⟩ = some u := hrr j u hu
      rw [← h1]
      have : X.cell? ⟨b, off + k * 6 + j, none⟩ = W.cell? ⟨b, off + k * 6 + j, none⟩ := hFX.cell (p := ⟨b, off + k * 6 + j, none⟩) hbl hbg
      rw [← this]
      exact hF.cell (p := ⟨b, off + k * 6 + j, none⟩) (by show b < _; omega) hbg
    · refine run_ldR (fun j u hu => ?_)
      have h1 := hRw j u hu
      rw [← h1]
      exact hF2.cell (p := ⟨W.heap.size, 0 + j, none⟩) (by show W.heap.size < _; omega) (by show ¬ W.heap.size = g; omega)
    · have := worth_any L[k] r g n cv _ hln hin _ hv2.v (mon6 hM hBW) (hX.below hBW (by omega)) hr.acc hok
      rw [wrC_app L[k] r _ _ (by rw [hlk]; exact hA k hkl)] at this
      exact this
    · intro w1 hb
      have hv3 : VBk w1 g (vlL (L.take k) r ++ V.drop k) := hv2.same hb.size (hb.block _ hv2.v.lt)
      obtain ⟨Y, hs, hY, hFY⟩ := hv3.set k (by omega) (wrC L[k] r (vlL (L.take k) r))
      refine ⟨Y, hs, (hF2.trans (Fr.of_below hb (fun i => i = g)) (fun _ _ h => h)).trans hFY (fun _ _ h => h), ?_⟩
      have e : (vlL (L.take k) r ++ V.drop k).set k (wrC L[k] r (vlL (L.take k) r)) = vlL (L.take (k + 1)) r ++ V.drop (k + 1) := by
        rw [vlL_take L r k hkl, List.set_append_right _ _ (by omega), hlk, Nat.sub_self, List.drop_eq_getElem_cons (by omega), List.set_cons_zero, List.append_assoc]
        rfl
      rw [← e]
      exact hY
  have HFX := hide hFX
  have HEND : Hid (∀ wr, VBk wr g (vlL (L.take n) r ++ V.drop n) → VBk wr g (vlL L r)) := fun wr h => by
    rwa [List.take_of_length_le (by omega), List.drop_of_length_le (by omega), List.append_nil] at h
  have HV : Hid (r.val = .agg r.vals.toArray) := rfl
  clear hL hA hg hV hM hX hr hx hVo hRw hX0 hFX hXs hgl hg6 hVn hn
  obtain ⟨rv, hrv⟩ : ∃ rv, rv = r.vals.toArray := ⟨_, rfl⟩
  obtain ⟨i0, i1, i2, i3, s4, acc, amt, s7, s8⟩ := r
  unfold Ro.vals at *
  show Calls Tryz.prog 76 #[.agg #[.int .i64 i0, .int .i64 i1, .int .i64 i2, .int .i64 i3, .string s4, .string acc, .int .i64 amt, .string s7, .string s8], _, _] W _
  go_enter Tryz.func76, Tryz.ntmps76
  go_wp2_with fail
  rw [← unhide HX0]
  go_loopw [10] (fun v10 wr => ∃ (k : Nat), v10 = .int .i64 k ∧ k ≤ n ∧ Hid (Fr X wr (fun i => i = g)) ∧ Hid (VBk wr g (vlL (L.take k) ⟨i0, i1, i2, i3, s4, acc, amt, s7, s8⟩ ++ V.drop k))) (fun v10 _ => n - (intOf v10).toNat)
  case atStart => exact ⟨0, rfl, by omega, Fr.refl _ _, unhide V0⟩
  case round =>
    obtain ⟨k, rfl, hk, hF, hv⟩ := hrel
    by_cases hlt : k < n
    · obtain ⟨b, off, x, e1, hx, l1, l2, l3, cx, d, hst⟩ := unhide RD wr k (unhide hF) (unhide hv) hlt
      subst e1
      have HD := hide d
      have HST := hide hst
      obtain ⟨o, l, rt, f, m, s⟩ := x
      unfold Nd.vals Nd.val Ro.val at *
      have hkn : (k : Int) < (n : Int) := by omega
      have h3 : ¬ (k : Int) < 0 := by omega
      clear hx d hst RD
      go_wp2_with fail
      refine (unhide HD).mono ?_
      rintro e w1 ⟨rfl, hb⟩
      obtain ⟨Y, hp, hFY, hVY⟩ := unhide HST w1 hb
      have HFY := hide hFY
      have HVY := hide hVY
      clear hb hFY hVY HST HD
      go_wp2_with fail
      exact ⟨⟨k + 1, by go_num, by omega, unhide HFY, unhide HVY⟩, by simp [intOf]; omega⟩
    · have hkn : k = n := by omega
      subst hkn
      have HZ := hide (unhide HEND _ (unhide hv))
      have HW := hide ((unhide HFX).trans (unhide hF) (fun _ _ h => h))
      clear RD
      go_wp2_with fail
      refine bodyPost_end (v := .tuple #[]) (by simp [results, Tryz.results76]) rfl ?_
      exact ⟨rfl, unhide HZ, unhide HW⟩
end
end Go.Proofs.YtbenciieenbmeaaGreatDoor
