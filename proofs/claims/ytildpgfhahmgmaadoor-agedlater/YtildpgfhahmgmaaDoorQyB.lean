/- aged: At (17). -/
import Derived.Test.YtildpgfhahmgmaaDoorQyA
namespace Go.Proofs.YtildpgfhahmgmaaDoor
open Go Go.Shelf Go.ChangeShapes Go.WideShapes Go.ChangeAt Go.RowKit Go.Maps
set_option linter.unusedVariables false
theorem sumL_take_le {l : List Nat} {f : Nat → Int} (h : ∀ p ∈ l, 0 ≤ f p) (j : Nat) : 0 ≤ sumL (l.take j) f ∧ sumL (l.take j) f ≤ sumL l f := by
  have h1 : sumL l f = sumL (l.take j) f + sumL (l.drop j) f := by rw [← sumL_append, List.take_append_drop]
  have h2 := sumL_nonneg (l := l.take j) (fun p hp => h p (List.mem_of_mem_take hp))
  have h3 := sumL_nonneg (l := l.drop j) (fun p hp => h p (List.mem_of_mem_drop hp))
  omega
theorem upd5 {w : World} {b n : Nat} {f : Nat → Int} (h : w.heap[b]? = some (obj5 f)) (hn : n ≤ 4) (v : Int) : (w.setCell ⟨b, n, none⟩ (.int .i64 v)).heap[b]? = some (obj5 fun i => if i = n then v else f i) := by
  unfold obj5 at h
  rw [Go.heap_setCell_same _ _ _ _ _ _ h]
  unfold obj5
  have : n = 0 ∨ n = 1 ∨ n = 2 ∨ n = 3 ∨ n = 4 := by omega
  rcases this with rfl | rfl | rfl | rfl | rfl <;> rfl
theorem cell5 {w : World} {b n : Nat} {f : Nat → Int} (h : w.heap[b]? = some (obj5 f)) (hn : n ≤ 4) : w.cell? ⟨b, n, none⟩ = some (.int .i64 (f n)) := by
  unfold obj5 at h
  rw [cell_at h]
  have : n = 0 ∨ n = 1 ∨ n = 2 ∨ n = 3 ∨ n = 4 := by omega
  rcases this with rfl | rfl | rfl | rfl | rfl <;> rfl
theorem froz5 {w : World} {b n : Nat} {f : Nat → Int} (h : w.heap[b]? = some (obj5 f)) : w.frozen? ⟨b, n, none⟩ = false := by
  unfold obj5 at h
  exact froz_at h
/-- share at a claim of a view -/
theorem share_at {W : World} {d p : Nat} {G : Gh} (hR : Raw W d G) (hI : Inv0 G) (hS : Stp W) (hp : p ∈ G.ps) {t : Int} (ht : dayB t = true) :
    Calls Tryd.prog 40 #[ptr p, .int .i64 t] W fun e w' => e = .returned (.agg #[.int .i64 (shr (G.cl p) (G.pt p) t).1, .int .i64 (shr (G.cl p) (G.pt p) t).2]) ∧ Below W.heap.size W w' := by
  have hpb : p ∈ G.bs := by rw [← hI.pb]; exact hp
  have hpr := hR.pr p hpb
  obtain ⟨pp, cp, e, _⟩ := row_slice hpr
  have hcb := hR.cb p hpb
  unfold Gh.clV at hcb
  rw [e] at hcb hpr
  have hok := hI.ok p hp
  have h1 := hok.d1; have h2 := hok.d2; have h3 := hok.d3; have h4 := hok.a1; have h5 := hok.a2
  have h6 := hI.len hp
  unfold dayB at ht
  simp at ht
  exact share_any hcb rfl (by omega) (own_lies kQ_ok rfl hpr) hS (hI.pos hp) (hI.sum p hp) ⟨by omega, h5⟩ ⟨by omega, by omega⟩ ⟨by omega, by omega⟩
/-- what At's loop keeps -/
structure AtR (W wr : World) (G : Gh) (t : Int) (L : List Nat) (j : Nat) : Prop where
  bel : Below W.heap.size W wr
  r : wr.heap[W.heap.size]? = some (obj5 fun _ => 0)
  a : wr.heap[W.heap.size + 1]? = some (obj5 fun i => sumL (L.take j) (fun p => con (shr (G.cl p) (G.pt p) t) i))
attribute [local go_sem ↓] ld39_is st39_is
set_option maxRecDepth 100000 in
set_option maxHeartbeats 8000000 in
theorem at_raw {W : World} {d : Nat} {G : Gh} (hR : Raw W d G) (hI : Inv0 G) (hS : Stp W) {s : ByteArray} (hs : s.size ≤ maxLen) (t : Int) :
    Calls Tryd.prog 17 #[ptr d, .string s, .int .i64 t] W fun e w' => e = .returned (ag5 fun j => sumL (ofL G s.data.toList t) (fun p => con (shr (G.cl p) (G.pt p) t) j)) ∧ Below W.heap.size W w' := by
  obtain ⟨X, hX⟩ : ∃ X, X = (W.alloc (obj5 fun _ => 0)).alloc (obj5 fun _ => 0) := ⟨_, rfl⟩
  have hbX : Below W.heap.size W X := by rw [hX]; exact ((Below.refl _ _).alloc (Nat.le_refl _) _).alloc (by simp) _
  have dO := hide (of_any (hR.below hbX) hs t)
  obtain ⟨pp, cc, ev, hL, hLm⟩ := of_out hI hR s.data.toList t
  rw [ev] at dO
  obtain ⟨L, hLe⟩ : ∃ L, L = ofL G s.data.toList t := ⟨_, rfl⟩
  rw [← hLe] at dO hL hLm
  obtain ⟨n, hn⟩ : ∃ n, n = L.length := ⟨_, rfl⟩
  rw [← hn] at dO
  have hday : 0 < n → dayB t = true := fun h => by
    cases hd : dayB t with
    | true => rfl
    | false => rw [hn, hLe] at h; unfold ofL at h; rw [hd] at h; simp at h
  have hnb : n ≤ 1000 := by
    rw [hn, hLe]; unfold ofL
    split
    · exact Nat.le_trans (ls_len hI _) hI.l1
    · simp
  have hbd : ∀ i j, 0 ≤ sumL (L.take j) (fun p => con (shr (G.cl p) (G.pt p) t) i) ∧ sumL (L.take j) (fun p => con (shr (G.cl p) (G.pt p) t) i) ≤ 9223372036854775807 := fun i j => by
    have hc : ∀ p ∈ G.ps, 0 ≤ con (shr (G.cl p) (G.pt p) t) i ∧ con (shr (G.cl p) (G.pt p) t) i ≤ (G.cl p).amt := fun p hp => by
      have h1 := shr_bounds (hI.pos hp) (hI.sum p hp) (by have := (hI.ok p hp).a1; omega) t
      exact con_bounds ⟨h1.1, h1.2.1⟩ i
    have h1 := sumL_take_le (l := L) (f := fun p => con (shr (G.cl p) (G.pt p) t) i) (fun p hp => (hc p (hLm p hp).1).1) j
    have h2 : sumL L (fun p => con (shr (G.cl p) (G.pt p) t) i) ≤ 9223372036854775807 := by
      rw [hLe]; unfold ofL
      split
      · exact (hI.age s.data.toList (fun p => con (shr (G.cl p) (G.pt p) t) i) hc).2
      · show (0 : Int) ≤ _; omega
    omega
  have HX : Hid (X = (W.alloc (obj5 fun _ => 0)).alloc (obj5 fun _ => 0)) := hX
  have HST : Hid (AtR W X G t L 0) := by
    refine ⟨hbX, ?_, ?_⟩
    · rw [hX, Below.heap_alloc _ _ _ (by simp)]; exact heap_new _ _
    · rw [hX]; exact heap_at (by simp)
  obtain ⟨rb, hrb⟩ : ∃ rb, rb = W.heap.size := ⟨_, rfl⟩
  have HRB := hide hrb; have HN := hide hn; have HL := hide hL; have HLM := hide hLm; have HDY := hide hday; have HBD := hide hbd; have HR := hide hR; have HI := hide hI; have HS := hide hS; have HLE := hide hLe
  unfold obj5 at HX
  unfold ptr at dO ⊢
  clear hX hbX hrb hn hL hLm hday hbd hR hI hS hLe ev
  go_enter Tryd.func17, Tryd.ntmps17
  go_upto_region 2 with fail
  rw [← unhide HX]
  clear HX
  go_wp2_with fail
  refine (unhide dO).mono ?_
  rintro e w1 ⟨rfl, hw⟩
  rw [hw]
  clear hw w1 dO
  go_wp2_with fail
  go_loopw [16] (fun v16 wr => ∃ (j : Nat), v16 = .int .i64 j ∧ j ≤ n ∧ Hid (AtR W wr G t L j)) (fun v16 _ => n - (intOf v16).toNat)
  case atStart => exact ⟨0, rfl, by omega, unhide HST⟩
  case round =>
    obtain ⟨j, rfl, hj, hrel⟩ := hrel
    have hA := unhide hrel
    by_cases hlt : j < n
    · have hjl : j < L.length := by rw [← unhide HN]; exact hlt
      obtain ⟨b, off, e, hbl, hr⟩ := (unhide HL).2 j hjl
      obtain ⟨p, hp⟩ : ∃ p, p = L[j] := ⟨_, rfl⟩
      rw [← hp] at hr
      have hpm := (unhide HLM p (by rw [hp]; exact List.getElem_mem hjl)).1
      have hc : wr.cell? ⟨b, off + j, none⟩ = some (.pointer (some ⟨p, 0, none⟩)) := by
        have h1 := hr 0 _ rfl
        rw [hA.bel.cell (p := ⟨b, off + j, none⟩) hbl]
        simpa [kP, ptr] using h1
      have dS := hide (share_at ((unhide HR).below hA.bel) (unhide HI) ((unhide HS).below hA.bel) hpm (unhide HDY (by omega)))
      obtain ⟨sg, hsg⟩ : ∃ sg, sg = shr (G.cl p) (G.pt p) t := ⟨_, rfl⟩
      rw [← hsg] at dS
      have hsb := shr_bounds ((unhide HI).pos hpm) ((unhide HI).sum p hpm) (by have := ((unhide HI).ok p hpm).a1; omega) t
      rw [← hsg] at hsb
      have et : L.take (j + 1) = L.take j ++ [p] := by rw [List.take_succ_eq_append_getElem hjl, ← hp]
      have hb1 := unhide HBD sg.1.toNat (j + 1)
      have hcon : con sg sg.1.toNat = sg.2 := by unfold con; rw [if_pos (by omega)]
      have hsum1 : ∀ i, sumL (L.take (j + 1)) (fun p => con (shr (G.cl p) (G.pt p) t) i) = sumL (L.take j) (fun p => con (shr (G.cl p) (G.pt p) t) i) + con sg i := fun i => by
        rw [et, sumL_append, sumL_cons, sumL_nil, hsg]; omega
      rw [hsum1, hcon] at hb1
      obtain ⟨s1, hs1⟩ : ∃ s1, s1 = sg.1 := ⟨_, rfl⟩
      obtain ⟨s2, hs2⟩ : ∃ s2, s2 = sg.2 := ⟨_, rfl⟩
      obtain ⟨n1, hn1⟩ : ∃ n1, n1 = sg.1.toNat := ⟨_, rfl⟩
      rw [← hs1, ← hs2] at dS
      have hn14 : n1 ≤ 4 := by omega
      have HA := hide hA; have HSUM := hide hsum1; have HSG := hide hsg; have HS1 := hide hs1; have HS2 := hide hs2; have HN1 := hide hn1; have HB1 := hide hb1; have HSB := hide hsb
      subst e
      unfold ptr at dS
      clear hrel hA hr hbl hp hpm hsg hsb et hb1 hcon hsum1 hs1 hs2 hn1 hjl
      go_wp2_with fail
      refine (unhide dS).mono ?_
      rintro e w1 ⟨rfl, hb2⟩
      have hA := unhide HA
      have hsz1 : W.heap.size + 1 < wr.heap.size := heap_lt hA.a
      have hA1 : AtR W w1 G t L j := ⟨hA.bel.trans (hb2.mono hA.bel.size), (hb2.block _ (by omega)).trans hA.r, (hb2.block _ hsz1).trans hA.a⟩
      obtain ⟨w2, hw2⟩ : ∃ w2, w2 = w1.alloc (.cells #[.int .i64 s1, .int .i64 s2] 94) := ⟨_, rfl⟩
      obtain ⟨sb, hsbk⟩ : ∃ sb, sb = w1.heap.size := ⟨_, rfl⟩
      have hsl : W.heap.size + 1 < w1.heap.size := heap_lt hA1.a
      have hA2 : AtR W w2 G t L j := by
        rw [hw2]
        exact ⟨hA1.bel.alloc hA1.bel.size _, (Below.heap_alloc _ _ _ (by omega)).trans hA1.r, (Below.heap_alloc _ _ _ hsl).trans hA1.a⟩
      have hs0 : w2.heap[sb]? = some (.cells #[.int .i64 s1, .int .i64 s2] 94 (0, 0)) := by rw [hw2, hsbk]; exact heap_new _ _
      obtain ⟨V, hV⟩ : ∃ V, V = w2.drew := ⟨_, rfl⟩
      have k0 : V.cell? ⟨sb, 0, none⟩ = some (.int .i64 s1) := by
        rw [hV]
        show w2.cell? _ = _
        rw [cell_at hs0]; rfl
      have k1 : V.cell? ⟨sb, 1, none⟩ = some (.int .i64 s2) := by
        rw [hV]
        show w2.cell? _ = _
        rw [cell_at hs0]; rfl
      obtain ⟨x0, hx0⟩ : ∃ x0, x0 = sumL (L.take j) (fun p => con (shr (G.cl p) (G.pt p) t) n1) := ⟨_, rfl⟩
      have ka : V.cell? ⟨W.heap.size + 1, n1, none⟩ = some (.int .i64 x0) := by
        rw [hV, hx0]
        show w2.cell? _ = _
        exact cell5 hA2.a hn14
      have kf : V.frozen? ⟨W.heap.size + 1, n1, none⟩ = false := by
        rw [hV]
        show w2.frozen? _ = _
        exact froz5 hA2.a
      have hb1 := unhide HB1
      rw [← unhide HN1, ← hx0, ← unhide HS2] at hb1
      have hsb := unhide HSB
      have hs1t : s1.toNat = n1 := by rw [unhide HS1]; exact (unhide HN1).symm
      have hs10 : 0 ≤ s1 := by rw [unhide HS1]; exact hsb.2.2.1
      have hs15 : s1 < 5 := by rw [unhide HS1]; omega
      have hwr : IntKind.i64.wrap (x0 + s2) = x0 + s2 := by rw [IntKind.wrap_i64]; omega
      have HREL : Hid (AtR W (V.setCell ⟨W.heap.size + 1, n1, none⟩ (.int .i64 (x0 + s2))) G t L (j + 1)) := by
        refine ⟨?_, ?_, ?_⟩
        · rw [hV]; exact hA2.bel.drew.setCell (by show W.heap.size ≤ W.heap.size + 1; omega) _
        · rw [Below.heap_setCell _ _ _ _ (by show W.heap.size ≠ W.heap.size + 1; omega), hV]; exact hA2.r
        · rw [upd5 (w := V) (f := fun i => sumL (L.take j) (fun p => con (shr (G.cl p) (G.pt p) t) i)) (by rw [hV]; exact hA2.a) hn14]
          have hf : ∀ i, (if i = n1 then x0 + s2 else sumL (L.take j) (fun p => con (shr (G.cl p) (G.pt p) t) i)) = sumL (L.take (j + 1)) (fun p => con (shr (G.cl p) (G.pt p) t) i) := fun i => by
            rw [unhide HSUM i]
            by_cases e : i = n1
            · rw [if_pos e, hx0, e, unhide HS2]
              unfold con
              rw [if_pos (show (n1 : Int) = sg.1 from by rw [unhide HN1]; omega)]
            · rw [if_neg e]
              unfold con
              rw [if_neg (show ¬ (i : Int) = sg.1 from fun h => e (by rw [unhide HN1]; omega))]
              omega
          exact congrArg (fun g => some (obj5 g)) (funext hf)
      have HW2 := hide hw2; have HSBK := hide hsbk; have HVV := hide hV
      clear hb2 hA hsz1 hA1 hsl hA2 hs0 hx0 hb1 hsb hw2 hsbk hV dS
      go_upto_region 6 with fail
      rw [← unhide HW2, ← unhide HSBK]
      refine wp_region_last (n := 8) (S := fun W' => W'.cell? ⟨sb, 0, none⟩ = some (.int .i64 s1) ∧ W'.cell? ⟨sb, 1, none⟩ = some (.int .i64 s2) ∧ W'.cell? ⟨W.heap.size + 1, n1, none⟩ = some (.int .i64 x0) ∧ W' = V) (by kernel_rfl) (by rw [← unhide HVV]; exact ⟨k0, k1, ka, rfl⟩) (fun hHeld => ?_)
      rw [← unhide HVV] at hHeld ⊢
      refine tkW 0 ?_; refine tkS 1 ?_; refine tkW 2 ?_; refine tkS 3 ?_; refine tkW 4 ?_; refine tkS 5 ?_; refine tkW 6 ?_; refine tkW 7 ?_
      clear hHeld
      refine wpAnyL_past (i := 8) (by kernel_rfl) rfl (by kernel_rfl) (fun KK hK => ?_)
      go_simp
      refine hK.out _ _ ?_
      clear hK KK
      refine wpAnyL_done (by kernel_rfl) ?_
      go_wp2_with fail
      exact ⟨⟨j + 1, by simp, by omega, unhide HREL⟩, by simp [intOf]; omega⟩
    · have hjn : j = n := by omega
      subst hjn
      have et : L.take j = L := List.take_of_length_le (by rw [← unhide HN]; omega)
      obtain ⟨F, hF⟩ : ∃ F : Nat → Int, F = fun i => sumL L (fun p => con (shr (G.cl p) (G.pt p) t) i) := ⟨_, rfl⟩
      have ha := hA.a
      rw [et, ← hF] at ha
      have hld := run_ld39 (w := wr) (b := W.heap.size + 1) (o := 0) (f := F) (fun i v hv => by
        unfold obj5 at ha
        rw [Nat.zero_add, cell_at ha]; simpa [five] using hv)
      have hst := run_st39 (there5 hA.r) F
      obtain ⟨Y, hY⟩ : ∃ Y, Y = wr.setCells W.heap.size 0 (five F) := ⟨_, rfl⟩
      rw [← hY] at hst
      have hr5 : Y.heap[W.heap.size]? = some (obj5 F) := by rw [hY]; exact set5 hA.r F
      have HB5 : Hid (Below W.heap.size W Y) := by rw [hY]; exact below5 (w := wr) (Nat.le_refl _) (five F) 0 W wr hA.bel
      have y0 := cell5 (n := 0) hr5 (by omega); have y1 := cell5 (n := 1) hr5 (by omega); have y2 := cell5 (n := 2) hr5 (by omega); have y3 := cell5 (n := 3) hr5 (by omega); have y4 := cell5 (n := 4) hr5 (by omega)
      have HFF : Hid (Ending.returned (ag5 F) = .returned (ag5 fun i => sumL (ofL G s.data.toList t) (fun p => con (shr (G.cl p) (G.pt p) t) i))) := by show _ = _; rw [hF, unhide HLE]
      unfold ag5 at hld hst
      clear hA hrel ha hr5 hY et hF
      go_wp2_with fail
      refine bodyPost_ret (v := .agg #[.int .i64 (F 0), .int .i64 (F 1), .int .i64 (F 2), .int .i64 (F 3), .int .i64 (F 4)]) (by simp [results, Tryd.results17, go_sem, *]) rfl ⟨unhide HFF, unhide HB5⟩
end Go.Proofs.YtildpgfhahmgmaaDoor
