import Derived.Test.YtdeibifjiefapaaGreatDoorW42
/- plays (5). By tools/ch6_plb.py. -/
namespace Go.Proofs.YtdeibifjiefapaaGreatDoor.Kg
open Go Go.RowKit Go.Shelf Go.ChangeShapes Go.WideShapes Go.ChangeAt Go.Maps
set_option linter.unusedVariables false
set_option linter.unusedSimpArgs false
set_option maxRecDepth 100000
set_option maxHeartbeats 16000000
attribute [local go_sem ↓] ld33_is st33_is ld60_is

theorem plays_any {W : World} (hP : Pw W) {pX pA : Option Addr} {nX nA cX cA : Nat} {X : List Ac} {A : List Av} (hX : X.length = nX) (hA : A.length = nA) (hX0 : pX = none → cX = 0) (hn : nX ≤ 1048576) (hm : nA ≤ 1048576) (hLX : Lies kA W pX X) (hs : ∀ a ∈ X, (txN a.nm).size < 4611686018427387904) (hLA : ActsAt W pA A) (hok : ∀ a ∈ A, a.ok) (hask : ∀ a ∈ A, a.ask.size < 4611686018427387904) (lk : Bool) :
    Calls Tryz.prog 5 #[.agg #[.slice pX nX cX, .slice pA nA cA], .bool lk] W fun e w' => e = .returned (.bool true) ∧ Below W.heap.size W w' := by
  obtain ⟨W1, hW1⟩ : ∃ W1, W1 = W.alloc (.cells #[.slice pX nX cX, .slice pA nA cA] 25) := ⟨_, rfl⟩
  obtain ⟨bP, hbP⟩ : ∃ b, b = W.heap.size := ⟨_, rfl⟩
  have hbW : Below W.heap.size W W1 := by rw [hW1]; exact bal (Below.refl _ _) _
  have hxP : W1.heap[bP]? = some (.cells #[.slice pX nX cX, .slice pA nA cA] 25 (0, 0)) := by rw [hW1, hbP]; exact heap_new _ _
  have hbPl : bP < W1.heap.size := (Array.getElem?_eq_some_iff.1 hxP).1
  have hP1 := hP.below hbW
  obtain ⟨c1, hc1⟩ : ∃ d, d = W1.heap.size := ⟨_, rfl⟩
  obtain ⟨W2, hW2⟩ : ∃ w, w = W1.alloc (.cells (cellsA top0 (.slice none 0 0)) 70) := ⟨_, rfl⟩
  obtain ⟨r1, hr1⟩ : ∃ r, r = W2.heap.size := ⟨_, rfl⟩
  obtain ⟨W3, hW3⟩ : ∃ w, w = W2.alloc (.cells #[.slice none 0 0] 72) := ⟨_, rfl⟩
  have hz2 : r1 = W1.heap.size + 1 := by rw [hr1, hW2]; simp
  have hz3 : W3.heap.size = W1.heap.size + 2 := by rw [hW3, hW2]; simp
  have h3 : Sd W3 c1 r1 (fun k => k = W1.heap.size ∨ k = W1.heap.size + 1) [] := by rw [hz2, hc1, hW3, hW2]; exact sd_new W1
  have d6 := hide (new_any W1)
  rw [← hW2, ← hc1] at d6
  have d7 := hide (rnew_any W2)
  rw [← hW3, ← hr1] at d7
  have hb3 : Below W1.heap.size W1 W3 := by rw [hW3, hW2]; exact bal (bal (Below.refl _ _) _) _
  obtain ⟨ba, hba⟩ : ∃ b, b = W3.heap.size := ⟨_, rfl⟩
  have z4 : (W3.alloc (.cells #[.pointer none, .pointer none] 33)).heap[ba]? = some (.cells #[.pointer none, .pointer none] 33 (0, 0)) := by rw [hba]; exact heap_new _ _
  have s4 := run_st33 (d := some ⟨c1, 0, none⟩) (r := some ⟨r1, 0, none⟩) z4
  obtain ⟨W4, hW4⟩ : ∃ w, w = (W3.alloc (.cells #[.pointer none, .pointer none] 33)).setCells ba 0 [.pointer (some ⟨c1, 0, none⟩), .pointer (some ⟨r1, 0, none⟩)] := ⟨_, rfl⟩
  rw [← hW4] at s4
  have x4 : W4.heap[ba]? = some (.cells #[.pointer (some ⟨c1, 0, none⟩), .pointer (some ⟨r1, 0, none⟩)] 33 (0, 0)) := by rw [hW4]; exact heap_set2 z4
  have e4 : W4.heap.size = W3.heap.size + 1 := by rw [hW4, setCells_size]; simp
  have b4 : Below W3.heap.size W3 W4 := by
    rw [hW4]
    exact Below.setCell (Below.setCell (bal (Below.refl _ _) _) (by show W3.heap.size ≤ ba; omega) _) (by show W3.heap.size ≤ ba; omega) _
  have hb14 : Below W1.heap.size W1 W4 := hb3.trans (b4.mono hb3.size)
  have c4 : W4.cell? ⟨ba, 0, none⟩ = some (.pointer (some ⟨c1, 0, none⟩)) := by rw [cell_at x4]; rfl
  have q4 : W4.cell? ⟨bP, 0, none⟩ = some (.slice pX nX cX) := by rw [World.cell?_of_block (hb14.block bP hbPl), cell_at hxP]; rfl
  have d8 : Hid (Calls Tryz.prog 8 #[.slice pX nX cX] W4 fun e w' => ∃ c2 r2 S2 M, e = .returned (.tuple #[.agg #[.pointer (some ⟨c2, 0, none⟩), .pointer (some ⟨r2, 0, none⟩)], .bool true]) ∧ Sd w' c2 r2 S2 M ∧ (∀ k, S2 k → W4.heap.size ≤ k) ∧ Below W4.heap.size W4 w') := made_any (hP1.below hb14) hX hX0 hn ((hLX.below hbW).below hb14) hs
  have HST : Hid (∀ (c2 r2 : Nat) (S2 : Nat → Prop) (M : List Ac) (w5 W6 : World) (bb bk : Nat), Sd w5 c2 r2 S2 M → (∀ k, S2 k → W4.heap.size ≤ k) → Below W4.heap.size W4 w5 → Below w5.heap.size w5 W6 → W6.heap.size = w5.heap.size + 1 → bb = w5.heap.size → W6.heap[bb]? = some (.cells #[.pointer (some ⟨c2, 0, none⟩), .pointer (some ⟨r2, 0, none⟩)] 33 (0, 0)) → bk = W6.heap.size → St W1 (W6.alloc (.cells #[.int .i64 0, .slice none 0 0, .slice none 0 0, .slice none 0 0, .slice none 0 0, .slice none 0 0, .slice none 0 0, .slice none 0 0, .slice none 0 0, .slice none 0 0, .slice none 0 0, .slice none 0 0, .slice none 0 0, .slice none 0 0, .slice none 0 0, .slice none 0 0, .slice none 0 0, .slice none 0 0, .slice none 0 0, .slice none 0 0, .slice none 0 0] 58)) bk ba bb c1 r1 c2 r2) := fun c2 r2 S2 M w5 W6 bb bk a1 a2 a3 a4 a5 a6 a7 a8 => st_start hP1 h3 hb3 hz3 b4 e4 hba x4 a1 a2 a3 a4 a5 a6 a7 a8 rfl
  have HLA : Hid (∀ i (hi : i < A.length), ∃ b off, pA = some ⟨b, off, none⟩ ∧ b < W1.heap.size ∧ W1.rangeAt b (off + i * 6) A[i].vals) := fun i hi => by
    obtain ⟨b, off, e, hl, hr⟩ := hLA i hi
    exact ⟨b, off, e, Nat.lt_of_lt_of_le hl hbW.size, fun j u hu => keep1 hbW hl (hr j u hu)⟩
  have HNA := hide hA; have HM := hide hm; have HOK := hide hok; have HASK := hide hask; have HBW := hide hbW; have HXP := hide hxP; have HBPL := hide hbPl
  clear hP hX hA hX0 hn hLX hs hLA hok hask hbW hxP hbPl hP1 h3 hb3 hz3 hz2 b4 e4 x4 z4 hb14 hW4 hW3 hW2 hr1 hc1
  have HBA := hide hba
  rw [hba] at s4
  clear hba
  go_enter Tryz.func5, Tryz.ntmps5
  go_upto_region 1 with fail
  rw [← hW1]
  rw [← hbP]
  clear hW1 hbP
  go_upto_region 2 with (first | (go_at_call 6; refine (unhide d6).mono ?_; rintro e wx ⟨rfl, hwx⟩; rw [hwx]; clear hwx wx) | (go_at_call 7; refine (unhide d7).mono ?_; rintro e wx ⟨rfl, hwx⟩; rw [hwx]; clear hwx wx))
  rw [← unhide HBA]
  clear d6 d7 s4
  go_upto_region 4 with fail
  go_upto_region 5 with (first | (go_at_call 8; refine (unhide d8).mono ?_; rintro e w5 ⟨c2, r2, S2, M, rfl, hsd, hnew, hb5⟩; have s5 := run_st33 (d := some ⟨c2, 0, none⟩) (r := some ⟨r2, 0, none⟩) (heap_new w5 (.cells #[.pointer none, .pointer none] 33)); have H5 := hide (And.intro hsd (And.intro hnew hb5)); clear hsd hnew hb5))
  obtain ⟨bb, hbb⟩ : ∃ b, b = w5.heap.size := ⟨_, rfl⟩
  rw [← hbb]
  rw [← hbb] at s5
  have z6 : (w5.alloc (.cells #[.pointer none, .pointer none] 33)).heap[bb]? = some (.cells #[.pointer none, .pointer none] 33 (0, 0)) := by rw [hbb]; exact heap_new _ _
  obtain ⟨W6, hW6⟩ : ∃ w, w = (w5.alloc (.cells #[.pointer none, .pointer none] 33)).setCells bb 0 [.pointer (some ⟨c2, 0, none⟩), .pointer (some ⟨r2, 0, none⟩)] := ⟨_, rfl⟩
  rw [← hW6]
  have x6 : W6.heap[bb]? = some (.cells #[.pointer (some ⟨c2, 0, none⟩), .pointer (some ⟨r2, 0, none⟩)] 33 (0, 0)) := by rw [hW6]; exact heap_set2 z6
  have e6 : W6.heap.size = w5.heap.size + 1 := by rw [hW6, setCells_size]; simp
  have b6 : Below w5.heap.size w5 W6 := by
    rw [hW6]
    exact Below.setCell (Below.setCell (bal (Below.refl _ _) _) (by show w5.heap.size ≤ bb; omega) _) (by show w5.heap.size ≤ bb; omega) _
  have c6 : W6.cell? ⟨bb, 0, none⟩ = some (.pointer (some ⟨c2, 0, none⟩)) := by rw [cell_at x6]; rfl
  have hst := unhide HST c2 r2 S2 M w5 W6 bb W6.heap.size (unhide H5).1 (unhide H5).2.1 (unhide H5).2.2 b6 e6 hbb x6 rfl
  have HS0 := hide hst
  clear hst x6 e6 b6 hW6 z6 hbb s5 H5 HST d8 c4 q4
  go_upto_region 8 with fail
  obtain ⟨W7, hW7⟩ : ∃ w, w = W6.alloc (.cells #[.int .i64 0, .slice none 0 0, .slice none 0 0, .slice none 0 0, .slice none 0 0, .slice none 0 0, .slice none 0 0, .slice none 0 0, .slice none 0 0, .slice none 0 0, .slice none 0 0, .slice none 0 0, .slice none 0 0, .slice none 0 0, .slice none 0 0, .slice none 0 0, .slice none 0 0, .slice none 0 0, .slice none 0 0, .slice none 0 0, .slice none 0 0] 58) := ⟨_, rfl⟩
  obtain ⟨bk, hbk⟩ : ∃ b, b = W6.heap.size := ⟨_, rfl⟩
  rw [← hW7, ← hbk] at HS0
  rw [← hW7]
  rw [← hbk]
  clear hW7 hbk c6 HBA
  go_upto_region 9 with fail
  go_loopw [9] (fun v9 wr => ∃ (i : Nat), v9 = .int .i64 i ∧ i ≤ nA ∧ Hid (St W1 wr bk ba bb c1 r1 c2 r2)) (fun v9 _ => nA - (intOf v9).toNat)
  case atStart => exact ⟨0, rfl, by omega, unhide HS0⟩
  case round =>
    clear HS0
    obtain ⟨i, rfl, hi, hrel⟩ := hrel
    have hS := unhide hrel
    have hmm := unhide HM
    have cP : wr.cell? ⟨bP, 1, none⟩ = some (.slice pA nA cA) := by rw [World.cell?_of_block (hS.bel.block bP (unhide HBPL)), cell_at (unhide HXP)]; rfl
    by_cases hlt : i < nA ∧ i < 300
    · have h300 : (i : Int) < 300 := by omega
      have hlt := hlt.1
      have hiA : i < A.length := by rw [unhide HNA]; exact hlt
      obtain ⟨b, off, e, hbl1, hr1⟩ := unhide HLA i hiA
      obtain ⟨a, ha⟩ : ∃ a, a = A[i] := ⟨_, rfl⟩
      have ham : a ∈ A := by rw [ha]; exact List.getElem_mem hiA
      rw [← ha] at hr1
      have HAOK := hide (unhide HOK a ham)
      have HAS := hide (unhide HASK a ham)
      have hI : (i : Int) < (nA : Int) := by omega
      have hI0 : (0 : Int) ≤ (i : Int) := by omega
      have kw : wr.cell? ⟨b, off + i * 6, none⟩ = some (.int .i64 a.who) := keep1 hS.bel hbl1 (hr1 0 _ rfl)
      have z0 : (wr.alloc (.cells #[.pointer none, .pointer none] 33)).heap[wr.heap.size]? = some (.cells #[.pointer none, .pointer none] 33 (0, 0)) := heap_new _ _
      have lA := run_ld33 hS.xa
      have s1 := run_st33 (d := some ⟨c1, 0, none⟩) (r := some ⟨r1, 0, none⟩) z0
      obtain ⟨Z1, hZ1⟩ : ∃ Z1, Z1 = (wr.alloc (.cells #[.pointer none, .pointer none] 33)).setCells wr.heap.size 0 [.pointer (some ⟨c1, 0, none⟩), .pointer (some ⟨r1, 0, none⟩)] := ⟨_, rfl⟩
      rw [← hZ1] at s1
      have z1 : Z1.heap[wr.heap.size]? = some (.cells #[.pointer (some ⟨c1, 0, none⟩), .pointer (some ⟨r1, 0, none⟩)] 33 (0, 0)) := by rw [hZ1]; exact heap_set2 z0
      have bZ1 : Below wr.heap.size wr Z1 := by
        rw [hZ1]
        exact Below.setCell (Below.setCell (bal (Below.refl _ _) _) (Nat.le_refl _) _) (Nat.le_refl _) _
      have lB := run_ld33 (hS.below bZ1).xb
      have s2 := run_st33 (d := some ⟨c2, 0, none⟩) (r := some ⟨r2, 0, none⟩) z1
      obtain ⟨Z2, hZ2⟩ : ∃ Z2, Z2 = Z1.setCells wr.heap.size 0 [.pointer (some ⟨c2, 0, none⟩), .pointer (some ⟨r2, 0, none⟩)] := ⟨_, rfl⟩
      rw [← hZ2] at s2
      have z2 : Z2.heap[wr.heap.size]? = some (.cells #[.pointer (some ⟨c2, 0, none⟩), .pointer (some ⟨r2, 0, none⟩)] 33 (0, 0)) := by rw [hZ2]; exact heap_set2 z1
      have bZ2 : Below wr.heap.size wr Z2 := by
        rw [hZ2]
        exact Below.setCell (Below.setCell bZ1 (Nat.le_refl _) _) (Nat.le_refl _) _
      have cP1 : Z1.cell? ⟨bP, 1, none⟩ = some (.slice pA nA cA) := by rw [World.cell?_of_block ((hS.below bZ1).bel.block bP (unhide HBPL)), cell_at (unhide HXP)]; rfl
      have kw1 : Z1.cell? ⟨b, off + i * 6, none⟩ = some (.int .i64 a.who) := keep1 (hS.below bZ1).bel hbl1 (hr1 0 _ rfl)
      have HFACT : Hid (∀ Z, Below W1.heap.size W1 Z → Z.cell? ⟨bP, 1, none⟩ = some (.slice pA nA cA) ∧ (ld60 (.pointer (some ⟨b, off + i * 6, none⟩))).run Tryz.prog Z = .ok (.agg #[.int .i64 a.who, .int .i64 a.kind, .int .i64 a.typ, .int .i64 a.day, .string a.nam, .string a.ask]) Z ∧ Z.cell? ⟨b, off + i * 6 + 5, none⟩ = some (.string a.ask)) := fun Z hZ => by
        refine ⟨?_, run_ld60 (fun j u hu => keep1 hZ hbl1 (hr1 j u hu)), keep1 hZ hbl1 (hr1 5 _ rfl)⟩
        rw [World.cell?_of_block (hZ.block bP (unhide HBPL)), cell_at (unhide HXP)]
        rfl
      have HS := hide hS; have HBZ1 := hide bZ1; have HBZ2 := hide bZ2; have Hz1 := hide z1; have Hz2 := hide z2
      subst e
      clear hrel hS hr1 hbl1 ham ha hiA z0 z1 z2 bZ1 bZ2 hZ1 hZ2
      by_cases hwho : Int.tmod a.who 2 = 0
      · as_aux_lemma =>
          go_upto_region 14 with fail
          obtain ⟨Y, hY⟩ : ∃ Y, Y = Z1.drew := ⟨_, rfl⟩
          have bY : Below wr.heap.size wr Y := by rw [hY]; exact below_drewN (unhide HBZ1) 1
          have fY := unhide HFACT Y ((unhide HS).below bY).bel
          have HYX : Hid (Y.heap[wr.heap.size]? = some (.cells #[.pointer (some ⟨c1, 0, none⟩), .pointer (some ⟨r1, 0, none⟩)] 33 (0, 0))) := by rw [hY]; exact unhide Hz1
          have HYL : Hid (wr.heap.size < Y.heap.size) := (Array.getElem?_eq_some_iff.1 (unhide HYX)).1
          have lY := run_ld33 (unhide HYX)
          have d9 : Hid (Calls Tryz.prog 9 #[.agg #[.pointer (some ⟨c1, 0, none⟩), .pointer (some ⟨r1, 0, none⟩)], .agg #[.int .i64 a.who, .int .i64 a.kind, .int .i64 a.typ, .int .i64 a.day, .string a.nam, .string a.ask]] Y fun e w' => e = .returned (.bool true) ∧ St W1 w' bk ba bb c1 r1 c2 r2 ∧ ∀ q, wr.heap.size ≤ q → q < Y.heap.size → w'.heap[q]? = Y.heap[q]?) := (unhide HS).does1 bY a (unhide HAOK)
          refine wp_region_last (n := 7) (S := fun X => (ld33 (.pointer (some ⟨wr.heap.size, 0, none⟩))).run Tryz.prog X = .ok (.agg #[.pointer (some ⟨c1, 0, none⟩), .pointer (some ⟨r1, 0, none⟩)]) X ∧ X.cell? ⟨bP, 1, none⟩ = some (.slice (some ⟨b, off, none⟩) nA cA) ∧ (ld60 (.pointer (some ⟨b, off + i * 6, none⟩))).run Tryz.prog X = .ok (.agg #[.int .i64 a.who, .int .i64 a.kind, .int .i64 a.typ, .int .i64 a.day, .string a.nam, .string a.ask]) X) (by kernel_rfl) (by rw [← hY]; exact ⟨lY, fY.1, fY.2.1⟩) (fun hHeld => ?_)
          rw [← hY] at hHeld ⊢
          clear hY lY fY bY lA lB s1 s2 cP cP1 kw kw1
          refine tkS 0 ?_; refine tkW 1 ?_; refine tkS 2 ?_; refine tkW 3 ?_; refine tkW 4 ?_; refine tkS 5 ?_
          refine wpAnyL_one (i := 6) (by kernel_rfl) rfl (fun KK hK => ?_)
          go_simp
          refine (unhide d9).mono ?_
          rintro e wt ⟨rfl, hSt, hbox⟩
          have ft := unhide HFACT wt hSt.bel
          have lt := run_ld33 ((hbox wr.heap.size (Nat.le_refl _) (unhide HYL)).trans (unhide HYX))
          have HSt := hide hSt
          have q17 := ft.1
          clear hSt hHeld hbox d9
          go_simp
          refine hK.out _ _ ⟨lt, ft.1, ft.2.1⟩ (fun hHeld => ?_)
          clear hK KK hHeld lt ft
          refine wpAnyL_past (i := 7) (by kernel_rfl) rfl (by kernel_rfl) (fun KK hK => ?_)
          go_simp
          refine hK.out _ _ ?_
          clear hK KK
          refine wpAnyL_done (by kernel_rfl) ?_
          cases lk with
          | false =>
            as_aux_lemma =>
              go_wp2_with fail
              exact ⟨⟨i + 1, by go_num, by omega, HSt⟩, by simp [intOf]; omega⟩
          | true =>
            by_cases h40 : (nA : Int) ≤ 40
            · as_aux_lemma =>
                go_upto_region 18 with fail
                obtain ⟨Y, hY⟩ : ∃ Y, Y = wt.drew := ⟨_, rfl⟩
                have hS6 : St W1 Y bk ba bb c1 r1 c2 r2 := by rw [hY]; exact (unhide HSt).below (below_drewN (Below.refl _ _) 1)
                have fY := unhide HFACT Y hS6.bel
                have lY := run_ld33 hS6.xa
                have d10 : Hid (Calls Tryz.prog 10 #[.agg #[.pointer (some ⟨c1, 0, none⟩), .pointer (some ⟨r1, 0, none⟩)], .string a.ask, .pointer (some ⟨bk, 0, none⟩)] Y fun e w' => e = .returned (.bool true) ∧ St W1 w' bk ba bb c1 r1 c2 r2) := hS6.asks1 a.ask (unhide HAS)
                refine wp_region_last (n := 9) (S := fun X => (ld33 (.pointer (some ⟨ba, 0, none⟩))).run Tryz.prog X = .ok (.agg #[.pointer (some ⟨c1, 0, none⟩), .pointer (some ⟨r1, 0, none⟩)]) X ∧ X.cell? ⟨bP, 1, none⟩ = some (.slice (some ⟨b, off, none⟩) nA cA) ∧ X.cell? ⟨b, off + i * 6 + 5, none⟩ = some (.string a.ask)) (by kernel_rfl) (by rw [← hY]; exact ⟨lY, fY.1, fY.2.2⟩) (fun hHeld => ?_)
                rw [← hY] at hHeld ⊢
                clear hY lY fY hS6
                refine tkS 0 ?_; refine tkW 1 ?_; refine tkS 2 ?_; refine tkW 3 ?_; refine tkW 4 ?_; refine tkW 5 ?_; refine tkS 6 ?_; refine tkW 7 ?_
                refine wpAnyL_one (i := 8) (by kernel_rfl) rfl (fun KK hK => ?_)
                go_simp
                refine (unhide d10).mono ?_
                rintro e wu ⟨rfl, hSt⟩
                have ft := unhide HFACT wu hSt.bel
                have lt := run_ld33 hSt.xa
                have HSu := hide hSt
                clear hSt hHeld d10
                go_simp
                refine hK.out _ _ ⟨lt, ft.1, ft.2.2⟩ (fun hHeld => ?_)
                clear hK KK hHeld lt ft
                refine wpAnyL_past (i := 9) (by kernel_rfl) rfl (by kernel_rfl) (fun KK hK => ?_)
                go_simp
                refine hK.out _ _ ?_
                clear hK KK
                refine wpAnyL_done (by kernel_rfl) ?_
                go_upto_region 19 with fail
                obtain ⟨Y, hY⟩ : ∃ Y, Y = wu.drew := ⟨_, rfl⟩
                have hS6 : St W1 Y bk ba bb c1 r1 c2 r2 := by rw [hY]; exact (unhide HSu).below (below_drewN (Below.refl _ _) 1)
                have fY := unhide HFACT Y hS6.bel
                have lY := run_ld33 hS6.xb
                have d10 : Hid (Calls Tryz.prog 10 #[.agg #[.pointer (some ⟨c2, 0, none⟩), .pointer (some ⟨r2, 0, none⟩)], .string a.ask, .pointer (some ⟨bk, 0, none⟩)] Y fun e w' => e = .returned (.bool true) ∧ St W1 w' bk ba bb c1 r1 c2 r2) := hS6.asks2 a.ask (unhide HAS)
                refine wp_region_last (n := 9) (S := fun X => (ld33 (.pointer (some ⟨bb, 0, none⟩))).run Tryz.prog X = .ok (.agg #[.pointer (some ⟨c2, 0, none⟩), .pointer (some ⟨r2, 0, none⟩)]) X ∧ X.cell? ⟨bP, 1, none⟩ = some (.slice (some ⟨b, off, none⟩) nA cA) ∧ X.cell? ⟨b, off + i * 6 + 5, none⟩ = some (.string a.ask)) (by kernel_rfl) (by rw [← hY]; exact ⟨lY, fY.1, fY.2.2⟩) (fun hHeld => ?_)
                rw [← hY] at hHeld ⊢
                clear hY lY fY hS6
                refine tkS 0 ?_; refine tkW 1 ?_; refine tkS 2 ?_; refine tkW 3 ?_; refine tkW 4 ?_; refine tkW 5 ?_; refine tkS 6 ?_; refine tkW 7 ?_
                refine wpAnyL_one (i := 8) (by kernel_rfl) rfl (fun KK hK => ?_)
                go_simp
                refine (unhide d10).mono ?_
                rintro e wv ⟨rfl, hSt⟩
                have ft := unhide HFACT wv hSt.bel
                have lt := run_ld33 hSt.xb
                have HSv := hide hSt
                clear hSt hHeld d10
                go_simp
                refine hK.out _ _ ⟨lt, ft.1, ft.2.2⟩ (fun hHeld => ?_)
                clear hK KK hHeld lt ft
                refine wpAnyL_past (i := 9) (by kernel_rfl) rfl (by kernel_rfl) (fun KK hK => ?_)
                go_simp
                refine hK.out _ _ ?_
                clear hK KK
                refine wpAnyL_done (by kernel_rfl) ?_
                go_wp2_with fail
                exact ⟨⟨i + 1, by go_num, by omega, HSv⟩, by simp [intOf]; omega⟩
            · by_cases h5 : (i : Int) % 5 = 0
              · as_aux_lemma =>
                  go_upto_region 18 with fail
                  obtain ⟨Y, hY⟩ : ∃ Y, Y = wt.drew := ⟨_, rfl⟩
                  have hS6 : St W1 Y bk ba bb c1 r1 c2 r2 := by rw [hY]; exact (unhide HSt).below (below_drewN (Below.refl _ _) 1)
                  have fY := unhide HFACT Y hS6.bel
                  have lY := run_ld33 hS6.xa
                  have d10 : Hid (Calls Tryz.prog 10 #[.agg #[.pointer (some ⟨c1, 0, none⟩), .pointer (some ⟨r1, 0, none⟩)], .string a.ask, .pointer (some ⟨bk, 0, none⟩)] Y fun e w' => e = .returned (.bool true) ∧ St W1 w' bk ba bb c1 r1 c2 r2) := hS6.asks1 a.ask (unhide HAS)
                  refine wp_region_last (n := 9) (S := fun X => (ld33 (.pointer (some ⟨ba, 0, none⟩))).run Tryz.prog X = .ok (.agg #[.pointer (some ⟨c1, 0, none⟩), .pointer (some ⟨r1, 0, none⟩)]) X ∧ X.cell? ⟨bP, 1, none⟩ = some (.slice (some ⟨b, off, none⟩) nA cA) ∧ X.cell? ⟨b, off + i * 6 + 5, none⟩ = some (.string a.ask)) (by kernel_rfl) (by rw [← hY]; exact ⟨lY, fY.1, fY.2.2⟩) (fun hHeld => ?_)
                  rw [← hY] at hHeld ⊢
                  clear hY lY fY hS6
                  refine tkS 0 ?_; refine tkW 1 ?_; refine tkS 2 ?_; refine tkW 3 ?_; refine tkW 4 ?_; refine tkW 5 ?_; refine tkS 6 ?_; refine tkW 7 ?_
                  refine wpAnyL_one (i := 8) (by kernel_rfl) rfl (fun KK hK => ?_)
                  go_simp
                  refine (unhide d10).mono ?_
                  rintro e wu ⟨rfl, hSt⟩
                  have ft := unhide HFACT wu hSt.bel
                  have lt := run_ld33 hSt.xa
                  have HSu := hide hSt
                  clear hSt hHeld d10
                  go_simp
                  refine hK.out _ _ ⟨lt, ft.1, ft.2.2⟩ (fun hHeld => ?_)
                  clear hK KK hHeld lt ft
                  refine wpAnyL_past (i := 9) (by kernel_rfl) rfl (by kernel_rfl) (fun KK hK => ?_)
                  go_simp
                  refine hK.out _ _ ?_
                  clear hK KK
                  refine wpAnyL_done (by kernel_rfl) ?_
                  go_upto_region 19 with fail
                  obtain ⟨Y, hY⟩ : ∃ Y, Y = wu.drew := ⟨_, rfl⟩
                  have hS6 : St W1 Y bk ba bb c1 r1 c2 r2 := by rw [hY]; exact (unhide HSu).below (below_drewN (Below.refl _ _) 1)
                  have fY := unhide HFACT Y hS6.bel
                  have lY := run_ld33 hS6.xb
                  have d10 : Hid (Calls Tryz.prog 10 #[.agg #[.pointer (some ⟨c2, 0, none⟩), .pointer (some ⟨r2, 0, none⟩)], .string a.ask, .pointer (some ⟨bk, 0, none⟩)] Y fun e w' => e = .returned (.bool true) ∧ St W1 w' bk ba bb c1 r1 c2 r2) := hS6.asks2 a.ask (unhide HAS)
                  refine wp_region_last (n := 9) (S := fun X => (ld33 (.pointer (some ⟨bb, 0, none⟩))).run Tryz.prog X = .ok (.agg #[.pointer (some ⟨c2, 0, none⟩), .pointer (some ⟨r2, 0, none⟩)]) X ∧ X.cell? ⟨bP, 1, none⟩ = some (.slice (some ⟨b, off, none⟩) nA cA) ∧ X.cell? ⟨b, off + i * 6 + 5, none⟩ = some (.string a.ask)) (by kernel_rfl) (by rw [← hY]; exact ⟨lY, fY.1, fY.2.2⟩) (fun hHeld => ?_)
                  rw [← hY] at hHeld ⊢
                  clear hY lY fY hS6
                  refine tkS 0 ?_; refine tkW 1 ?_; refine tkS 2 ?_; refine tkW 3 ?_; refine tkW 4 ?_; refine tkW 5 ?_; refine tkS 6 ?_; refine tkW 7 ?_
                  refine wpAnyL_one (i := 8) (by kernel_rfl) rfl (fun KK hK => ?_)
                  go_simp
                  refine (unhide d10).mono ?_
                  rintro e wv ⟨rfl, hSt⟩
                  have ft := unhide HFACT wv hSt.bel
                  have lt := run_ld33 hSt.xb
                  have HSv := hide hSt
                  clear hSt hHeld d10
                  go_simp
                  refine hK.out _ _ ⟨lt, ft.1, ft.2.2⟩ (fun hHeld => ?_)
                  clear hK KK hHeld lt ft
                  refine wpAnyL_past (i := 9) (by kernel_rfl) rfl (by kernel_rfl) (fun KK hK => ?_)
                  go_simp
                  refine hK.out _ _ ?_
                  clear hK KK
                  refine wpAnyL_done (by kernel_rfl) ?_
                  go_wp2_with fail
                  exact ⟨⟨i + 1, by go_num, by omega, HSv⟩, by simp [intOf]; omega⟩
              · as_aux_lemma =>
                  have h5b : ((i : Int) % 5 == 0) = false := by rw [beq_eq_false_iff_ne]; exact h5
                  go_wp2_with fail
                  exact ⟨⟨i + 1, by go_num, by omega, HSt⟩, by simp [intOf]; omega⟩
      · as_aux_lemma =>
          go_upto_region 14 with fail
          obtain ⟨Y, hY⟩ : ∃ Y, Y = Z2.drew := ⟨_, rfl⟩
          have bY : Below wr.heap.size wr Y := by rw [hY]; exact below_drewN (unhide HBZ2) 1
          have fY := unhide HFACT Y ((unhide HS).below bY).bel
          have HYX : Hid (Y.heap[wr.heap.size]? = some (.cells #[.pointer (some ⟨c2, 0, none⟩), .pointer (some ⟨r2, 0, none⟩)] 33 (0, 0))) := by rw [hY]; exact unhide Hz2
          have HYL : Hid (wr.heap.size < Y.heap.size) := (Array.getElem?_eq_some_iff.1 (unhide HYX)).1
          have lY := run_ld33 (unhide HYX)
          have d9 : Hid (Calls Tryz.prog 9 #[.agg #[.pointer (some ⟨c2, 0, none⟩), .pointer (some ⟨r2, 0, none⟩)], .agg #[.int .i64 a.who, .int .i64 a.kind, .int .i64 a.typ, .int .i64 a.day, .string a.nam, .string a.ask]] Y fun e w' => e = .returned (.bool true) ∧ St W1 w' bk ba bb c1 r1 c2 r2 ∧ ∀ q, wr.heap.size ≤ q → q < Y.heap.size → w'.heap[q]? = Y.heap[q]?) := (unhide HS).does2 bY a (unhide HAOK)
          refine wp_region_last (n := 7) (S := fun X => (ld33 (.pointer (some ⟨wr.heap.size, 0, none⟩))).run Tryz.prog X = .ok (.agg #[.pointer (some ⟨c2, 0, none⟩), .pointer (some ⟨r2, 0, none⟩)]) X ∧ X.cell? ⟨bP, 1, none⟩ = some (.slice (some ⟨b, off, none⟩) nA cA) ∧ (ld60 (.pointer (some ⟨b, off + i * 6, none⟩))).run Tryz.prog X = .ok (.agg #[.int .i64 a.who, .int .i64 a.kind, .int .i64 a.typ, .int .i64 a.day, .string a.nam, .string a.ask]) X) (by kernel_rfl) (by rw [← hY]; exact ⟨lY, fY.1, fY.2.1⟩) (fun hHeld => ?_)
          rw [← hY] at hHeld ⊢
          clear hY lY fY bY lA lB s1 s2 cP cP1 kw kw1
          refine tkS 0 ?_; refine tkW 1 ?_; refine tkS 2 ?_; refine tkW 3 ?_; refine tkW 4 ?_; refine tkS 5 ?_
          refine wpAnyL_one (i := 6) (by kernel_rfl) rfl (fun KK hK => ?_)
          go_simp
          refine (unhide d9).mono ?_
          rintro e wt ⟨rfl, hSt, hbox⟩
          have ft := unhide HFACT wt hSt.bel
          have lt := run_ld33 ((hbox wr.heap.size (Nat.le_refl _) (unhide HYL)).trans (unhide HYX))
          have HSt := hide hSt
          have q17 := ft.1
          clear hSt hHeld hbox d9
          go_simp
          refine hK.out _ _ ⟨lt, ft.1, ft.2.1⟩ (fun hHeld => ?_)
          clear hK KK hHeld lt ft
          refine wpAnyL_past (i := 7) (by kernel_rfl) rfl (by kernel_rfl) (fun KK hK => ?_)
          go_simp
          refine hK.out _ _ ?_
          clear hK KK
          refine wpAnyL_done (by kernel_rfl) ?_
          cases lk with
          | false =>
            as_aux_lemma =>
              go_wp2_with fail
              exact ⟨⟨i + 1, by go_num, by omega, HSt⟩, by simp [intOf]; omega⟩
          | true =>
            by_cases h40 : (nA : Int) ≤ 40
            · as_aux_lemma =>
                go_upto_region 18 with fail
                obtain ⟨Y, hY⟩ : ∃ Y, Y = wt.drew := ⟨_, rfl⟩
                have hS6 : St W1 Y bk ba bb c1 r1 c2 r2 := by rw [hY]; exact (unhide HSt).below (below_drewN (Below.refl _ _) 1)
                have fY := unhide HFACT Y hS6.bel
                have lY := run_ld33 hS6.xa
                have d10 : Hid (Calls Tryz.prog 10 #[.agg #[.pointer (some ⟨c1, 0, none⟩), .pointer (some ⟨r1, 0, none⟩)], .string a.ask, .pointer (some ⟨bk, 0, none⟩)] Y fun e w' => e = .returned (.bool true) ∧ St W1 w' bk ba bb c1 r1 c2 r2) := hS6.asks1 a.ask (unhide HAS)
                refine wp_region_last (n := 9) (S := fun X => (ld33 (.pointer (some ⟨ba, 0, none⟩))).run Tryz.prog X = .ok (.agg #[.pointer (some ⟨c1, 0, none⟩), .pointer (some ⟨r1, 0, none⟩)]) X ∧ X.cell? ⟨bP, 1, none⟩ = some (.slice (some ⟨b, off, none⟩) nA cA) ∧ X.cell? ⟨b, off + i * 6 + 5, none⟩ = some (.string a.ask)) (by kernel_rfl) (by rw [← hY]; exact ⟨lY, fY.1, fY.2.2⟩) (fun hHeld => ?_)
                rw [← hY] at hHeld ⊢
                clear hY lY fY hS6
                refine tkS 0 ?_; refine tkW 1 ?_; refine tkS 2 ?_; refine tkW 3 ?_; refine tkW 4 ?_; refine tkW 5 ?_; refine tkS 6 ?_; refine tkW 7 ?_
                refine wpAnyL_one (i := 8) (by kernel_rfl) rfl (fun KK hK => ?_)
                go_simp
                refine (unhide d10).mono ?_
                rintro e wu ⟨rfl, hSt⟩
                have ft := unhide HFACT wu hSt.bel
                have lt := run_ld33 hSt.xa
                have HSu := hide hSt
                clear hSt hHeld d10
                go_simp
                refine hK.out _ _ ⟨lt, ft.1, ft.2.2⟩ (fun hHeld => ?_)
                clear hK KK hHeld lt ft
                refine wpAnyL_past (i := 9) (by kernel_rfl) rfl (by kernel_rfl) (fun KK hK => ?_)
                go_simp
                refine hK.out _ _ ?_
                clear hK KK
                refine wpAnyL_done (by kernel_rfl) ?_
                go_upto_region 19 with fail
                obtain ⟨Y, hY⟩ : ∃ Y, Y = wu.drew := ⟨_, rfl⟩
                have hS6 : St W1 Y bk ba bb c1 r1 c2 r2 := by rw [hY]; exact (unhide HSu).below (below_drewN (Below.refl _ _) 1)
                have fY := unhide HFACT Y hS6.bel
                have lY := run_ld33 hS6.xb
                have d10 : Hid (Calls Tryz.prog 10 #[.agg #[.pointer (some ⟨c2, 0, none⟩), .pointer (some ⟨r2, 0, none⟩)], .string a.ask, .pointer (some ⟨bk, 0, none⟩)] Y fun e w' => e = .returned (.bool true) ∧ St W1 w' bk ba bb c1 r1 c2 r2) := hS6.asks2 a.ask (unhide HAS)
                refine wp_region_last (n := 9) (S := fun X => (ld33 (.pointer (some ⟨bb, 0, none⟩))).run Tryz.prog X = .ok (.agg #[.pointer (some ⟨c2, 0, none⟩), .pointer (some ⟨r2, 0, none⟩)]) X ∧ X.cell? ⟨bP, 1, none⟩ = some (.slice (some ⟨b, off, none⟩) nA cA) ∧ X.cell? ⟨b, off + i * 6 + 5, none⟩ = some (.string a.ask)) (by kernel_rfl) (by rw [← hY]; exact ⟨lY, fY.1, fY.2.2⟩) (fun hHeld => ?_)
                rw [← hY] at hHeld ⊢
                clear hY lY fY hS6
                refine tkS 0 ?_; refine tkW 1 ?_; refine tkS 2 ?_; refine tkW 3 ?_; refine tkW 4 ?_; refine tkW 5 ?_; refine tkS 6 ?_; refine tkW 7 ?_
                refine wpAnyL_one (i := 8) (by kernel_rfl) rfl (fun KK hK => ?_)
                go_simp
                refine (unhide d10).mono ?_
                rintro e wv ⟨rfl, hSt⟩
                have ft := unhide HFACT wv hSt.bel
                have lt := run_ld33 hSt.xb
                have HSv := hide hSt
                clear hSt hHeld d10
                go_simp
                refine hK.out _ _ ⟨lt, ft.1, ft.2.2⟩ (fun hHeld => ?_)
                clear hK KK hHeld lt ft
                refine wpAnyL_past (i := 9) (by kernel_rfl) rfl (by kernel_rfl) (fun KK hK => ?_)
                go_simp
                refine hK.out _ _ ?_
                clear hK KK
                refine wpAnyL_done (by kernel_rfl) ?_
                go_wp2_with fail
                exact ⟨⟨i + 1, by go_num, by omega, HSv⟩, by simp [intOf]; omega⟩
            · by_cases h5 : (i : Int) % 5 = 0
              · as_aux_lemma =>
                  go_upto_region 18 with fail
                  obtain ⟨Y, hY⟩ : ∃ Y, Y = wt.drew := ⟨_, rfl⟩
                  have hS6 : St W1 Y bk ba bb c1 r1 c2 r2 := by rw [hY]; exact (unhide HSt).below (below_drewN (Below.refl _ _) 1)
                  have fY := unhide HFACT Y hS6.bel
                  have lY := run_ld33 hS6.xa
                  have d10 : Hid (Calls Tryz.prog 10 #[.agg #[.pointer (some ⟨c1, 0, none⟩), .pointer (some ⟨r1, 0, none⟩)], .string a.ask, .pointer (some ⟨bk, 0, none⟩)] Y fun e w' => e = .returned (.bool true) ∧ St W1 w' bk ba bb c1 r1 c2 r2) := hS6.asks1 a.ask (unhide HAS)
                  refine wp_region_last (n := 9) (S := fun X => (ld33 (.pointer (some ⟨ba, 0, none⟩))).run Tryz.prog X = .ok (.agg #[.pointer (some ⟨c1, 0, none⟩), .pointer (some ⟨r1, 0, none⟩)]) X ∧ X.cell? ⟨bP, 1, none⟩ = some (.slice (some ⟨b, off, none⟩) nA cA) ∧ X.cell? ⟨b, off + i * 6 + 5, none⟩ = some (.string a.ask)) (by kernel_rfl) (by rw [← hY]; exact ⟨lY, fY.1, fY.2.2⟩) (fun hHeld => ?_)
                  rw [← hY] at hHeld ⊢
                  clear hY lY fY hS6
                  refine tkS 0 ?_; refine tkW 1 ?_; refine tkS 2 ?_; refine tkW 3 ?_; refine tkW 4 ?_; refine tkW 5 ?_; refine tkS 6 ?_; refine tkW 7 ?_
                  refine wpAnyL_one (i := 8) (by kernel_rfl) rfl (fun KK hK => ?_)
                  go_simp
                  refine (unhide d10).mono ?_
                  rintro e wu ⟨rfl, hSt⟩
                  have ft := unhide HFACT wu hSt.bel
                  have lt := run_ld33 hSt.xa
                  have HSu := hide hSt
                  clear hSt hHeld d10
                  go_simp
                  refine hK.out _ _ ⟨lt, ft.1, ft.2.2⟩ (fun hHeld => ?_)
                  clear hK KK hHeld lt ft
                  refine wpAnyL_past (i := 9) (by kernel_rfl) rfl (by kernel_rfl) (fun KK hK => ?_)
                  go_simp
                  refine hK.out _ _ ?_
                  clear hK KK
                  refine wpAnyL_done (by kernel_rfl) ?_
                  go_upto_region 19 with fail
                  obtain ⟨Y, hY⟩ : ∃ Y, Y = wu.drew := ⟨_, rfl⟩
                  have hS6 : St W1 Y bk ba bb c1 r1 c2 r2 := by rw [hY]; exact (unhide HSu).below (below_drewN (Below.refl _ _) 1)
                  have fY := unhide HFACT Y hS6.bel
                  have lY := run_ld33 hS6.xb
                  have d10 : Hid (Calls Tryz.prog 10 #[.agg #[.pointer (some ⟨c2, 0, none⟩), .pointer (some ⟨r2, 0, none⟩)], .string a.ask, .pointer (some ⟨bk, 0, none⟩)] Y fun e w' => e = .returned (.bool true) ∧ St W1 w' bk ba bb c1 r1 c2 r2) := hS6.asks2 a.ask (unhide HAS)
                  refine wp_region_last (n := 9) (S := fun X => (ld33 (.pointer (some ⟨bb, 0, none⟩))).run Tryz.prog X = .ok (.agg #[.pointer (some ⟨c2, 0, none⟩), .pointer (some ⟨r2, 0, none⟩)]) X ∧ X.cell? ⟨bP, 1, none⟩ = some (.slice (some ⟨b, off, none⟩) nA cA) ∧ X.cell? ⟨b, off + i * 6 + 5, none⟩ = some (.string a.ask)) (by kernel_rfl) (by rw [← hY]; exact ⟨lY, fY.1, fY.2.2⟩) (fun hHeld => ?_)
                  rw [← hY] at hHeld ⊢
                  clear hY lY fY hS6
                  refine tkS 0 ?_; refine tkW 1 ?_; refine tkS 2 ?_; refine tkW 3 ?_; refine tkW 4 ?_; refine tkW 5 ?_; refine tkS 6 ?_; refine tkW 7 ?_
                  refine wpAnyL_one (i := 8) (by kernel_rfl) rfl (fun KK hK => ?_)
                  go_simp
                  refine (unhide d10).mono ?_
                  rintro e wv ⟨rfl, hSt⟩
                  have ft := unhide HFACT wv hSt.bel
                  have lt := run_ld33 hSt.xb
                  have HSv := hide hSt
                  clear hSt hHeld d10
                  go_simp
                  refine hK.out _ _ ⟨lt, ft.1, ft.2.2⟩ (fun hHeld => ?_)
                  clear hK KK hHeld lt ft
                  refine wpAnyL_past (i := 9) (by kernel_rfl) rfl (by kernel_rfl) (fun KK hK => ?_)
                  go_simp
                  refine hK.out _ _ ?_
                  clear hK KK
                  refine wpAnyL_done (by kernel_rfl) ?_
                  go_wp2_with fail
                  exact ⟨⟨i + 1, by go_num, by omega, HSv⟩, by simp [intOf]; omega⟩
              · as_aux_lemma =>
                  have h5b : ((i : Int) % 5 == 0) = false := by rw [beq_eq_false_iff_ne]; exact h5
                  go_wp2_with fail
                  exact ⟨⟨i + 1, by go_num, by omega, HSt⟩, by simp [intOf]; omega⟩
    · by_cases hltA : i < nA
      · as_aux_lemma =>
          have hI : (i : Int) < (nA : Int) := by omega
          have h300 : ¬ (i : Int) < 300 := by omega
          have lA := run_ld33 hS.xa
          have d10 : Hid (Calls Tryz.prog 10 #[.agg #[.pointer (some ⟨c1, 0, none⟩), .pointer (some ⟨r1, 0, none⟩)], .string ⟨#[65]⟩, .pointer (some ⟨bk, 0, none⟩)] wr fun e w' => e = .returned (.bool true) ∧ St W1 w' bk ba bb c1 r1 c2 r2) := hS.asks1 _ (by decide)
          clear hrel hS
          go_upto_region 23 with (first | (go_at_call 10; refine (unhide d10).mono ?_; rintro e wt ⟨rfl, hSt⟩))
          have lB := run_ld33 hSt.xb
          have d10b : Hid (Calls Tryz.prog 10 #[.agg #[.pointer (some ⟨c2, 0, none⟩), .pointer (some ⟨r2, 0, none⟩)], .string ⟨#[65, 58, 66]⟩, .pointer (some ⟨bk, 0, none⟩)] wt fun e w' => e = .returned (.bool true) ∧ St W1 w' bk ba bb c1 r1 c2 r2) := hSt.asks2 _ (by decide)
          clear hSt d10 lA cP
          go_upto_region 24 with (first | (go_at_call 10; refine (unhide d10b).mono ?_; rintro e wu ⟨rfl, hSu⟩))
          have d11 : Hid (Calls Tryz.prog 11 #[.pointer (some ⟨bk, 0, none⟩)] wu fun e w' => e = .returned (.bool true) ∧ Below W.heap.size W w') := hSu.settle.mono (fun e w' h => ⟨h.1, (unhide HBW).trans (h.2.mono (unhide HBW).size)⟩)
          clear hSu d10b lB
          go_wp2_with (first | (go_at_call 11; refine (unhide d11).mono ?_; rintro e wv ⟨rfl, hbv⟩; have HBV := hide hbv; clear hbv))
          go_ret
          exact ⟨rfl, unhide HBV⟩
      · as_aux_lemma =>
          have hI : ¬ (i : Int) < (nA : Int) := by omega
          have lA := run_ld33 hS.xa
          have d10 : Hid (Calls Tryz.prog 10 #[.agg #[.pointer (some ⟨c1, 0, none⟩), .pointer (some ⟨r1, 0, none⟩)], .string ⟨#[65]⟩, .pointer (some ⟨bk, 0, none⟩)] wr fun e w' => e = .returned (.bool true) ∧ St W1 w' bk ba bb c1 r1 c2 r2) := hS.asks1 _ (by decide)
          clear hrel hS
          go_upto_region 23 with (first | (go_at_call 10; refine (unhide d10).mono ?_; rintro e wt ⟨rfl, hSt⟩))
          have lB := run_ld33 hSt.xb
          have d10b : Hid (Calls Tryz.prog 10 #[.agg #[.pointer (some ⟨c2, 0, none⟩), .pointer (some ⟨r2, 0, none⟩)], .string ⟨#[65, 58, 66]⟩, .pointer (some ⟨bk, 0, none⟩)] wt fun e w' => e = .returned (.bool true) ∧ St W1 w' bk ba bb c1 r1 c2 r2) := hSt.asks2 _ (by decide)
          clear hSt d10 lA cP
          go_upto_region 24 with (first | (go_at_call 10; refine (unhide d10b).mono ?_; rintro e wu ⟨rfl, hSu⟩))
          have d11 : Hid (Calls Tryz.prog 11 #[.pointer (some ⟨bk, 0, none⟩)] wu fun e w' => e = .returned (.bool true) ∧ Below W.heap.size W w') := hSu.settle.mono (fun e w' h => ⟨h.1, (unhide HBW).trans (h.2.mono (unhide HBW).size)⟩)
          clear hSu d10b lB
          go_wp2_with (first | (go_at_call 11; refine (unhide d11).mono ?_; rintro e wv ⟨rfl, hbv⟩; have HBV := hide hbv; clear hbv))
          go_ret
          exact ⟨rfl, unhide HBV⟩
end Go.Proofs.YtdeibifjiefapaaGreatDoor.Kg
