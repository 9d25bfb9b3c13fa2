import Derived.Test.YtcafhmlpmbkhkaaGreatDoorW36
import Derived.Test.YtcafhmlpmbkhkaaGreatDoorW15
/- Pairs: line.name 169, paired.worth 170, newPaired 91, pair 94, pairs 92. -/
namespace Go.Proofs.YtcafhmlpmbkhkaaGreatDoor
open Go Go.Shelf Go.ChangeShapes Go.WideShapes Go.ChangeAt Go.RowKit Go.Maps
set_option linter.unusedVariables false
set_option linter.unusedSimpArgs false
/-- a row of texts as a literal -/
def litB (R : List Tx) : Obj := .cells (R.map fun x => Value.string (txB x)).toArray 9
theorem litL (w : World) (R : List Tx) : RowIs (w.alloc (litB R)) ⟨some ⟨w.heap.size, 0, none⟩, R.length, R.length⟩ R := by
  have hh := heap_new w (litB R)
  refine ⟨rfl, (fun e => by cases e), ⟨(fun e => by cases e), fun k hk => ?_⟩, fun q hq => ?_⟩
  · refine ⟨w.heap.size, 0, rfl, (Array.getElem?_eq_some_iff.1 hh).1, fun j u hu => ?_⟩
    have hj : j = 0 := by
      have := (List.getElem?_eq_some_iff.1 hu).1
      simp [kT] at this
      exact this
    subst hj
    rw [cell_at hh]
    simp [kT] at hu ⊢
    exact ⟨_, List.getElem?_eq_getElem hk, hu⟩
  · cases hq
    exact ⟨_, (0, 0), hh⟩
/-- a pair's block: digits, and where its grid lies -/
def pV (d : Nat) (g : Nat) : Value := .agg #[.int .i64 (d : Int), .pointer (some ⟨g, 0, none⟩)]
def pO (d : Nat) (g : Nat) : Obj := .cells #[.int .i64 (d : Int), .pointer (some ⟨g, 0, none⟩)] 130
attribute [local go_sem ↓] ldL_is
set_option maxRecDepth 100000 in
set_option maxHeartbeats 2000000 in
theorem lname_any (x : Lm) (w : World) : Calls Tryz.prog 169 #[cvL x] w (TxtOut w x.lab.data.toList) := by
  have HB : Hid (Below w.heap.size w (w.alloc (obL x))) := bal (Below.refl _ _) _
  unfold obL at HB
  unfold cvL
  go_enter Tryz.func169, Tryz.ntmps169
  go_wp2_with fail
  go_ret
  exact ⟨rfl, unhide HB⟩
set_option maxRecDepth 100000 in
set_option maxHeartbeats 2000000 in
theorem pworth_any (x : Lm) (d g : Nat) (ha : isA x.amt) (hd : d ≤ 6) (w : World) (hP : Kg.Pw w) : Calls Tryz.prog 170 #[pV d g, cvL x] w (TxtOut w (txt x.amt d)) := by
  have b1 : Below w.heap.size w ((w.alloc (pO d g)).alloc (obL x)) := bal (bal (Below.refl _ _) _) _
  have D := hide (amount_any x.amt d ha hd _ (hP.below b1))
  have HB := hide b1
  clear hP b1 ha
  unfold obL pO at D HB
  unfold cvL pV
  go_enter Tryz.func170, Tryz.ntmps170
  go_wp2_with fail
  refine (unhide D).mono ?_
  rintro e w1 ⟨rfl, hb⟩
  have HB1 : Hid (Below w.heap.size w w1) := (unhide HB).trans (hb.mono (unhide HB).size)
  clear hb D
  go_wp2_with fail
  go_ret
  exact ⟨rfl, unhide HB1⟩
/-- a grid stays when none but blocks of pairs change -/
theorem RowIs.keepB {W W' : World} (K : ∀ (k : Nat) (ys : Array Value) (t : TypeId) (f : Nat × Nat), W.heap[k]? = some (Obj.cells ys t f) → t ≠ 130 → W'.heap[k]? = W.heap[k]?) (hs : W.heap.size ≤ W'.heap.size) {s : Sl} {r : List Tx} (h : RowIs W s r) : RowIs W' s r := by
  refine ⟨h.n, h.c, ?_, fun a ha => ?_⟩
  · cases hp : s.p with
    | none => have := h.lies; rw [hp] at this; rw [this.1 rfl]; exact Lies.nil _ _
    | some a =>
      refine ⟨(fun e => by cases e), fun k hk => ?_⟩
      have hl := h.lies
      rw [hp] at hl
      obtain ⟨b, off, e, hlt, hr⟩ := hl.2 k hk
      obtain ⟨ys, f, hb⟩ := h.blk a hp
      cases e
      exact ⟨b, off, rfl, Nat.lt_of_lt_of_le hlt hs, fun j u hu => (World.cell?_of_block (a := ⟨b, off + k * kT.s + j, none⟩) (K b ys 9 f hb (by decide))).trans (hr j u hu)⟩
  · obtain ⟨ys, f, hb⟩ := h.blk a ha
    exact ⟨ys, f, (K _ ys 9 f hb (by decide)).trans hb⟩
theorem Gr.keepB {B : Nat} {W W' : World} {d : Nat} {S : List Int} {R : List (List Tx)} (K : ∀ (k : Nat) (ys : Array Value) (t : TypeId) (f : Nat × Nat), W.heap[k]? = some (Obj.cells ys t f) → t ≠ 130 → W'.heap[k]? = W.heap[k]?) (hs : W.heap.size ≤ W'.heap.size) (h : Gr B W d S R) : Gr B W' d S R := by
  obtain ⟨ps, cs, pr, cr, L, h⟩ := h
  refine ⟨ps, cs, pr, cr, L, h.low, (K _ _ _ _ h.cell (by decide)).trans h.cell, ?_, fun a ha => ?_, row_keep h.own fun g hg => ?_, h.len, fun k s r hs' hr' => (h.row k s r hs' hr').keepB K hs⟩
  · cases hp : ps with
    | none => have := h.side; rw [hp] at this; rw [this.1 rfl]; exact Lies.nil _ _
    | some a =>
      have hsd := h.side
      rw [hp] at hsd
      refine ⟨(fun e => by cases e), fun k hk => ?_⟩
      obtain ⟨b, off, e, hlt, hrr⟩ := hsd.2 k hk
      obtain ⟨ys, f, hy⟩ := h.sblk a hp
      cases e
      exact ⟨b, off, rfl, Nat.lt_of_lt_of_le hlt hs, fun j u hu => (World.cell?_of_block (a := ⟨b, off + k * kG.s + j, none⟩) (K b ys 86 f hy (by decide))).trans (hrr j u hu)⟩
  · obtain ⟨ys, f, hy⟩ := h.sblk a ha
    exact ⟨ys, f, (K _ ys 86 f hy (by decide)).trans hy⟩
  · rcases h.own.2 with ⟨e1, _⟩ | ⟨g', cap, cur, e1, _, hh, _⟩
    · rw [e1] at hg; cases hg
    · rw [e1] at hg
      have e2 : g' = g := Option.some.inj hg
      subst e2
      exact K _ _ _ _ hh (by decide)
theorem results_c {P : Program} {fn : Func} {a : Nat} {t : TypeId} (h : fn.results = #[.cell a t]) {tmps : Array Value} {ad : Addr} {v : Value} {w : World} (ha : tmps.getD a undef = .pointer (some ad)) (hl : (loadVar t ad).run P w = .ok v w) : (results fn tmps).run P w = .ok v w := by
  unfold results
  simp only [Array.getD_eq_getD_getElem?] at ha
  simp [h, ha, asAddr, hl]
theorem sz130 : (Tryz.prog.info? 130).map (·.size) = some 2 := by kernel_rfl
/-- what newPaired hands back -/
def NewPOut (W : World) (d : Nat) (e : Ending) (w' : World) : Prop := ∃ g B, e = .returned (pV d g) ∧ W.heap.size ≤ B ∧ Gr B w' g [0, 1] [] ∧ Below W.heap.size W w'
set_option maxRecDepth 100000 in
set_option maxHeartbeats 4000000 in
theorem newPaired_any (d : Nat) (w : World) : Calls Tryz.prog 91 #[.int .i64 (d : Int)] w (NewPOut w d) := by
  obtain ⟨w1, hw1⟩ : ∃ W, W = w.alloc (.cells #[.int .i64 0, .pointer none] 130) := ⟨_, rfl⟩
  obtain ⟨w2, hw2⟩ : ∃ W, W = w1.alloc (.cells #[.int .i64 0, .int .i64 1] 86) := ⟨_, rfl⟩
  have b1 : Below w.heap.size w w1 := by rw [hw1]; exact bal (Below.refl _ _) _
  have b2 : Below w1.heap.size w1 w2 := by rw [hw2]; exact bal (Below.refl _ _) _
  have hs2 : w2.heap[w1.heap.size]? = some (.cells #[.int .i64 0, .int .i64 1] 86) := by rw [hw2]; exact heap_new _ _
  have hh1 : w1.heap[w.heap.size]? = some (.cells #[.int .i64 0, .pointer none] 130) := by rw [hw1]; exact heap_new _ _
  have hl1 : w.heap.size < w1.heap.size := (Array.getElem?_eq_some_iff.1 hh1).1
  have D := hide (newGrid_any (W := w2) (S := [0, 1]) (ps := some ⟨w1.heap.size, 0, none⟩) (cs := 2) ⟨(fun e => by cases e), fun k hk => by
      refine ⟨w1.heap.size, 0, rfl, (Array.getElem?_eq_some_iff.1 hs2).1, fun j u hu => ?_⟩
      have hj : j = 0 := by
        have := (List.getElem?_eq_some_iff.1 hu).1
        simp [kG] at this
        exact this
      subst hj
      have hk2 : k = 0 ∨ k = 1 := by simp at hk; omega
      rw [cell_at hs2]
      rcases hk2 with rfl | rfl <;> simpa [kG] using hu⟩ (fun q hq => by cases hq; exact ⟨_, (0, 0), hs2⟩))
  have HHB : Hid (Below w.heap.size w w2) := b1.trans (b2.mono b1.size)
  have HC : Hid (∀ W, Below w2.heap.size w2 W → W.heap[w.heap.size]? = some (.cells #[.int .i64 0, .pointer none] 130)) := fun W hb =>
    (hb.block _ (Nat.lt_of_lt_of_le hl1 b2.size)).trans ((b2.block _ hl1).trans hh1)
  have HL : Hid (w.heap.size < w2.heap.size) := Nat.lt_of_lt_of_le hl1 b2.size
  have hw1' := hw1.symm; have hw2' := hw2.symm
  clear hw1 hw2 b1 b2 hs2 hh1 hl1
  go_enter Tryz.func91, Tryz.ntmps91
  go_wp2_with fail
  refine (unhide D).mono ?_
  rintro e w3 ⟨g, rfl, hG, hb⟩
  have hc := unhide HC w3 hb
  have c0 : w3.cell? ⟨w.heap.size, 0, none⟩ = some (.int .i64 0) := by rw [cell_at hc]; rfl
  have c1 : w3.cell? ⟨w.heap.size, 1, none⟩ = some (.pointer none) := by rw [cell_at hc]; rfl
  have f0 : w3.frozen? ⟨w.heap.size, 0, none⟩ = false := froz_at hc
  have f1 : w3.frozen? ⟨w.heap.size, 1, none⟩ = false := froz_at hc
  obtain ⟨w5, hw5⟩ : ∃ W, W = (w3.setCell ⟨w.heap.size, 0, none⟩ (.int .i64 (d : Int))).setCell ⟨w.heap.size, 1, none⟩ (.pointer (some ⟨g, 0, none⟩)) := ⟨_, rfl⟩
  have hc5 : w5.heap[w.heap.size]? = some (pO d g) := by
    rw [hw5]
    simp [World.setCell, Array.getElem?_modify, hc, pO]
  have k5 : ∀ j, j ≠ w.heap.size → w5.heap[j]? = w3.heap[j]? := fun j hj => by
    rw [hw5]
    exact (Below.heap_setCell _ _ _ _ hj).trans (Below.heap_setCell _ _ _ _ hj)
  have s5 : w5.heap.size = w3.heap.size := by rw [hw5]; simp [World.setCell]
  have b5 : Below w.heap.size w3 w5 := by
    rw [hw5]
    exact ((Below.refl w.heap.size w3).setCell (p := ⟨w.heap.size, 0, none⟩) (Nat.le_refl _) _).setCell (p := ⟨w.heap.size, 1, none⟩) (Nat.le_refl _) _
  have HG5 : Hid (Gr w2.heap.size w5 g [0, 1] []) := hG.keepB (fun k ys t f hk ht => k5 k (fun e => by
    subst e
    rw [hc] at hk
    injection hk with hk
    injection hk with _ h5 _
    exact ht h5.symm)) (by omega)
  have HB5 : Hid (Below w.heap.size w w5) := ((unhide HHB).trans (hb.mono (unhide HHB).size)).trans b5
  have a0 : w5.cell? ⟨w.heap.size, 0, none⟩ = some (.int .i64 (d : Int)) := by rw [cell_at hc5]; rfl
  have a1 : w5.cell? ⟨w.heap.size, 1, none⟩ = some (.pointer (some ⟨g, 0, none⟩)) := by rw [cell_at hc5]; rfl
  have hw5' := hw5.symm
  clear hc hw1' hw2' D HC hc5 k5 s5 b5 hw5 hG hb
  go_wp2_with fail
  clear hw5' c0 c1 f0 f1
  have hlv : (loadVar 130 ⟨w.heap.size, 0, none⟩).run Tryz.prog w5 = .ok (pV d g) w5 := run_loadVar_mid w5 w.heap.size 0 130 [.int .i64 (d : Int), .pointer (some ⟨g, 0, none⟩)] _ (fun j u hu => by
    rw [Nat.zero_add]
    match j with
    | 0 => simpa using a0.trans hu
    | 1 => simpa using a1.trans hu
    | (j + 2) => simp at hu) Tryz.underlying130 rfl sz130
  refine bodyPost_ret (results_c Tryz.results91 rfl hlv) rfl ?_
  exact ⟨g, w2.heap.size, rfl, Nat.le_of_lt (unhide HL), unhide HG5, unhide HB5⟩
/-- a line's literal as rows: what pair leaves -/
theorem litL2 (w : World) (a b : ByteArray) : RowIs (w.alloc (.cells #[.string a, .string b] 9)) ⟨some ⟨w.heap.size, 0, none⟩, 2, 2⟩ [a.data.toList, b.data.toList] := litL w [a.data.toList, b.data.toList]
set_option maxRecDepth 100000 in
set_option maxHeartbeats 8000000 in
theorem pair_any {B : Nat} {w : World} {g : Nat} {R : List (List Tx)} (h : Gr B w g [0, 1] R) (d : Nat) (hd : d ≤ 6) (lab : ByteArray) (a : Int) (ha : isA a) (hP : Kg.Pw w) (hn : R.length + 1 ≤ 1099511627776) :
    Calls Tryz.prog 94 #[pV d g, .string lab, .int .i64 a] w (AddOut B w g [0, 1] R [lab.data.toList, txt a d]) := by
  have hBw : B ≤ w.heap.size := by
    obtain ⟨ps, cs, pr, cr, L, k⟩ := h
    exact Nat.le_trans k.low (Nat.le_of_lt (Array.getElem?_eq_some_iff.1 k.cell).1)
  obtain ⟨w1, hw1⟩ : ∃ W, W = w.alloc (pO d g) := ⟨_, rfl⟩
  have b1 : Below w.heap.size w w1 := by rw [hw1]; exact bal (Below.refl _ _) _
  have hh1 : w1.heap[w.heap.size]? = some (pO d g) := by rw [hw1]; exact heap_new _ _
  have hl1 : w.heap.size < w1.heap.size := (Array.getElem?_eq_some_iff.1 hh1).1
  have HC0 : Hid (∀ W, Below w1.heap.size w1 W → W.cell? ⟨w.heap.size, 0, none⟩ = some (.int .i64 (d : Int))) := fun W hb => by rw [cell_at ((hb.block _ hl1).trans hh1)]; rfl
  have HC1 : Hid (∀ W, Below w1.heap.size w1 W → W.cell? ⟨w.heap.size, 1, none⟩ = some (.pointer (some ⟨g, 0, none⟩))) := fun W hb => by rw [cell_at ((hb.block _ hl1).trans hh1)]; rfl
  have D1 : Hid (Calls Tryz.prog 50 #[.agg #[.int .i64 (d : Int)], .int .i64 a] (w1.drewN 1) (TxtOut (w1.drewN 1) (txt a d))) := amount_any a d ha hd _ (hP.below (below_drewN b1 1))
  have HHO : Hid (∀ W, Below w1.heap.size w1 W → W.heap[w.heap.size]? = some (pO d g)) := fun W hb => (hb.block _ hl1).trans hh1
  have HT0 := unhide HC0 (w1.drewN 1) (below_drewN (Below.refl _ _) 1)
  have HT1 := unhide HC1 (w1.drewN 1) (below_drewN (Below.refl _ _) 1)
  have HB1 := hide b1; have HG := hide h; have HN := hide hn; have HBW := hide hBw
  have hw1' : w.alloc (.cells #[.int .i64 (d : Int), .pointer (some ⟨g, 0, none⟩)] 130) = w1 := hw1.symm
  unfold pV
  clear hw1 b1 hh1 hl1 hP ha h hn hBw
  go_enter Tryz.func94, Tryz.ntmps94
  go_upto_region 1 with fail
  refine wp_region_last (n := 9) (S := fun W => W.cell? ⟨w.heap.size, 0, none⟩ = some (.int .i64 (d : Int)) ∧ W.cell? ⟨w.heap.size, 1, none⟩ = some (.pointer (some ⟨g, 0, none⟩))) (by kernel_rfl) ⟨HT0, HT1⟩ (fun hHeld => ?_)
  refine tkW 0 ?_
  refine tkN 1 ?_ (hy := by (refine Or.inl ⟨by rfl, ?_⟩; intro W hSW; obtain ⟨hA, hB⟩ := hSW; go_simp; try with_reducible rfl))
  refine tkW 2 ?_; refine tkW 3 ?_
  refine tkN 4 ?_ (hy := by (refine Or.inl ⟨by rfl, ?_⟩; intro W hSW; obtain ⟨hA, hB⟩ := hSW; go_simp; try with_reducible rfl))
  refine tkW 5 ?_
  clear hHeld
  refine wpAnyL_one (i := 6) (by kernel_rfl) rfl (fun KK hK => ?_)
  go_simp
  go_wp2_with (go_at_call 50; refine (unhide D1).mono ?_; rintro e w2 ⟨rfl, hb2⟩)
  have hb12 : Below w1.heap.size w1 w2 := (below_drewN (Below.refl _ _) 1).trans hb2
  have HB2 := hide hb12
  refine hK.out _ _ ⟨unhide HC0 w2 hb12, unhide HC1 w2 hb12⟩ (fun hHeld => ?_)
  clear hK KK hHeld hb12 hb2 D1
  obtain ⟨w3, hw3⟩ : ∃ W, W = w2.alloc (.cells #[.string lab, .string (txB (txt a d))] 9) := ⟨_, rfl⟩
  have b23 : Below w2.heap.size w2 w3 := by rw [hw3]; exact bal (Below.refl _ _) _
  have hb13 : Below w1.heap.size w1 w3 := (unhide HB2).trans (b23.mono (unhide HB2).size)
  have hbw3 : Below w.heap.size w w3 := (unhide HB1).trans (hb13.mono (unhide HB1).size)
  have D2 : Hid (Calls Tryz.prog 45 #[.pointer (some ⟨g, 0, none⟩), .slice (some ⟨w2.heap.size, 0, none⟩) 2 2] w3 (AddOut B w3 g [0, 1] R [lab.data.toList, txt a d])) := by
    refine add_any ((unhide HG).below hbw3) ?_ (unhide HN)
    rw [hw3]
    exact litL2 w2 lab (txB (txt a d))
  have HT3 : Hid (w3.cell? ⟨w.heap.size, 0, none⟩ = some (.int .i64 (d : Int)) ∧ w3.cell? ⟨w.heap.size, 1, none⟩ = some (.pointer (some ⟨g, 0, none⟩))) := ⟨unhide HC0 w3 hb13, unhide HC1 w3 hb13⟩
  have HH3 : Hid (w3.heap[w.heap.size]? = some (pO d g)) := unhide HHO w3 hb13
  have HBW3 := hide hbw3
  have HW3 := hide hw3
  clear hw3 b23 hb13 hbw3
  refine wpAnyL_one (i := 7) (by kernel_rfl) rfl (fun KK hK => ?_)
  go_simp
  refine hK.out _ _ (by have h := unhide HT3; rw [unhide HW3] at h; exact h) (fun hHeld => ?_)
  clear hK KK hHeld
  change wpAnyL _ _ _ _ _ _ _ _ _ (w2.alloc (.cells #[.string lab, .string (txB (txt a d))] 9))
  rw [← unhide HW3]
  refine wpAnyL_one (i := 8) (by kernel_rfl) rfl (fun KK hK => ?_)
  go_simp
  go_wp2_with (go_at_call 45; refine (unhide D2).mono ?_; rintro e w4 ⟨⟨v4, rfl⟩, hG4, hd4⟩)
  have hh4 := (hd4.kept _ _ _ _ (unhide HH3) (by decide) (by decide)).trans (unhide HH3)
  have HE : Hid (Gr B w4 g [0, 1] (R ++ [[lab.data.toList, txt a d]]) ∧ Gd B w w4) := ⟨hG4, (Gd.of_below (unhide HBW3) (unhide HBW)).trans hd4⟩
  have hS4 : w4.cell? ⟨w.heap.size, 0, none⟩ = some (.int .i64 (d : Int)) ∧ w4.cell? ⟨w.heap.size, 1, none⟩ = some (.pointer (some ⟨g, 0, none⟩)) := by
    constructor <;> (rw [cell_at hh4]; rfl)
  refine hK.out _ _ hS4 (fun hHeld => ?_)
  clear hK KK hHeld hh4 hS4 hG4 hd4 D2
  refine wpAnyL_done (by kernel_rfl) ?_
  go_wp2_with fail
  go_end0
  exact ⟨⟨_, rfl⟩, unhide HE⟩
end Go.Proofs.YtcafhmlpmbkhkaaGreatDoor
/- Pairs: agesOf 93, pairs 92. -/
namespace Go.Proofs.YtcafhmlpmbkhkaaGreatDoor
open Go Go.Shelf Go.ChangeShapes Go.WideShapes Go.ChangeAt Go.RowKit Go.Maps
set_option linter.unusedVariables false
set_option linter.unusedSimpArgs false
/-- the ages' titles -/
def ttA : List Tx := [[78, 111, 116, 32, 100, 117, 101], [49, 32, 116, 111, 32, 51, 48, 32, 100, 97, 121, 115], [51, 49, 32, 116, 111, 32, 54, 48, 32, 100, 97, 121, 115], [54, 49, 32, 116, 111, 32, 57, 48, 32, 100, 97, 121, 115], [77, 111, 114, 101, 32, 116, 104, 97, 110, 32, 57, 48, 32, 100, 97, 121, 115]]
def agV (a0 a1 a2 a3 a4 : Int) : Value := .agg #[.int .i64 a0, .int .i64 a1, .int .i64 a2, .int .i64 a3, .int .i64 a4]
def agL (a0 a1 a2 a3 a4 : Int) : List Lm := [⟨txB [78, 111, 116, 32, 100, 117, 101], a0⟩, ⟨txB [49, 32, 116, 111, 32, 51, 48, 32, 100, 97, 121, 115], a1⟩, ⟨txB [51, 49, 32, 116, 111, 32, 54, 48, 32, 100, 97, 121, 115], a2⟩, ⟨txB [54, 49, 32, 116, 111, 32, 57, 48, 32, 100, 97, 121, 115], a3⟩, ⟨txB [77, 111, 114, 101, 32, 116, 104, 97, 110, 32, 57, 48, 32, 100, 97, 121, 115], a4⟩]
def agO (a0 a1 a2 a3 a4 : Int) : Obj := .cells #[.string (txB [78, 111, 116, 32, 100, 117, 101]), .int .i64 a0, .string (txB [49, 32, 116, 111, 32, 51, 48, 32, 100, 97, 121, 115]), .int .i64 a1, .string (txB [51, 49, 32, 116, 111, 32, 54, 48, 32, 100, 97, 121, 115]), .int .i64 a2, .string (txB [54, 49, 32, 116, 111, 32, 57, 48, 32, 100, 97, 121, 115]), .int .i64 a3, .string (txB [77, 111, 114, 101, 32, 116, 104, 97, 110, 32, 57, 48, 32, 100, 97, 121, 115]), .int .i64 a4] 166
theorem ag_lies {W : World} {g : Nat} {a0 a1 a2 a3 a4 : Int} (h : W.heap[g]? = some (agO a0 a1 a2 a3 a4)) : Lies kL W (some ⟨g, 0, none⟩) (agL a0 a1 a2 a3 a4) := by
  refine ⟨(fun e => by cases e), fun k hk => ⟨g, 0, rfl, (Array.getElem?_eq_some_iff.1 h).1, fun j u hu => ?_⟩⟩
  unfold agO at h
  rw [cell_at h]
  have hj : j < 2 := by
    have := (List.getElem?_eq_some_iff.1 hu).1
    simpa [kL, Lm.vals] using this
  have hk5 : k < 5 := hk
  have hj2 : j = 0 ∨ j = 1 := by omega
  have hk2 : k = 0 ∨ k = 1 ∨ k = 2 ∨ k = 3 ∨ k = 4 := by omega
  rcases hk2 with rfl | rfl | rfl | rfl | rfl <;> rcases hj2 with rfl | rfl <;> exact hu
def AgOut (w : World) (a0 a1 a2 a3 a4 : Int) (e : Ending) (w' : World) : Prop := ∃ g, e = .returned (.slice (some ⟨g, 0, none⟩) 5 5) ∧ w'.heap[g]? = some (agO a0 a1 a2 a3 a4) ∧ Below w.heap.size w w'
set_option maxRecDepth 100000 in
set_option maxHeartbeats 4000000 in
theorem agesOf_any (a0 a1 a2 a3 a4 : Int) (w : World) : Calls Tryz.prog 93 #[agV a0 a1 a2 a3 a4] w (AgOut w a0 a1 a2 a3 a4) := by
  obtain ⟨w1, hw1⟩ : ∃ W, W = w.alloc (.cells #[.int .i64 a0, .int .i64 a1, .int .i64 a2, .int .i64 a3, .int .i64 a4] 48) := ⟨_, rfl⟩
  have b1 : Below w.heap.size w w1 := by rw [hw1]; exact bal (Below.refl _ _) _
  have HS : Hid (w1.heap.size = w.heap.size + 1) := by show _ = _; rw [hw1]; simp
  have HF : Hid ((w1.alloc (agO a0 a1 a2 a3 a4)).heap[w1.heap.size]? = some (agO a0 a1 a2 a3 a4) ∧ Below w.heap.size w (w1.alloc (agO a0 a1 a2 a3 a4))) := ⟨heap_new _ _, b1.trans ((bal (Below.refl _ _) _).mono b1.size)⟩
  have HW := hide hw1
  clear hw1 b1
  unfold agV
  go_enter Tryz.func93, Tryz.ntmps93
  go_wp2_with fail
  go_ret
  refine ⟨w1.heap.size, ?_, ?_⟩
  · rw [unhide HS]; rfl
  · have h := unhide HF
    rw [unhide HW] at h
    rw [unhide HW]
    exact h
set_option maxRecDepth 100000 in
set_option maxHeartbeats 4000000 in
theorem pairs_any {B : Nat} {w : World} {g : Nat} {R : List (List Tx)} (h : Gr B w g [0, 1] R) (d : Nat) (hd : d ≤ 6) {p : Option Addr} {n c : Nat} {X : List Lm} (hX : X.length = n) (hG : ∀ W, Gd B w W → Lies kL W p X ∧ Kg.Pw W) (hok : ∀ x ∈ X, isA x.amt) (hn : R.length + n ≤ 1099511627776) :
    Calls Tryz.prog 92 #[pV d g, .slice p n c] w (fun e w' => (∃ v, e = .returned v) ∧ Gr B w' g [0, 1] (R ++ X.map fun x => [x.lab.data.toList, txt x.amt d]) ∧ Gd B w w') := by
  have hBw : B ≤ w.heap.size := by
    obtain ⟨ps, cs, pr, cr, L, k⟩ := h
    exact Nat.le_trans k.low (Nat.le_of_lt (Array.getElem?_eq_some_iff.1 k.cell).1)
  obtain ⟨w1, hw1⟩ : ∃ W, W = w.alloc (pO d g) := ⟨_, rfl⟩
  obtain ⟨FS, hFS⟩ : ∃ F : List (Value × (Lm → Tx)), F = [(.func (.func 169) #[] #[], fun x => x.lab.data.toList), (.func (.func 170) #[pV d g] #[], fun x => txt x.amt d)] := ⟨_, rfl⟩
  obtain ⟨w2, hw2⟩ : ∃ W, W = w1.alloc (.cells #[.func (.func 169) #[] #[], .func (.func 170) #[pV d g] #[]] 223) := ⟨_, rfl⟩
  have b1 : Below w.heap.size w w1 := by rw [hw1]; exact bal (Below.refl _ _) _
  have b2 : Below w1.heap.size w1 w2 := by rw [hw2]; exact bal (Below.refl _ _) _
  have b02 : Below w.heap.size w w2 := b1.trans (b2.mono b1.size)
  have g02 : Gd B w w2 := Gd.of_below b02 hBw
  have hh2 : w2.heap[w1.heap.size]? = some (.cells #[.func (.func 169) #[] #[], .func (.func 170) #[pV d g] #[]] 223) := by rw [hw2]; exact heap_new _ _
  have eg169 : ∀ (args : Array Value) (w : World), (callFunc 169 args).run Tryz.prog w = .ok (.enter 169 args) w := fun args w => by kernel_rfl
  have eg170 : ∀ (args : Array Value) (w : World), (callFunc 170 args).run Tryz.prog w = .ok (.enter 170 args) w := fun args w => by kernel_rfl
  have D := setL (h.below b02) hX (fun W hW => (hG W (g02.trans hW)).1) (FS := FS) (fb := w1.heap.size) (fo := 0) (nf := 2) (cf := 2) (c := c) (by rw [hFS]; rfl) (fun W hW j q hq => by
    have hc := (hW.kept _ _ _ _ hh2 (by decide) (by decide)).trans hh2
    rw [Nat.zero_add, cell_at hc]
    have hj2 : j = 0 ∨ j = 1 := by
      have := (List.getElem?_eq_some_iff.1 hq).1
      rw [hFS] at this
      simp at this
      omega
    rcases hj2 with rfl | rfl <;> (simp [hFS] at hq; subst hq; rfl)) hok (fun q hq => by
      rw [hFS] at hq
      simp only [List.mem_cons, List.not_mem_nil, or_false] at hq
      rcases hq with rfl | rfl
      · exact ⟨169, eg169, .inl ⟨rfl, fun x W _ _ => lname_any x W⟩⟩
      · exact ⟨170, eg170, .inr (.inl ⟨_, rfl, fun x W hx hW => pworth_any x d g hx hd W (hG W (g02.trans hW)).2⟩)⟩) hn (by decide)
  have HR : Hid (∀ x, rowF FS x = [x.lab.data.toList, txt x.amt d]) := fun x => by rw [hFS]; rfl
  have hw1' : w.alloc (.cells #[.int .i64 (d : Int), .pointer (some ⟨g, 0, none⟩)] 130) = w1 := hw1.symm
  have hw2' : w1.alloc (.cells #[.func (.func 169) #[] #[], .func (.func 170) #[.agg #[.int .i64 (d : Int), .pointer (some ⟨g, 0, none⟩)]] #[]] 223) = w2 := hw2.symm
  have hh1 : w1.heap[w.heap.size]? = some (pO d g) := by rw [hw1]; exact heap_new _ _
  have c0 : w1.cell? ⟨w.heap.size, 0, none⟩ = some (.int .i64 (d : Int)) := by rw [cell_at hh1]; rfl
  have c1 : w1.cell? ⟨w.heap.size, 1, none⟩ = some (.pointer (some ⟨g, 0, none⟩)) := by rw [cell_at hh1]; rfl
  have D := hide D
  have HG2 := hide g02
  clear hw1 hw2 b1 b2 b02 g02 hh2 hFS h hX hG hok hn hBw hh1
  unfold pV
  go_enter Tryz.func92, Tryz.ntmps92
  go_wp2_with fail
  refine (unhide D).mono ?_
  rintro e w3 ⟨⟨v, rfl⟩, hG3, hd3⟩
  have HE : Hid (Gr B w3 g [0, 1] (R ++ X.map fun x => [x.lab.data.toList, txt x.amt d]) ∧ Gd B w w3) := by
    refine ⟨?_, (unhide HG2).trans hd3⟩
    have e : X.map (rowF FS) = X.map fun x => [x.lab.data.toList, txt x.amt d] := List.map_congr_left fun x _ => unhide HR x
    rw [← e]
    exact hG3
  clear hG3 hd3 D
  go_wp2_with fail
  go_end0
  exact ⟨⟨_, rfl⟩, unhide HE⟩
end Go.Proofs.YtcafhmlpmbkhkaaGreatDoor
