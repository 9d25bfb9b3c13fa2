/- typing: TypingChecks 3. -/
import Derived.Test.YtfpbljfebjochaaGreatDoorChA
import Derived.Test.YtfpbljfebjochaaGreatDoorKbD
namespace Go.Proofs.YtfpbljfebjochaaGreatDoor
open Go Go.Shelf Go.ChangeShapes Go.WideShapes Go.ChangeAt Go.RowKit Go.Maps
set_option linter.unusedVariables false
set_option linter.unusedSimpArgs false
set_option maxRecDepth 100000
set_option maxHeartbeats 8000000
theorem Kg.Took.bel {w w' : World} {bk B : Nat} {U U' : Nat → Prop} {L : Value} (h : Kg.Took w w' bk U U' L) (hB : B ≤ w.heap.size) (hbk : B ≤ bk) (hU : ∀ q, U q → B ≤ q) (hL : ∀ q, L.ownBlock = some q → B ≤ q) : Below B w w' ∧ ∀ q, U' q → B ≤ q :=
  ⟨⟨h.os, h.tape, h.output, h.size, fun q hq => h.block q (Nat.lt_of_lt_of_le hq hB) (by omega) (fun e => by have := hU q e; omega) (fun e => by have := hL q e; omega)⟩, fun q hq => (h.new q hq).elim (hU q) (fun e => e.elim (hL q) (fun e => Nat.le_trans hB e))⟩
theorem Rw.blk {α : Type} {K : Kd α} {W wr : World} {v : Value} {n : Nat} {L : List α} (h : Rw K W wr v n L) : ∀ q, v.ownBlock = some q → W.heap.size ≤ q ∧ q < wr.heap.size := fun q hq => ⟨(row_block h.row hq).1, (row_block h.row hq).2.1⟩
theorem Lw.cp0 {W X : World} {q : Qy} {a : Qa} {N : List Nd} {b : Qa} {bq bp : Nat} (h : Lw W X q a N b bq bp) : X.cell? ⟨bp, 0, none⟩ = some (.slice b.pN q.nodes.length b.cN) := by rw [cell_at h.pb]; show some (Value.slice b.pN N.length b.cN) = _; rw [h.len]
theorem Lw.qin {W X V : World} {q : Qy} {a : Qa} {N : List Nd} {b : Qa} {bq bp : Nat} (h : Lw W X q a N b bq bp) (hq : QIn V q a) : QIn X (q.with N) b := ⟨h.tw.n.lies kN_ok, h.tw.b.lies kI_ok, h.tw.s.lies kG_ok, h.tw.o.lies kO_ok, by show N.length ≤ _; rw [h.len]; exact hq.nn, hq.nb, hq.ns, hq.no⟩
theorem Lw.ld {W X Y : World} {q : Qy} {a : Qa} {N : List Nd} {b : Qa} {bq bp : Nat} (h : Lw W X q a N b bq bp) (hb : Below X.heap.size X Y) : (ld32 (.pointer (some ⟨bp, 0, none⟩))).run Tryz.prog Y = .ok (qV (q.with N) b) Y :=
  run_ld32 (fun j u hu => by rw [Nat.zero_add, cell_at ((h.keep hb).pb)]; simpa using hu)
/-- both Checks of one query -/
theorem two_checks {W : World} (hT : Tab W) {q : Qy} {a : Qa} (hq : QIn W q a) : (Calls Tryz.prog 11 #[qV q a] W fun e w' => ∃ p n c, e = .returned (.tuple #[.slice p n c, .int .i64 (chkE q)]) ∧ Rw kI W w' (.slice p n c) n (chkL q)) ∧ (∀ X, Below W.heap.size W X → Calls Tryz.prog 8 #[qV q a] X fun e w' => ∃ p n c, e = .returned (.tuple #[.slice p n c, .int .i64 (chkE q)]) ∧ Rw kI X w' (.slice p n c) n (chkL q)) :=
  ⟨check_any hT.f hT.m hT.r hq, fun X h => rcheck_any (hq.below h)⟩
/-- the book takes the three lists, and all is settled -/
theorem Kg.settled {W2 w3 w4 w5 X1 : World} {bk : Nat} {va vb vc : Value} {na nb nc : Nat} {A B C : List Int} (ra : Rw kI W2 w3 va na A) (rb : Rw kI w3 w4 vb nb B) (rc : Rw kI w4 w5 vc nc C) (hX : X1 = w5.alloc (.cells #[.int .i64 0, .slice none 0 0, .slice none 0 0, .slice none 0 0, .slice none 0 0, .slice none 0 0, .slice none 0 0, .slice none 0 0, .slice none 0 0, .slice none 0 0, .slice none 0 0, .slice none 0 0, .slice none 0 0, .slice none 0 0, .slice none 0 0, .slice none 0 0, .slice none 0 0, .slice none 0 0, .slice none 0 0, .slice none 0 0, .slice none 0 0] 52)) (hbk : bk = w5.heap.size) (h2 : 2 < W2.heap.size) (la : na ≤ 26400000000000) (lb : nb ≤ 26400000000000) (lc : nc ≤ 26400000000000) :
    Calls Tryz.prog 5 #[.pointer (some ⟨bk, 0, none⟩), va] X1 fun e w6 => e = .returned (.tuple #[]) ∧ Calls Tryz.prog 5 #[.pointer (some ⟨bk, 0, none⟩), vb] w6 fun e w7 => e = .returned (.tuple #[]) ∧ Calls Tryz.prog 6 #[.pointer (some ⟨bk, 0, none⟩), vc] w7 fun e w8 => e = .returned (.tuple #[]) ∧ Calls Tryz.prog 7 #[.pointer (some ⟨bk, 0, none⟩)] w8 fun e w9 => e = .returned (.bool true) ∧ Below W2.heap.size W2 w9 := by
  have z3 := ra.bel.size; have z4 := rb.bel.size; have z5 := rc.bel.size
  have hb5 : Below w5.heap.size w5 X1 := by rw [hX]; exact Below.a1 w5 _
  have hzX : X1.heap.size = w5.heap.size + 1 := by rw [hX]; simp
  have BX : Below W2.heap.size W2 X1 := ((ra.bel.trans (rb.bel.mono z3)).trans (rc.bel.mono (by omega))).trans (hb5.mono (by omega))
  have Ka : Kg.KB X1 bk (fun _ => False) := Kg.KB.new (by rw [hX, hbk]; exact heap_new _ _) (by show 1 < _; omega) (by omega)
  have Ra := ((ra.below rb.bel).below rc.bel).below hb5
  have Rb := (rb.below rc.bel).below hb5
  have Rc := rc.below hb5
  refine (Ka.keep Ra.len (row_le Ra.row (Nat.zero_le _)) (by omega) (fun g hg => ⟨by have := (ra.blk g hg).2; omega, by have := (ra.blk g hg).1; omega, fun e => e⟩)).mono ?_
  rintro e w6 ⟨rfl, U1, K1, T1⟩
  refine ⟨rfl, ?_⟩
  have n1 : ∀ g, U1 g → va.ownBlock = some g ∨ X1.heap.size ≤ g := fun g hg => (T1.new g hg).elim (fun e => e.elim) id
  have ob : w6.ownsRow 0 kI.e kI.s vb nb (kI.flat B) := row_keep (row_le Rb.row (Nat.zero_le _)) (fun g hg => T1.block g (Rb.blk g hg).2 (by have := (rb.blk g hg).2; omega) (fun e => e) (fun e => by have := (ra.blk g e).2; have := (rb.blk g hg).1; omega))
  have hLb : ∀ g, vb.ownBlock = some g → g ≠ bk ∧ 2 ≤ g ∧ ¬ U1 g := fun g hg => ⟨by have := (rb.blk g hg).2; omega, by have := (rb.blk g hg).1; omega, fun e => (n1 g e).elim (fun e => by have := (ra.blk g e).2; have := (rb.blk g hg).1; omega) (fun e => by have := (rb.blk g hg).2; omega)⟩
  refine (K1.keep rb.len ob (by omega) hLb).mono ?_
  rintro e w7 ⟨rfl, U2, K2, T2⟩
  refine ⟨rfl, ?_⟩
  have z6 := T1.size
  have n2 : ∀ g, U2 g → va.ownBlock = some g ∨ vb.ownBlock = some g ∨ X1.heap.size ≤ g := fun g hg => (T2.new g hg).elim (fun e => (n1 g e).imp id .inr) (fun e => e.elim (fun e => .inr (.inl e)) (fun e => .inr (.inr (by omega))))
  have oc : w7.ownsRow 0 kI.e kI.s vc nc (kI.flat C) := row_keep (row_le Rc.row (Nat.zero_le _)) (fun g hg => (T2.block g (by have := (Rc.blk g hg).2; omega) (by have := (rc.blk g hg).2; omega) (fun e => (n1 g e).elim (fun e => by have := (ra.blk g e).2; have := (rc.blk g hg).1; omega) (fun e => by have := (rc.blk g hg).2; omega)) (fun e => by have := (rb.blk g e).2; have := (rc.blk g hg).1; omega)).trans (T1.block g (Rc.blk g hg).2 (by have := (rc.blk g hg).2; omega) (fun e => e) (fun e => by have := (ra.blk g e).2; have := (rc.blk g hg).1; omega)))
  have hLc : ∀ g, vc.ownBlock = some g → g ≠ bk ∧ 2 ≤ g ∧ ¬ U2 g := fun g hg => ⟨by have := (rc.blk g hg).2; omega, by have := (rc.blk g hg).1; omega, fun e => (n2 g e).elim (fun e => by have := (ra.blk g e).2; have := (rc.blk g hg).1; omega) (fun e => e.elim (fun e => by have := (rb.blk g e).2; have := (rc.blk g hg).1; omega) (fun e => by have := (rc.blk g hg).2; omega))⟩
  refine (K2.write rc.len oc (by omega) hLc).mono ?_
  rintro e w8 ⟨rfl, U3, K3, T3⟩
  refine ⟨rfl, ?_⟩
  obtain ⟨b6, u1⟩ := T1.bel (B := W2.heap.size) (by omega) (by omega) (fun q h => h.elim) (fun g hg => (ra.blk g hg).1)
  obtain ⟨b7, u2⟩ := T2.bel (B := W2.heap.size) (by omega) (by omega) u1 (fun g hg => by have := (rb.blk g hg).1; omega)
  have z7 := T2.size
  obtain ⟨b8, u3⟩ := T3.bel (B := W2.heap.size) (by omega) (by omega) u2 (fun g hg => by have := (rc.blk g hg).1; omega)
  have z8 := T3.size
  refine K3.settle.mono ?_
  rintro e w9 ⟨rfl, U4, K4, S⟩
  exact ⟨rfl, (((BX.trans b6).trans b7).trans b8).trans (S.below u3 (by omega))⟩
attribute [local go_sem ↓] ld32_is st32_is
theorem typingChecks_walk {W : World} (hT : Tab W) {q r : Qy} {a d : Qa} (hq : QIn W q a) (hc : QCp a) (hr : QIn W r d) (hd : QCp d) : Calls Tryz.prog 3 #[qV q a, qV r d] W fun e w' => e = .returned (.bool true) ∧ Below W.heap.size W w' := by
  obtain ⟨nN, hnN⟩ : ∃ n, n = q.nodes.length := ⟨_, rfl⟩
  obtain ⟨nR, hnR⟩ : ∃ n, n = r.nodes.length := ⟨_, rfl⟩
  have h2 : 2 < W.heap.size := var_lt mon_no hT.m
  have hnn : nN ≤ 2600000000000 := by rw [hnN]; exact hq.nn
  obtain ⟨W2, hW2⟩ : ∃ X, X = (W.alloc (.cells #[.slice a.pN nN a.cN, .int .i64 q.wh, .slice a.pB q.by'.length a.cB, .slice a.pS q.sh.length a.cS, .slice a.pO q.ords.length a.cO, .int .i64 q.lim] 27)).alloc (.cells #[.slice d.pN nR d.cN, .int .i64 r.wh, .slice d.pB r.by'.length d.cB, .slice d.pS r.sh.length d.cS, .slice d.pO r.ords.length d.cO, .int .i64 r.lim] 27) := ⟨_, rfl⟩
  have hB2 : Below W.heap.size W W2 := by rw [hW2]; exact Below.a2 W _ _
  have hs2 : W2.heap.size = W.heap.size + 2 := by rw [hW2]; simp
  have b0 : W2.heap[W.heap.size]? = some (.cells (qC q a).toArray 27 (0, 0)) := by rw [hW2, Below.heap_alloc _ _ _ (by simp), hnN]; exact heap_new _ _
  have b1 : W2.heap[W.heap.size + 1]? = some (.cells (qC r d).toArray 27 (0, 0)) := by
    rw [hW2]
    have := heap_new (W.alloc (.cells #[.slice a.pN nN a.cN, .int .i64 q.wh, .slice a.pB q.by'.length a.cB, .slice a.pS q.sh.length a.cS, .slice a.pO q.ords.length a.cO, .int .i64 q.lim] 27)) (.cells #[.slice d.pN nR d.cN, .int .i64 r.wh, .slice d.pB r.by'.length d.cB, .slice d.pS r.sh.length d.cS, .slice d.pO r.ords.length d.cO, .int .i64 r.lim] 27)
    rw [World.size_alloc] at this
    rw [this, hnR]
    rfl
  have HF0 : Hid (∀ X, Below W2.heap.size W2 X → X.heap[W.heap.size]? = some (.cells (qC q a).toArray 27 (0, 0))) := fun X h => (h.block _ (by omega)).trans b0
  have HL0 : Hid (∀ X, Below W2.heap.size W2 X → (ld32 (.pointer (some ⟨W.heap.size, 0, none⟩))).run Tryz.prog X = .ok (qV q a) X) := fun X h => run_ld32 (fun j u hu => by rw [Nat.zero_add, cell_at (unhide HF0 X h)]; simpa using hu)
  have HL1 : Hid (∀ X, Below W2.heap.size W2 X → (ld32 (.pointer (some ⟨W.heap.size + 1, 0, none⟩))).run Tryz.prog X = .ok (qV r d) X) := fun X h => run_ld32 (fun j u hu => by rw [Nat.zero_add, cell_at ((h.block _ (by omega)).trans b1)]; simpa using hu)
  have DQ : Hid (∀ X, Below W2.heap.size W2 X → Calls Tryz.prog 4 #[qV q a] X fun e w' => ∃ p n c, e = .returned (.tuple #[.slice p n c, .bool true]) ∧ Rw kI X w' (.slice p n c) n (chkL q)) := fun X h => checks_any ((hT.below hB2).below h) ((hq.below hB2).below h) hc
  have DR : Hid (∀ X, Below W2.heap.size W2 X → Calls Tryz.prog 4 #[qV r d] X fun e w' => ∃ p n c, e = .returned (.tuple #[.slice p n c, .bool true]) ∧ Rw kI X w' (.slice p n c) n (chkL r)) := fun X h => checks_any ((hT.below hB2).below h) ((hr.below hB2).below h) hd
  have DK : Hid (∀ X, Below W2.heap.size W2 X → Calls Tryz.prog 8 #[qV q a] X fun e w' => ∃ p n c, e = .returned (.tuple #[.slice p n c, .int .i64 (chkE q)]) ∧ Rw kI X w' (.slice p n c) n (chkL q)) := fun X h => rcheck_any ((hq.below hB2).below h)
  have DW : Hid (∀ X, Below W2.heap.size W2 X → Calls Tryz.prog 10 #[qV q a] X fun e w' => ∃ a', e = .returned (qV q a') ∧ Twn X w' q a') := fun X h => twin_any ((hq.below hB2).below h) hc
  have HLQ : Hid ((chkL q).length ≤ 26400000000000) := chkL_len hq
  have HLR : Hid ((chkL r).length ≤ 26400000000000) := chkL_len hr
  have hgo : qV q a = .agg #[.slice a.pN nN a.cN, .int .i64 q.wh, .slice a.pB q.by'.length a.cB, .slice a.pS q.sh.length a.cS, .slice a.pO q.ords.length a.cO, .int .i64 q.lim] := by rw [hnN]; rfl
  have hgo2 : qV r d = .agg #[.slice d.pN nR d.cN, .int .i64 r.wh, .slice d.pB r.by'.length d.cB, .slice d.pS r.sh.length d.cS, .slice d.pO r.ords.length d.cO, .int .i64 r.lim] := by rw [hnR]; rfl
  have HQ := hide hq; have HN := hide hnN; have HT := hide hT; have HB2 := hide hB2; have HS2 := hide hs2; have H2 := hide h2
  rw [hgo, hgo2]
  obtain ⟨qq, hqq⟩ : ∃ v, v = qV q a := ⟨_, rfl⟩
  obtain ⟨rr, hrr⟩ : ∃ v, v = qV r d := ⟨_, rfl⟩
  rw [← hqq] at HL0 DQ DK DW
  rw [← hrr] at HL1 DR
  clear hT hq hr hc hd hB2 hs2 b0 b1 hgo hgo2 hqq hrr hnN hnR h2
  go_enter Tryz.func3, Tryz.ntmps3
  go_upto_region 1 with fail
  rw [← hW2]
  clear hW2
  have l1 := unhide HL0 _ (Below.refl _ W2)
  have d1 := hide (unhide DQ _ (Below.refl _ W2))
  go_upto_region 2 with (first | (go_at_call 4; refine (unhide d1).mono ?_; rintro e w3 ⟨p1, n1, c1, rfl, R1⟩))
  have HR1 := hide R1
  have l2 := unhide HL1 _ R1.bel
  have d2 := hide (unhide DR _ R1.bel)
  clear R1 d1 l1
  go_upto_region 3 with (first | (go_at_call 4; refine (unhide d2).mono ?_; rintro e w4 ⟨p2, n2, c2, rfl, R2⟩))
  have HR2 := hide R2
  have HB4 : Hid (Below W2.heap.size W2 w4) := (unhide HR1).bel.trans (R2.bel.mono (unhide HR1).bel.size)
  have l3 := unhide HL0 _ (unhide HB4)
  have d3 := hide (unhide DQ _ (unhide HB4))
  clear R2 d2 l2
  go_upto_region 4 with (first | (go_at_call 4; refine (unhide d3).mono ?_; rintro e w5 ⟨p3, n3, c3, rfl, R3⟩))
  have HR3 := hide R3
  clear R3 d3 l3
  go_upto_region 7 with fail
  obtain ⟨X1, hX1⟩ : ∃ X, X = w5.alloc (.cells #[.int .i64 0, .slice none 0 0, .slice none 0 0, .slice none 0 0, .slice none 0 0, .slice none 0 0, .slice none 0 0, .slice none 0 0, .slice none 0 0, .slice none 0 0, .slice none 0 0, .slice none 0 0, .slice none 0 0, .slice none 0 0, .slice none 0 0, .slice none 0 0, .slice none 0 0, .slice none 0 0, .slice none 0 0, .slice none 0 0, .slice none 0 0] 52) := ⟨_, rfl⟩
  obtain ⟨bk, hbk⟩ : ∃ n, n = w5.heap.size := ⟨_, rfl⟩
  rw [← hX1, ← hbk]
  have d4 := hide (Kg.settled (unhide HR1) (unhide HR2) (unhide HR3) hX1 hbk (by have := unhide H2; have := unhide HS2; omega) (by have := (unhide HR1).len; have := unhide HLQ; omega) (by have := (unhide HR2).len; have := unhide HLR; omega) (by have := (unhide HR3).len; have := unhide HLQ; omega))
  clear hX1 hbk HR1 HR2 HR3 HB4 DR HL1
  go_upto_region 8 with (first | (go_at_call 5; refine (unhide d4).mono ?_; rintro e w6 ⟨rfl, g1⟩))
  have G1 := hide g1
  clear g1 d4
  go_upto_region 9 with (first | (go_at_call 5; refine (unhide G1).mono ?_; rintro e w7 ⟨rfl, g2⟩))
  have G2 := hide g2
  clear g2 G1
  go_upto_region 10 with (first | (go_at_call 6; refine (unhide G2).mono ?_; rintro e w8 ⟨rfl, g3⟩))
  have G3 := hide g3
  clear g3 G2
  go_upto_region 11 with (first | (go_at_call 7; refine (unhide G3).mono ?_; rintro e w9 ⟨rfl, g4⟩))
  have HB9 := hide g4
  clear g4 G3
  have l5 := unhide HL0 _ (unhide HB9)
  have d5 := hide (unhide DQ _ (unhide HB9))
  go_upto_region 12 with (first | (go_at_call 4; refine (unhide d5).mono ?_; rintro e w10 ⟨p5, n5, c5, rfl, R5⟩))
  have HR5 := hide R5
  have HB10 : Hid (Below W2.heap.size W2 w10) := (unhide HB9).trans (R5.bel.mono (unhide HB9).size)
  have l6 := unhide HL0 _ (unhide HB10)
  have d6 := hide (unhide DK _ (unhide HB10))
  clear R5 d5 l5
  obtain ⟨ce, hce⟩ : ∃ v, v = chkE q := ⟨_, rfl⟩
  rw [← hce] at d6 DK
  have HCE := hide hce
  clear hce
  go_upto_region 13 with (first | (go_at_call 8; refine (unhide d6).mono ?_; rintro e w11 ⟨p6, n6, c6, rfl, R6⟩))
  have HB11 : Hid (Below W2.heap.size W2 w11) := (unhide HB10).trans (R6.bel.mono (unhide HB10).size)
  have d7 := same_any (c1 := c5) (c2 := c6) (unhide HR5).len R6.len (((unhide HR5).below R6.bel).lies kI_ok) (R6.lies kI_ok) (by have := (unhide HR5).len; have := unhide HLQ; omega) (by have := R6.len; have := unhide HLQ; omega)
  rw [decide_eq_true rfl] at d7
  have D7 := hide d7
  clear R6 d6 l6 d7
  go_upto_region 15 with (first | (go_at_call 9; refine (unhide D7).mono ?_; rintro e w12 ⟨rfl, hw12⟩))
  have HB12 : Hid (Below W2.heap.size W2 w12) := (unhide HB11).trans (hw12.mono (unhide HB11).size)
  have l8 := unhide HL0 _ (unhide HB12)
  have d8 := hide (unhide DW _ (unhide HB12))
  clear hw12 D7 HR5
  go_wp2_with (first | (go_at_call 10; refine (unhide d8).mono ?_; rintro e w13 ⟨t, rfl, T13⟩))
  obtain ⟨bp, hbp⟩ : ∃ n, n = w13.heap.size := ⟨_, rfl⟩
  have hqv2 : qV q t = .agg #[.slice t.pN nN t.cN, .int .i64 q.wh, .slice t.pB q.by'.length t.cB, .slice t.pS q.sh.length t.cS, .slice t.pO q.ords.length t.cO, .int .i64 q.lim] := by rw [unhide HN]; rfl
  obtain ⟨X2, hX2⟩ : ∃ X, X = w13.alloc (.cells #[.slice t.pN nN t.cN, .int .i64 q.wh, .slice t.pB q.by'.length t.cB, .slice t.pS q.sh.length t.cS, .slice t.pO q.ords.length t.cO, .int .i64 q.lim] 27) := ⟨_, rfl⟩
  have s3 := run_st32_new (w := w13) (v0 := .slice t.pN nN t.cN) (v1 := .int .i64 q.wh) (v2 := .slice t.pB q.by'.length t.cB) (v3 := .slice t.pS q.sh.length t.cS) (v4 := .slice t.pO q.ords.length t.cO) (v5 := .int .i64 q.lim) (fun u hu => by simp at hu; rcases hu with rfl | rfl | rfl | rfl | rfl | rfl <;> rfl)
  rw [← hX2, ← hbp] at s3
  have HBW : Hid (∀ X, Below W2.heap.size W2 X → Below W.heap.size W X) := fun X h => (unhide HB2).trans (h.mono (unhide HB2).size)
  have HLW : Hid (Lw W X2 q a q.nodes t W.heap.size bp) := by
    have hba : Below w13.heap.size w13 X2 := by rw [hX2]; exact Below.a1 w13 _
    refine ⟨?_, ?_, (T13.up (unhide HBW _ (unhide HB12))).below hba, rfl⟩
    · have h12 := unhide HF0 _ (unhide HB12)
      have hlt2 : W.heap.size < w12.heap.size := (Array.getElem?_eq_some_iff.1 h12).1
      exact (hba.block _ (Nat.lt_of_lt_of_le hlt2 T13.bel.size)).trans ((T13.bel.block _ hlt2).trans h12)
    · rw [hX2, hbp, unhide HN]; exact heap_new _ _
  rw [hqv2]
  clear T13 hqv2 d8 l8
  go_upto_region 16 with fail
  rw [← hbp, s3]
  clear hX2 s3 hbp
  have HQX : Hid (∀ X N, Lw W X q a N t W.heap.size bp → QIn X (q.with N) t) := fun X N h => h.qin (unhide HQ)
  have l9 := (unhide HLW).ld (Below.refl _ X2)
  obtain ⟨e1, e2⟩ := two_checks ((unhide HT).below (unhide HLW).bel) (unhide HQX _ _ (unhide HLW))
  have hwi : q.with q.nodes = q := rfl
  rw [hwi] at l9 e1 e2
  rw [← unhide HCE] at e1 e2
  obtain ⟨qt, hqt⟩ : ∃ v, v = qV q t := ⟨_, rfl⟩
  rw [← hqt] at l9 e1 e2
  have HQTT := hide hqt
  have E1 := hide e1; have E2 := hide e2
  clear e1 e2 hwi hqt
  go_upto_region 17 with (first | (go_at_call 11; refine (unhide E1).mono ?_; rintro e w14 ⟨p7, n7, c7, rfl, R7⟩))
  have l10 : (ld32 (.pointer (some ⟨bp, 0, none⟩))).run Tryz.prog w14 = .ok qt w14 := by rw [unhide HQTT]; exact (unhide HLW).ld R7.bel
  have d9 := hide (unhide E2 _ R7.bel)
  have HL14 := hide ((unhide HLW).keep R7.bel)
  clear R7 E1 E2 l9 HLW
  go_upto_region 18 with (first | (go_at_call 8; refine (unhide d9).mono ?_; rintro e w15 ⟨p8, n8, c8, rfl, R8⟩))
  have HL15 := hide ((unhide HL14).keep R8.bel)
  clear R8 d9 l10 HL14
  go_upto_region 19 with fail
  go_loopw [22] (fun v wr => ∃ (k : Nat) (N : List Nd), k ≤ nN ∧ v = .int .i64 (k : Int) ∧ Hid (Lw W wr q a N t W.heap.size bp)) (fun v _ => nN - (intOf v).toNat)
  case atStart => exact ⟨0, _, by omega, rfl, unhide HL15⟩
  case round =>
    clear HL15
    obtain ⟨k, N, hk, rfl, HL⟩ := hrel
    have cp := (unhide HL).cp0
    rw [← unhide HN] at cp
    by_cases hlt : k < nN
    · have hkN : k < N.length := by rw [(unhide HL).len, ← unhide HN]; exact hlt
      obtain ⟨g, hg, _, _, _⟩ := (unhide HL).tw.n.start (by show 0 < N.length; omega)
      have hnr := (unhide HL).tw.n
      rw [hg] at hnr
      obtain ⟨x, hx⟩ : ∃ x, x = N[k] := ⟨_, rfl⟩
      obtain ⟨c0, f0⟩ := hnr.cell kN_ok (k := k) (j := 0) hkN (v := .int .i64 x.op) (by show ((N[k]).vals)[0]? = _; rw [← hx]; rfl)
      have c0 : wr.cell? ⟨g, k * 6, none⟩ = some (.int .i64 x.op) := c0
      have f0 : wr.frozen? ⟨g, k * 6, none⟩ = false := f0
      have HND : Hid (Lw W (wr.setCell ⟨g, k * 6, none⟩ (.int .i64 17)) q a (N.set k ⟨17, x.left, x.right, x.field, x.num, x.text⟩) t W.heap.size bp) := (unhide HL).node hg hkN (j := 0) (by decide) (by rw [← hx]; rfl)
      rw [hg] at cp
      have hkn : (k : Int) < (nN : Int) := by omega
      clear hnr hx hg
      go_wp2_with fail
      exact ⟨⟨k + 1, _, by omega, by go_num, unhide HND⟩, by simp [intOf]; omega⟩
    · have hkn : nN = k := by omega
      subst hkn
      have hkk : ¬ (nN : Int) < (nN : Int) := by omega
      have l11 := (unhide HL).ld (Below.refl _ wr)
      obtain ⟨e1, e2⟩ := two_checks ((unhide HT).below (unhide HL).bel) (unhide HQX _ _ (unhide HL))
      have hln := chkL_len (unhide HQX _ _ (unhide HL))
      have HLN := hide hln
      obtain ⟨qn, hqn⟩ : ∃ v, v = q.with N := ⟨_, rfl⟩
      rw [← hqn] at l11 e1 e2 HLN
      obtain ⟨ce2, hce2⟩ : ∃ v, v = chkE qn := ⟨_, rfl⟩
      rw [← hce2] at e1 e2
      obtain ⟨qw, hqw⟩ : ∃ v, v = qV qn t := ⟨_, rfl⟩
      rw [← hqw] at l11 e1 e2
      have HQW := hide hqw; have HQN := hide hqn
      have E1 := hide e1; have E2 := hide e2
      clear e1 e2 hqw hqn hce2 hln hk hlt
      go_upto_region 23 with (first | (go_at_call 11; refine (unhide E1).mono ?_; rintro e w16 ⟨p9, n9, c9, rfl, R9⟩))
      have HR9 := hide R9
      have l12 : (ld32 (.pointer (some ⟨bp, 0, none⟩))).run Tryz.prog w16 = .ok qw w16 := by rw [unhide HQW, unhide HQN]; exact (unhide HL).ld R9.bel
      have d10 := hide (unhide E2 _ R9.bel)
      clear R9 E1 E2 l11 cp hkk
      go_upto_region 24 with (first | (go_at_call 8; refine (unhide d10).mono ?_; rintro e w17 ⟨p10, n10, c10, rfl, R10⟩))
      have HB17 : Hid (Below wr.heap.size wr w17) := (unhide HR9).bel.trans (R10.bel.mono (unhide HR9).bel.size)
      have d11 := same_any (c1 := c9) (c2 := c10) (unhide HR9).len R10.len (((unhide HR9).below R10.bel).lies kI_ok) (R10.lies kI_ok) (by have := (unhide HR9).len; have := unhide HLN; omega) (by have := R10.len; have := unhide HLN; omega)
      rw [decide_eq_true rfl] at d11
      have D11 := hide d11
      have e55 := eq55 ce
      have e56 := eq55 ce2
      clear R10 d10 l12 d11
      go_wp2_with (first | (go_at_call 9; refine (unhide D11).mono ?_; rintro e w18 ⟨rfl, hw18⟩))
      have HFI : Hid (Below W.heap.size W w18) := (unhide HL).bel.trans (((unhide HB17).trans (hw18.mono (unhide HB17).size)).mono (unhide HL).bel.size)
      go_ret
      exact ⟨rfl, unhide HFI⟩
end Go.Proofs.YtfpbljfebjochaaGreatDoor
