import Derived.Test.YtmgnlgobkkfjhaaGreatDoorW28
import Derived.Test.YtmgnlgobkkfjhaaGreatDoorW09
import Derived.Test.YtmgnlgobkkfjhaaGreatDoorW29
import Derived.Test.YtmgnlgobkkfjhaaGreatDoorW30
import Derived.Test.YtmgnlgobkkfjhaaGreatDoorW20
import Derived.Test.YtmgnlgobkkfjhaaGreatDoorW19
import Derived.OwnWalk
import Derived.Test.YtmgnlgobkkfjhaaGreatDoorW24
/- daily: looks (13). -/
namespace Go.Proofs.YtmgnlgobkkfjhaaGreatDoor.Kg
open Go Go.RowKit Go.Shelf Go.ChangeShapes Go.WideShapes Go.ChangeAt Go.Maps
set_option linter.unusedVariables false
set_option linter.unusedSimpArgs false
set_option maxRecDepth 100000
set_option maxHeartbeats 8000000
/-- where looks stands: two views, the book, the pair of pointers and the act in boxes of their own -/
structure LkAt (w : World) (d r : Nat) (F : Nat → Prop) (R : List Ro) (bk b0 : Nat) (a : ActV) (U U' : Nat → Prop) (W : World) : Prop where
  tw : Tw W d r F R
  kb : KB W bk U'
  sep : Sep w W (fun q => q = bk ∨ U q) (fun q => q = bk ∨ U' q)
  bx : W.heap[b0]? = some (.cells #[.pointer (some ⟨d, 0, none⟩), .pointer (some ⟨r, 0, none⟩)] 42 (0, 0))
  by' : W.heap[b0 + 1]? = some (.cells a.arr 68 (0, 0))
  ap : ∀ q, F q → q ≠ bk ∧ ¬ U' q
  ab : b0 ≠ bk ∧ ¬ U' b0
  ac : b0 + 1 ≠ bk ∧ ¬ U' (b0 + 1)
  lt : ∀ q, F q → q < w.heap.size
  eb : w.heap.size ≤ b0
section
variable {w : World} {d r : Nat} {F : Nat → Prop} {R : List Ro} {bk b0 : Nat} {a : ActV} {U U' : Nat → Prop} {W : World}
theorem LkAt.blt (h : LkAt w d r F R bk b0 a U U' W) : b0 + 1 < W.heap.size := (Array.getElem?_eq_some_iff.1 h.by').1
theorem LkAt.below {W' : World} (h : LkAt w d r F R bk b0 a U U' W) (hb : Below W.heap.size W W') : LkAt w d r F R bk b0 a U U' W' :=
  ⟨h.tw.below hb, h.kb.below hb, ⟨hb.os.trans h.sep.os, hb.tape.trans h.sep.tape, hb.output.trans h.sep.output, Nat.le_trans h.sep.size hb.size, fun q hq hn => (hb.block q (Nat.lt_of_lt_of_le hq h.sep.size)).trans (h.sep.block q hq hn), h.sep.new⟩, (hb.block b0 (by have := h.blt; omega)).trans h.bx, (hb.block (b0 + 1) h.blt).trans h.by', h.ap, h.ab, h.ac, h.lt, h.eb⟩
theorem LkAt.c0 (h : LkAt w d r F R bk b0 a U U' W) : W.cell? ⟨b0, 0, none⟩ = some (.pointer (some ⟨d, 0, none⟩)) := by rw [cell_at h.bx]; rfl
theorem LkAt.c1 (h : LkAt w d r F R bk b0 a U U' W) : W.cell? ⟨b0, 1, none⟩ = some (.pointer (some ⟨r, 0, none⟩)) := by rw [cell_at h.bx]; rfl
theorem LkAt.a2 (h : LkAt w d r F R bk b0 a U U' W) : W.cell? ⟨b0 + 1, 2, none⟩ = some (.string a.nm) := by rw [cell_at h.by']; rfl
theorem LkAt.a3 (h : LkAt w d r F R bk b0 a U U' W) : W.cell? ⟨b0 + 1, 3, none⟩ = some (.int .i64 a.fr) := by rw [cell_at h.by']; rfl
theorem LkAt.a4 (h : LkAt w d r F R bk b0 a U U' W) : W.cell? ⟨b0 + 1, 4, none⟩ = some (.int .i64 a.tt) := by rw [cell_at h.by']; rfl
theorem LkAt.took {W' : World} {U'' : Nat → Prop} {L : Value} (h : LkAt w d r F R bk b0 a U U' W) (hk : KB W' bk U'') (ht : Took W W' bk U' U'' L) (hL : ∀ q, L.ownBlock = some q → w.heap.size ≤ q ∧ q ≠ b0 ∧ q ≠ b0 + 1) : LkAt w d r F R bk b0 a U U'' W' := by
  have hF : ∀ q, F q → L.ownBlock ≠ some q := fun q hq e => by have := (hL q e).1; have := h.lt q hq; omega
  have hbl : ∀ q, F q → W'.heap[q]? = W.heap[q]? := fun q hq => ht.block q (h.tw.lt q hq) (h.ap q hq).1 (h.ap q hq).2 (hF q hq)
  have hblt := h.blt
  refine ⟨h.tw.keep ht.size hbl, hk, ⟨ht.os.trans h.sep.os, ht.tape.trans h.sep.tape, ht.output.trans h.sep.output, Nat.le_trans h.sep.size ht.size, fun q hq hn => ?_, fun q hq => ?_⟩, ?_, ?_, fun q hq => ⟨(h.ap q hq).1, fun hu => ?_⟩, ⟨h.ab.1, fun hu => ?_⟩, ⟨h.ac.1, fun hu => ?_⟩, h.lt, h.eb⟩
  · refine (ht.block q (Nat.lt_of_lt_of_le hq h.sep.size) (fun e => hn (.inl e)) (fun hu => ?_) (fun e => by have := (hL q e).1; omega)).trans (h.sep.block q hq hn)
    rcases h.sep.new q (.inr hu) with h' | h'
    · exact hn h'
    · omega
  · rcases hq with hq | hq
    · exact .inl (.inl hq)
    · rcases ht.new q hq with h' | h' | h'
      · exact h.sep.new q (.inr h')
      · exact .inr (hL q h').1
      · exact .inr (Nat.le_trans h.sep.size h')
  · exact (ht.block b0 (by omega) h.ab.1 h.ab.2 (fun e => (hL b0 e).2.1 rfl)).trans h.bx
  · exact (ht.block (b0 + 1) hblt h.ac.1 h.ac.2 (fun e => (hL (b0 + 1) e).2.2 rfl)).trans h.by'
  · rcases ht.new q hu with h' | h' | h'
    · exact (h.ap q hq).2 h'
    · exact hF q hq h'
    · have := h.tw.lt q hq; omega
  · rcases ht.new b0 hu with h' | h' | h'
    · exact h.ab.2 h'
    · exact (hL b0 h').2.1 rfl
    · omega
  · rcases ht.new (b0 + 1) hu with h' | h' | h'
    · exact h.ac.2 h'
    · exact (hL (b0 + 1) h').2.2 rfl
    · omega
def LkOut (w : World) (bk : Nat) (U : Nat → Prop) (e : Ending) (w' : World) : Prop := e = .returned (.bool true) ∧ ∃ U', KB w' bk U' ∧ Sep w w' (fun q => q = bk ∨ U q) (fun q => q = bk ∨ U' q)
theorem looks_any (hT : Tw w d r F R) (hl : mz R ≤ 1048576) (hK : KB w bk U) (hap : ∀ q, F q → q ≠ bk ∧ ¬ U q) (a : ActV) (hs : a.nm.size ≤ 1048576) :
    Calls Tryz.prog 13 #[.agg #[.pointer (some ⟨d, 0, none⟩), .pointer (some ⟨r, 0, none⟩)], .agg #[.int .i64 a.who, .slice a.p a.R.length a.c, .string a.nm, .int .i64 a.fr, .int .i64 a.tt], .pointer (some ⟨bk, 0, none⟩)] w fun e w' => LkOut w bk U e w' := by
  obtain ⟨W0, hW0⟩ : ∃ W0, W0 = (w.alloc (.cells #[.pointer (some ⟨d, 0, none⟩), .pointer (some ⟨r, 0, none⟩)] 42)).alloc (.cells #[.int .i64 a.who, .slice a.p a.R.length a.c, .string a.nm, .int .i64 a.fr, .int .i64 a.tt] 68) := ⟨_, rfl⟩
  obtain ⟨b0, hb0⟩ : ∃ b0, b0 = w.heap.size := ⟨_, rfl⟩
  have hA0 : LkAt w d r F R bk b0 a U U W0 := by
    have hb : Below w.heap.size w W0 := by rw [hW0]; exact bal (bal (Below.refl _ _) _) _
    have hbk := hK.lt
    refine ⟨hT.below hb, hK.below hb, ⟨hb.os, hb.tape, hb.output, hb.size, fun q hq _ => hb.block q hq, fun q hq => .inl hq⟩, ?_, ?_, hap, ⟨by omega, fun hu => ?_⟩, ⟨by omega, fun hu => ?_⟩, hT.lt, by omega⟩
    · rw [hW0, hb0, Below.heap_alloc _ _ _ (by simp)]; exact heap_new _ _
    · rw [hW0, hb0]
      have := heap_new (w.alloc (.cells #[.pointer (some ⟨d, 0, none⟩), .pointer (some ⟨r, 0, none⟩)] 42)) (.cells #[.int .i64 a.who, .slice a.p a.R.length a.c, .string a.nm, .int .i64 a.fr, .int .i64 a.tt] 68)
      rw [World.size_alloc] at this
      exact this
    · have := (hK.ul b0 hu).2.2; omega
    · have := (hK.ul (b0 + 1) hu).2.2; omega
  obtain ⟨nm, hnm⟩ : ∃ x, x = a.nm := ⟨_, rfl⟩
  obtain ⟨fr, hfr⟩ : ∃ x, x = a.fr := ⟨_, rfl⟩
  obtain ⟨tt, htt⟩ : ∃ x, x = a.tt := ⟨_, rfl⟩
  have HBOX : Hid (∀ W' U', LkAt w d r F R bk b0 a U U' W' → W'.cell? ⟨b0, 0, none⟩ = some (.pointer (some ⟨d, 0, none⟩)) ∧ W'.cell? ⟨b0, 1, none⟩ = some (.pointer (some ⟨r, 0, none⟩)) ∧ W'.cell? ⟨b0 + 1, 2, none⟩ = some (.string nm) ∧ W'.cell? ⟨b0 + 1, 3, none⟩ = some (.int .i64 fr) ∧ W'.cell? ⟨b0 + 1, 4, none⟩ = some (.int .i64 tt)) := fun W' U' h => by
    rw [hnm, hfr, htt]; exact ⟨h.c0, h.c1, h.a2, h.a3, h.a4⟩
  rw [← hnm] at hs
  rw [← hnm, ← hfr, ← htt] at hW0 ⊢
  obtain ⟨fB, hfB⟩ : ∃ f : Int → Int, f = fun x => blc (tol R nm.data.toList) x := ⟨_, rfl⟩
  have x0 : ∀ P : Bel W0, P.W.cell? ⟨b0, 0, none⟩ = some (.pointer (some ⟨d, 0, none⟩)) := fun P => (unhide HBOX P.W U (hA0.below P.h)).1
  have x1 : ∀ P : Bel W0, P.W.cell? ⟨b0, 1, none⟩ = some (.pointer (some ⟨r, 0, none⟩)) := fun P => (unhide HBOX P.W U (hA0.below P.h)).2.1
  have x2 : ∀ P : Bel W0, P.W.cell? ⟨b0 + 1, 2, none⟩ = some (.string nm) := fun P => (unhide HBOX P.W U (hA0.below P.h)).2.2.1
  have x3 : ∀ P : Bel W0, P.W.cell? ⟨b0 + 1, 3, none⟩ = some (.int .i64 fr) := fun P => (unhide HBOX P.W U (hA0.below P.h)).2.2.2.1
  have x4 : ∀ P : Bel W0, P.W.cell? ⟨b0 + 1, 4, none⟩ = some (.int .i64 tt) := fun P => (unhide HBOX P.W U (hA0.below P.h)).2.2.2.2
  have H24 : Hid (∀ (P : Bel W0) (x : Int), Calls Tryz.prog 24 #[.pointer (some ⟨d, 0, none⟩), .string nm, .int .i64 x] P.W fun e w'' => e = .returned (.int .i64 (fB x)) ∧ ∃ q : Bel W0, w'' = q.W) := fun P x => by rw [hfB]; exact belCalls P ((hA0.below P.h).tw.t24 hl nm hs x)
  have H25 : Hid (∀ (P : Bel W0) (x : Int), Calls Tryz.prog 25 #[.pointer (some ⟨r, 0, none⟩), .string nm, .int .i64 x] P.W fun e w'' => e = .returned (.int .i64 (fB x)) ∧ ∃ q : Bel W0, w'' = q.W) := fun P x => by rw [hfB]; exact belCalls P ((hA0.below P.h).tw.t25 nm x)
  have HA0 := hide hA0; have HL := hide hl
  clear hfB hA0 hT hK hap hl hnm hfr htt
  go_enter Tryz.func13, Tryz.ntmps13
  go_upto_region 1 with fail
  rw [← hW0]
  rw [← hb0]
  clear hW0 hb0
  refine wp_region_quiet_below (by kernel_rfl) (by kernel_rfl) ?_
  repeat (go_big_quiet_step (first | (go_at_call 24; refine unhide H24 _ _) | (go_at_call 25; refine unhide H25 _ _)))
  refine wpQuiet_nil ?_
  rintro _ ⟨P, rfl⟩
  have HA3 := hide ((unhide HA0).below P.h)
  obtain ⟨w3, hw3⟩ : ∃ w3, w3 = P.W := ⟨_, rfl⟩
  rw [← hw3] at HA3 ⊢
  clear hw3 P x0 x1 x2 x3 x4 H24 H25 HA0 W0
  obtain ⟨T, hT⟩ : ∃ T, T = stR R := ⟨_, rfl⟩
  obtain ⟨M, hM⟩ : ∃ M, M = btR R nm fr tt := ⟨_, rfl⟩
  obtain ⟨t, ht⟩ : ∃ t, t = T.length := ⟨_, rfl⟩
  obtain ⟨m, hm⟩ : ∃ m, m = M.length := ⟨_, rfl⟩
  have HT := hide hT; have HM := hide hM; have HTL := hide ht; have HML := hide hm
  clear hT hM ht hm
  go_upto_region 4 with fail
  go_loopw [7] (fun v7 wr => ∃ (k : Nat), v7 = .int .i64 k ∧ k ≤ 2 ∧ Hid (∃ U', LkAt w d r F R bk b0 a U U' wr)) (fun v7 _ => 2 - (intOf v7).toNat)
  case atStart => exact ⟨0, rfl, by omega, _, unhide HA3⟩
  case round =>
    clear HA3
    obtain ⟨k, rfl, hk, hrel⟩ := hrel
    obtain ⟨U1, hA⟩ := unhide hrel
    by_cases hk2 : k < 2
    · have hkI : (k : Int) < 2 := by omega
      obtain ⟨c0, _⟩ := unhide HBOX wr U1 hA
      have d18 := hide (hA.tw.t18 (unhide HL))
      rw [← unhide HT, ← unhide HTL] at d18
      have HA := hide hA
      clear hA hrel
      go_upto_region 7 with (first | (go_at_call 18; refine (unhide d18).mono ?_; rintro e w4 ⟨p4, c4, rfl, hm4, hle4⟩))
      have hA4 := (unhide HA).below hm4.bel
      have d26 := hide (hA4.tw.t26 (unhide HL) nm hs fr tt)
      rw [← unhide HM, ← unhide HML] at d26
      have HM4 := hide hm4; have HA4 := hide hA4; have HLE4 := hide hle4
      obtain ⟨e0, _, e2, e3, e4⟩ := unhide HBOX w4 U1 hA4
      clear hA4 hm4 hle4 d18 c0
      go_upto_region 8 with (first | (go_at_call 26; refine (unhide d26).mono ?_; rintro e w5 ⟨p5, c5, rfl, hm5, hle5⟩))
      have hA5 := (unhide HA4).below hm5.bel
      have d20 := hide (hA5.tw.t20)
      rw [← unhide HT, ← unhide HTL] at d20
      have HM5 := hide hm5; have HA5 := hide hA5; have HLE5 := hide hle5
      obtain ⟨_, c5', _⟩ := unhide HBOX w5 U1 hA5
      clear hA5 hm5 hle5 d26 e0 e2 e3 e4
      have H31 : Hid (∀ (w6 : World) (p6 : Option Addr) (c6 : Nat), Ml kQ w5 w6 (.slice p6 t c6) T → Calls Tryz.prog 27 #[.slice p4 t c4, .slice p6 t c6] w6 fun e w' => e = .returned (.bool true) ∧ ∃ m, w' = w6.drewN m) := fun w6 p6 c6 h6 => by
        have h4 : Ml kQ wr w6 (.slice p4 t c4) T := ((unhide HM4).below (unhide HM5).bel).below h6.bel
        have e4 := h4.row; have e6 := h6.row
        rw [← unhide HTL] at e4 e6
        have := same27 (c1 := c4) (c2 := c6) (own_lies kQ_ok (unhide HTL).symm e4) (own_lies kQ_ok (unhide HTL).symm e6) (by rw [← unhide HTL]; have := unhide HLE4; omega)
        rw [← unhide HTL] at this
        exact this
      go_upto_region 9 with (first | (go_at_call 20; refine (unhide d20).mono ?_; rintro e w6 ⟨p6, c6, rfl, hm6⟩; have HM6 := hide hm6; have h31 := hide (unhide H31 w6 p6 c6 hm6); clear hm6) | (go_at_call 27; refine (unhide h31).mono ?_; rintro e w7 ⟨rfl, z7, hw7⟩; have HW7 := hide hw7; clear hw7))
      have hb7 : Below w5.heap.size w5 w7 := by rw [unhide HW7]; exact below_drewN (unhide HM6).bel z7
      clear HW7 h31 HM6 H31 d20 c5'
      have hA7 := (unhide HA5).below hb7
      have d28 := hide (hA7.tw.t28 nm fr tt)
      rw [← unhide HM, ← unhide HML] at d28
      have HA7 := hide hA7
      obtain ⟨_, f1, f2, f3, f4⟩ := unhide HBOX w7 U1 hA7
      have HM57 := hide ((unhide HM5).below hb7)
      have HM47 := hide (((unhide HM4).below (unhide HM5).bel).below hb7)
      have HZ57 := hide hb7.size
      clear hA7 hb7 HA5
      have H32 : Hid (∀ (w8 : World) (p8 : Option Addr) (c8 : Nat), Ml kQ w7 w8 (.slice p8 m c8) M → Calls Tryz.prog 27 #[.slice p5 m c5, .slice p8 m c8] w8 fun e w' => e = .returned (.bool true) ∧ ∃ m, w' = w8.drewN m) := fun w8 p8 c8 h8 => by
        have h5 : Ml kQ w4 w8 (.slice p5 m c5) M := (unhide HM57).below h8.bel
        have e5 := h5.row; have e8 := h8.row
        rw [← unhide HML] at e5 e8
        have := same27 (c1 := c5) (c2 := c8) (own_lies kQ_ok (unhide HML).symm e5) (own_lies kQ_ok (unhide HML).symm e8) (by rw [← unhide HML]; have := unhide HLE5; omega)
        rw [← unhide HML] at this
        exact this
      go_upto_region 10 with (first | (go_at_call 28; refine (unhide d28).mono ?_; rintro e w8 ⟨p8, c8, rfl, hm8⟩; have HM8 := hide hm8; have h32 := hide (unhide H32 w8 p8 c8 hm8); clear hm8) | (go_at_call 27; refine (unhide h32).mono ?_; rintro e w9 ⟨rfl, z9, hw9⟩; have HW9 := hide hw9; clear hw9))
      have hb9 : Below w7.heap.size w7 w9 := by rw [unhide HW9]; exact below_drewN (unhide HM8).bel z9
      have hA9 := (unhide HA7).below hb9
      have hL9 : Ml kQ wr w9 (.slice p4 t c4) T := (unhide HM47).below hb9
      have hC9 : Ml kQ w4 w9 (.slice p5 m c5) M := (unhide HM57).below hb9
      have hLb : ∀ q, (Value.slice p4 t c4).ownBlock = some q → wr.heap.size ≤ q ∧ q < w4.heap.size := fun q hq => ⟨(row_block (unhide HM4).row hq).1, (row_block (unhide HM4).row hq).2.1⟩
      have hCb : ∀ q, (Value.slice p5 m c5).ownBlock = some q → w4.heap.size ≤ q ∧ q < w5.heap.size := fun q hq => ⟨(row_block (unhide HM5).row hq).1, (row_block (unhide HM5).row hq).2.1⟩
      have hwr : b0 + 1 < wr.heap.size := (unhide HA).blt
      have hU1 : ∀ q, U1 q → q < wr.heap.size := fun q hq => ((unhide HA).kb.ul q hq).2.2
      have hbkl : bk < wr.heap.size := (unhide HA).kb.lt
      have hsz0 := (unhide HA).sep.size
      have hsz4 := (unhide HM4).bel.size
      have h2w : 2 ≤ wr.heap.size := by
        have h1 := (unhide HA).kb.tab.lt
        omega
      have rowL : w9.ownsRow 0 kQ.e kQ.s (.slice p4 t c4) t (kQ.flat T) := by have h := hL9.row; rw [← unhide HTL] at h; exact row_le h (Nat.zero_le _)
      have hLu : ∀ q, (Value.slice p4 t c4).ownBlock = some q → q ≠ bk ∧ 2 ≤ q ∧ ¬ U1 q := fun q hq => by
        have := hLb q hq
        exact ⟨by omega, by omega, fun hu => by have := hU1 q hu; omega⟩
      have hLn : ∀ q, (Value.slice p4 t c4).ownBlock = some q → w.heap.size ≤ q ∧ q ≠ b0 ∧ q ≠ b0 + 1 := fun q hq => by
        have := hLb q hq
        exact ⟨by omega, by omega, by omega⟩
      have hle4 := unhide HLE4
      have hle5 := unhide HLE5
      -- behind the first call: the second one
      have step : ∀ (w' : World) (U2 : Nat → Prop), KB w' bk U2 → Took w9 w' bk U1 U2 (.slice p4 t c4) → LkAt w d r F R bk b0 a U U2 w' ∧ w'.ownsRow 0 kQ.e kQ.s (.slice p5 m c5) m (kQ.flat M) ∧ (∀ q, (Value.slice p5 m c5).ownBlock = some q → q ≠ bk ∧ 2 ≤ q ∧ ¬ U2 q) ∧ (∀ q, (Value.slice p5 m c5).ownBlock = some q → w.heap.size ≤ q ∧ q ≠ b0 ∧ q ≠ b0 + 1) := fun w' U2 hk2 ht2 => by
        have hz9 : w5.heap.size ≤ w9.heap.size := Nat.le_trans (unhide HZ57) hb9.size
        refine ⟨hA9.took hk2 ht2 hLn, ?_, fun q hq => ?_, fun q hq => ?_⟩
        · have h := hC9.row
          rw [← unhide HML] at h
          refine row_le (row_keep h (fun q hq => ?_)) (Nat.zero_le _)
          have hq' := hCb q hq
          exact ht2.block q (by omega) (by omega) (fun hu => by have := hU1 q hu; omega) (fun e => by have := hLb q e; omega)
        · have hq' := hCb q hq
          refine ⟨by omega, by omega, fun hu => ?_⟩
          rcases ht2.new q hu with h' | h' | h'
          · have := hU1 q h'; omega
          · have := hLb q h'; omega
          · omega
        · have hq' := hCb q hq
          exact ⟨by omega, by omega, by omega⟩
      have HSTEP := hide step; have HA9 := hide hA9; have HROW := hide rowL; have HLU := hide hLu; have HK9 := hide hA9.kb
      have d29 := hide (hA9.kb.keep (unhide HTL).symm rowL hle4 hLu)
      have d30 := hide (hA9.kb.write (unhide HTL).symm rowL hle4 hLu)
      clear HW9 h32 HM8 H32 d28 f1 f2 f3 f4 hb9 hA9 hL9 hC9 hLb hCb hwr hU1 hbkl hsz0 hsz4 h2w rowL hLu hLn hle4 step HA7 HM47 HM57 HM4 HM5 HA4 HLE4 HLE5 HA
      by_cases hk0 : k = 0
      · subst hk0
        go_upto_region 14 with (first | (go_at_call 29; refine (unhide d29).mono ?_; rintro e w10 ⟨rfl, U2, hk10, ht10⟩))
        obtain ⟨hA10, hr10, hu10, hn10⟩ := unhide HSTEP w10 U2 hk10 ht10
        have d29' := hide (hk10.keep (unhide HML).symm hr10 hle5 hu10)
        have HN := hide hn10; have HA10 := hide hA10
        clear hA10 hr10 hu10 hn10 hk10 ht10 d29
        go_wp2_with (first | (go_at_call 29; refine (unhide d29').mono ?_; rintro e w11 ⟨rfl, U3, hk11, ht11⟩; have HFIN : Hid (∃ U', LkAt w d r F R bk b0 a U U' w11) := ⟨U3, (unhide HA10).took hk11 ht11 (unhide HN)⟩; clear hk11 ht11))
        exact ⟨⟨0 + 1, by go_num, by omega, HFIN⟩, by simp [intOf]⟩
      · have hk1 : k = 1 := by omega
        subst hk1
        go_upto_region 16 with (first | (go_at_call 30; refine (unhide d30).mono ?_; rintro e w10 ⟨rfl, U2, hk10, ht10⟩))
        obtain ⟨hA10, hr10, hu10, hn10⟩ := unhide HSTEP w10 U2 hk10 ht10
        have d30' := hide (hk10.write (unhide HML).symm hr10 hle5 hu10)
        have HN := hide hn10; have HA10 := hide hA10
        clear hA10 hr10 hu10 hn10 hk10 ht10 d30
        go_wp2_with (first | (go_at_call 30; refine (unhide d30').mono ?_; rintro e w11 ⟨rfl, U3, hk11, ht11⟩; have HFIN : Hid (∃ U', LkAt w d r F R bk b0 a U U' w11) := ⟨U3, (unhide HA10).took hk11 ht11 (unhide HN)⟩; clear hk11 ht11))
        exact ⟨⟨1 + 1, by go_num, by omega, HFIN⟩, by simp [intOf]⟩
    · have hkI : ¬ (k : Int) < 2 := by omega
      have d31 := hide hA.kb.intact
      have HA := hide hA
      clear hA hrel
      go_wp2_with (first | (go_at_call 31; refine (unhide d31).mono ?_; rintro e w4 ⟨rfl, hb4⟩))
      have HO : Hid (LkOut w bk U (.returned (.bool true)) w4) := ⟨rfl, U1, (unhide HA).kb.below hb4, ((unhide HA).below hb4).sep⟩
      clear hb4
      go_wp2_with fail
      go_ret
      exact unhide HO
end
end Go.Proofs.YtmgnlgobkkfjhaaGreatDoor.Kg
/- daily: the rows that From makes. -/
namespace Go.Proofs.YtmgnlgobkkfjhaaGreatDoor
open Go Go.Shelf Go.ChangeShapes Go.WideShapes Go.ChangeAt Go.RowKit Go.Maps Go.Sort
set_option linter.unusedVariables false
def s24 (x y : Value) : Sem Unit := Instr.storeAt 74 x y
theorem s24_is (x y : Value) : Instr.storeAt 74 x y = s24 x y := rfl
attribute [local go_sem ↓] s24_is
theorem below_sets {B : Nat} {a : World} (b : Nat) (hb : B ≤ b) : ∀ (vs : List Value) (o : Nat) {w : World}, Below B a w → Below B a (w.setCells b o vs)
  | [], _, _, h => h
  | v :: r, o, _, h => below_sets b hb r (o + 1) (h.setCell (p := ⟨b, o, none⟩) hb v)
theorem size_sets (b : Nat) : ∀ (vs : List Value) (o : Nat) (w : World), (w.setCells b o vs).heap.size = w.heap.size
  | [], _, _ => rfl
  | v :: r, o, w => (size_sets b r (o + 1) _).trans (by simp)
/-- the rows that From makes, i of them written -/
structure Mk9 (w W : World) (g n : Nat) (R : List Ro) (i : Nat) : Prop where
  at' : ∀ k (hk : k < R.length), k < i → W.rangeAt g (k * 9) R[k].vals
  th : W.there g 0 (n * 9)
  lt : g < W.heap.size
  bel : Below w.heap.size w W
theorem Mk9.below {w W W' : World} {g n : Nat} {R : List Ro} {i : Nat} (h : Mk9 w W g n R i) (hb : Below W.heap.size W W') : Mk9 w W' g n R i where
  at' k hk hi j u hu := (hb.cell (p := ⟨g, k * 9 + j, none⟩) h.lt).trans (h.at' k hk hi j u hu)
  th j hj := by
    have := h.th j hj
    rw [hb.cell (p := ⟨g, 0 + j, none⟩) h.lt, hb.frozen (p := ⟨g, 0 + j, none⟩) h.lt]
    exact this
  lt := Nat.lt_of_lt_of_le h.lt hb.size
  bel := h.bel.trans (hb.mono h.bel.size)
theorem Mk9.put {w W : World} {g n : Nat} {R : List Ro} {i : Nat} (hg : w.heap.size ≤ g) (h : Mk9 w W g n R i) (hn : R.length = n) (hi : i < R.length) : Mk9 w (W.setCells g (i * 9) R[i].vals) g n R (i + 1) where
  at' k hk hi' := by
    by_cases e : k = i
    · subst e
      exact World.rangeAt_setCells_same W g (k * 9) _ (fun j hj => by
        have h1 := h.th (k * 9 + j) (by have : j < 9 := hj; omega)
        rw [Nat.zero_add] at h1
        exact h1)
    · exact World.rangeAt_setCells_apart (h.at' k hk (by omega)) g (i * 9) _ (.inr (.inl (by have : R[i].vals.length = 9 := rfl; have : R[k].vals.length = 9 := rfl; omega)))
  th := World.there_setCells h.th g (i * 9) _
  lt := by rw [size_sets]; exact h.lt
  bel := below_sets g hg _ _ h.bel
theorem run_s24 {W : World} {g n i : Nat} (h : W.there g 0 (n * 9)) (hi : i < n) (s : ByteArray) (D F : Int) : (s24 (.pointer (some ⟨g, i * 9, none⟩)) (.agg #[.int .i64 0, .int .i64 0, .int .i64 D, .int .i64 0, .string ⟨#[]⟩, .string s, .int .i64 F, .string ⟨#[]⟩, .string ⟨#[]⟩])).run Tryz.prog W = .ok () (W.setCells g (i * 9) [.int .i64 0, .int .i64 0, .int .i64 D, .int .i64 0, .string ⟨#[]⟩, .string s, .int .i64 F, .string ⟨#[]⟩, .string ⟨#[]⟩]) :=
  run_storeAt_mid (P := Tryz.prog) W g (i * 9) 74 #[.int .i64 0, .int .i64 0, .int .i64 D, .int .i64 0, .string ⟨#[]⟩, .string s, .int .i64 F, .string ⟨#[]⟩, .string ⟨#[]⟩] (fun j hj => by
    have h1 := h (i * 9 + j) (by simp at hj; omega)
    rw [Nat.zero_add] at h1
    exact h1) size24 (by simp [Value.oneCell'])
theorem Mk9.first {w W : World} {n : Nat} {R : List Ro} {xs : List Value} (hr : W.ownsRow w.heap.size 74 9 (.slice (some ⟨w.heap.size, 0, none⟩) n n) n xs) (hg : w.grownBy W none) : Mk9 w W w.heap.size n R 0 where
  at' k hk h := by omega
  th j hj := by
    rcases hr.2 with ⟨e, _⟩ | ⟨g, cap, cur, e, hB, hh, hc, hm, hcs, ht⟩
    · cases e
    · injection e with e1 e2 e3
      injection e1 with e1
      injection e1 with e1
      subst e1
      rw [Nat.zero_add]
      unfold World.cell? World.frozen?
      simp only [hh]
      have : j < cur.size := by rw [hcs, ← e3]; exact hj
      simp [this]
  lt := by
    rcases hr.2 with ⟨e, _⟩ | ⟨g, cap, cur, e, hB, hh, hc, hm, hcs, ht⟩
    · cases e
    · injection e with e1 e2 e3
      injection e1 with e1
      injection e1 with e1
      subst e1
      exact (Array.getElem?_eq_some_iff.1 hh).1
  bel := below_of_grown hg
end Go.Proofs.YtmgnlgobkkfjhaaGreatDoor
/- The program's daily: From (7) of any list. -/
namespace Go.Proofs.YtmgnlgobkkfjhaaGreatDoor.Kg
open Go Go.RowKit Go.Shelf Go.ChangeShapes Go.WideShapes Go.ChangeAt Go.Maps
set_option linter.unusedVariables false
set_option linter.unusedSimpArgs false
set_option maxRecDepth 100000
set_option maxHeartbeats 8000000
attribute [local go_sem ↓] ld44_is s24_is
/-- what From answers -/
def POut (W : World) (X : List Dq) (e : Ending) (w' : World) : Prop :=
  Below W.heap.size W w' ∧ ((¬ Good X ∧ e = .returned (.tuple #[.pointer none, .int .i64 80])) ∨ (Good X ∧ ∃ d Q, e = .returned (.tuple #[.pointer (some ⟨d, 0, none⟩), .int .i64 0]) ∧ Vq w' d Q (X.map qR) ∧ ∀ q, Q q → W.heap.size ≤ q))
theorem pfrom_any {W : World} {p : Option Addr} {c : Nat} {X : List Dq} (hL : Lies kQ W p X) (hS : SmQ X) :
    Calls Tryz.prog 7 #[.slice p X.length c] W fun e w' => POut W X e w' := by
  obtain ⟨n, hn⟩ : ∃ n, n = X.length := ⟨_, rfl⟩
  have hnb : n ≤ 1000000 := by have := hS.few; omega
  obtain ⟨R, hR⟩ : ∃ R, R = X.map qR := ⟨_, rfl⟩
  have hRl : R.length = n := by rw [hR, List.length_map, hn]
  obtain ⟨i0, z0, hi0, hz0, hz1, hz2, _⟩ := kR_ok.info
  have hby : Hid (i0.bytes * n ≤ 281474976710656) := by show _ ≤ _; rw [hz2]; show 104 * n ≤ _; omega
  have hml : Hid (n ≤ maxLen) := by show _ ≤ _; unfold maxLen; omega
  have HN := hide hn; have HL := hide hL; have HS := hide hS; have HR := hide hR; have HRL := hide hRl; have HI := hide hi0; have HZ0 := hide hz0; have HZ1 := hide hz1
  rw [← hn]
  clear hn hL hS hR hRl hi0 hz0 hz1 hz2
  go_enter Tryz.func7, Tryz.ntmps7
  go_wp2_with (at_make; refine wpList_make_full _ rfl _ _ 66 rfl W.heap.size 74 i0 _ 9 Tryz.underlying66 (unhide HI) (unhide HZ0) (unhide HZ1) .i64 .i64 _ _ n rfl rfl rfl rfl (unhide hby) (unhide hml) (Nat.le_refl _) ?_; intro w0 hown0 hgrow0)
  have hM0 : Hid (Mk9 W w0 W.heap.size n R 0) := Mk9.first hown0 hgrow0
  clear hown0 hgrow0
  go_loopw [13] (fun v13 wr => ∃ (i : Nat), v13 = .int .i64 i ∧ i ≤ n ∧ Hid (Mk9 W wr W.heap.size n R i)) (fun v13 _ => n - (intOf v13).toNat)
  case atStart => exact ⟨0, rfl, by omega, hM0⟩
  case round =>
    obtain ⟨i, rfl, hi, hrel⟩ := hrel
    by_cases hlt : i < n
    · have hiX : i < X.length := by rw [← unhide HN]; exact hlt
      have hiR : i < R.length := by rw [unhide HRL]; exact hlt
      have hM := unhide hrel
      obtain ⟨b, off, e, hbl, hr⟩ := ((unhide HL).below hM.bel).2 i hiX
      obtain ⟨x, hx⟩ : ∃ x, x = X[i] := ⟨_, rfl⟩
      rw [← hx] at hr
      have hld : (ld44 (.pointer (some ⟨b, off + i * 4, none⟩))).run Tryz.prog wr = .ok (.agg #[.string x.acc, .int .i64 x.day, .int .i64 x.chg, .int .i64 x.bal]) wr := ld38 (x := x) hr
      have hMA := hM.below (bal (Below.refl wr.heap.size wr) (.cells #[.string x.acc, .int .i64 x.day, .int .i64 x.chg, .int .i64 x.bal] 38))
      have hst := run_s24 hMA.th hlt x.acc x.day x.chg
      have hv : (R[i]'hiR).vals = [.int .i64 0, .int .i64 0, .int .i64 x.day, .int .i64 0, .string ⟨#[]⟩, .string x.acc, .int .i64 x.chg, .string ⟨#[]⟩, .string ⟨#[]⟩] := by
        have : R[i]'hiR = qR x := by simp only [unhide HR, List.getElem_map, hx]
        rw [this]
        rfl
      have hMP := hMA.put (Nat.le_refl _) (unhide HRL) hiR
      rw [hv] at hMP
      have HMP := hide hMP
      have hI : (i : Int) < (n : Int) := by omega
      have hI0 : (0 : Int) ≤ (i : Int) := by omega
      subst e
      clear hM hMA hMP hv hr hx hrel hiX hiR hbl
      go_wp2_with fail
      exact ⟨⟨i + 1, by go_num, by omega, HMP⟩, by simp [intOf]; omega⟩
    · have hin : i = n := by omega
      subst hin
      have hM := unhide hrel
      obtain ⟨O2, hO2⟩ : ∃ O, O = Obj.cells #[.map none] 80 := ⟨_, rfl⟩
      have dN := hide (new_any wr)
      rw [← hO2] at dN
      have hV2 : Vq (wr.alloc O2) wr.heap.size (fun q => q = wr.heap.size) [] := by rw [hO2]; exact Vq.new wr
      have hM2 := hM.below (bal (Below.refl wr.heap.size wr) O2)
      have hs2 : (wr.alloc O2).heap.size = wr.heap.size + 1 := by simp
      obtain ⟨w2, hw2⟩ : ∃ w2, w2 = wr.alloc O2 := ⟨_, rfl⟩
      rw [← hw2] at hV2 hM2 dN hs2
      have hrows : Lies kR w2 (some ⟨W.heap.size, 0, none⟩) R := by
        refine ⟨(fun h => by cases h), fun k hk => ⟨W.heap.size, 0, rfl, hM2.lt, ?_⟩⟩
        rw [Nat.zero_add]
        exact hM2.at' k hk (by rw [← unhide HRL]; exact hk)
      have hcan : Can R := ⟨fun r hr => by
        rw [unhide HR] at hr
        obtain ⟨y, hy, rfl⟩ := List.mem_map.1 hr
        have := (unhide HS).short y hy
        show y.acc.size < _
        omega, fun r hr => by
        rw [unhide HR] at hr
        obtain ⟨y, hy, rfl⟩ := List.mem_map.1 hr
        exact (unhide HS).num y hy⟩
      have dA := hide (ao_any (cR := i) hV2 (by simp) (unhide HRL) (by omega) hrows hcan)
      have HM2 := hide hM2; have HS2 := hide hs2; have HLT := hide hM.bel.size
      clear hM hO2 hV2 hM2 hs2 hw2 hrows hrel hcan
      go_wp2_with fail
      refine (unhide dN).mono ?_
      rintro e wx ⟨rfl, hw⟩
      rw [hw]
      clear hw wx dN
      go_wp2_with fail
      refine (unhide dA).mono ?_
      rintro e w4 ⟨x, rfl, hO⟩
      unfold AO at hO
      rw [List.nil_append] at hO
      have hbad : ¬ Good X → x ≠ 0 → Below w2.heap.size w2 w4 → Hid (POut W X (.returned (.tuple #[.pointer none, .int .i64 80])) w4) := fun h _ hb => ⟨(unhide HM2).bel.trans (hb.mono (unhide HM2).bel.size), .inl ⟨h, rfl⟩⟩
      rcases hO with ⟨hno, rfl, hb4⟩ | ⟨hok, hno, rfl, hb4⟩ | ⟨hok, hfit, rfl, hV4, hfr4⟩
      · have HO2 := hbad (fun hg => hno (by rw [unhide HR]; exact hg.1)) (by decide) hb4
        clear hno hb4 hbad
        go_wp2_with fail
        go_ret2
        exact unhide HO2
      · have HO2 := hbad (fun hg => hno (by rw [unhide HR]; exact hg.2.1)) (by decide) hb4
        clear hno hb4 hbad hok
        go_wp2_with fail
        go_ret2
        exact unhide HO2
      · clear hbad
        have hnw : ∀ q, (q = wr.heap.size ∨ (w2.heap.size ≤ q ∧ q < w4.heap.size)) → W.heap.size ≤ q := fun q hq => by
          have h1 := unhide HLT
          have h2 := unhide HS2
          rcases hq with rfl | hq
          · omega
          · omega
        have hB4 : Below W.heap.size W w4 := (unhide HM2).bel.trans ⟨hfr4.os, hfr4.tape, hfr4.output, hfr4.size, fun q hq => hfr4.block q (by have := unhide HLT; have := unhide HS2; omega) (by have := unhide HLT; omega)⟩
        have dS := hide (state_vq hV4 (by rw [unhide HRL]; omega))
        have hTl := stR_len R
        obtain ⟨T, hT⟩ : ∃ T, T = stR R := ⟨_, rfl⟩
        rw [← hT] at dS hTl
        have hGD : Good X ↔ T = X := ⟨fun h => by rw [hT, unhide HR]; exact h.2.2, fun h => ⟨by rw [← unhide HR]; exact hok, by rw [← unhide HR]; exact hfit, by rw [← unhide HR, ← hT]; exact h⟩⟩
        have HV4 := hide hV4; have HB4 := hide hB4; have HNW := hide hnw; have HGD := hide hGD; have HTL := hide hTl
        clear hV4 hB4 hnw hfr4 dA hok hfit hGD hT hTl
        go_wp2_with fail
        refine (unhide dS).mono ?_
        rintro e w5 ⟨p5, c5, rfl, hm5⟩
        have hB5 : Below W.heap.size W w5 := (unhide HB4).trans (hm5.bel.mono (unhide HB4).size)
        have dE := hide (equal_q (c1 := c5) (c2 := c) (own_lies kQ_ok rfl hm5.row) ((unhide HL).below hB5) (by have := unhide HTL; have := unhide HRL; omega))
        rw [← unhide HN] at dE
        have HV5 := hide ((unhide HV4).below hm5.bel); have HB5 := hide hB5
        clear hm5 hB5 dS
        go_wp2_with fail
        refine (unhide dE).mono ?_
        rintro e wx ⟨bb, rfl, hbb, m, hw⟩
        have HBX : Hid (Below W.heap.size W wx) := by rw [hw]; exact below_drewN (unhide HB5) m
        have HVX := hide ((unhide HV5).below (W' := wx) (by rw [hw]; exact below_drewN (Below.refl _ _) m))
        clear hw
        cases bb with
        | true =>
          have HO2 : Hid (POut W X (.returned (.tuple #[.pointer (some ⟨wr.heap.size, 0, none⟩), .int .i64 0])) wx) := ⟨unhide HBX, .inr ⟨(unhide HGD).2 (hbb.1 rfl), _, _, rfl, by rw [← unhide HR]; exact unhide HVX, unhide HNW⟩⟩
          clear hbb
          go_wp2_with fail
          go_ret2
          exact unhide HO2
        | false =>
          have HO2 : Hid (POut W X (.returned (.tuple #[.pointer none, .int .i64 80])) wx) := ⟨unhide HBX, .inl ⟨fun hg => (by have := hbb.2 ((unhide HGD).1 hg); cases this), rfl⟩⟩
          clear hbb
          go_wp2_with fail
          go_ret2
          exact unhide HO2
end Go.Proofs.YtmgnlgobkkfjhaaGreatDoor.Kg
