import Derived.Test.YtdeibifjiefapaaGreatDoorW23
import Derived.Test.YtdeibifjiefapaaGreatDoorW24
import Derived.Test.YtdeibifjiefapaaGreatDoorW25
/- A side: a chart of the program and one of the document that hold the same; does (9). -/
namespace Go.Proofs.YtdeibifjiefapaaGreatDoor
open Go Go.Shelf Go.ChangeShapes Go.WideShapes Go.ChangeAt Go.RowKit Go.Maps Go.Sort
set_option linter.unusedVariables false
/-- a call, as it comes in -/
structure Av where
  who : Int
  kind : Int
  typ : Int
  day : Int
  nam : ByteArray
  ask : ByteArray
def Av.val (v : Av) : Value := .agg #[.int .i64 v.who, .int .i64 v.kind, .int .i64 v.typ, .int .i64 v.day, .string v.nam, .string v.ask]
structure Av.ok (v : Av) : Prop where
  typ : -9223372036854775808 ≤ v.typ ∧ v.typ ≤ 9223372036854775807
  nam : v.nam.size < 4611686018427387904
abbrev Av.x (v : Av) : Nm := v.nam.data.toList
/-- what it answers, and what it makes of the accounts -/
def ansE (L : List Ac) (v : Av) : Int := if v.kind = 1 then openE L v.x v.typ v.day else if v.kind = 2 then closeE L v.x else if v.kind = 3 then mayE L v.x v.day else 0
def nxtL (L : List Ac) (v : Av) : List Ac := if v.kind = 1 then openL L v.x v.typ v.day else if v.kind = 2 then (if closeE L v.x = 0 then clA L v.x else L) else L
theorem Good.nxt {L : List Ac} (hG : Good L) (v : Av) : Good (nxtL L v) := by
  unfold nxtL
  split
  · unfold openL
    split
    · exact hG.ins (open_fits hG ‹_›)
    · exact hG
  · split
    · split
      · exact hG.close ‹_›
      · exact hG
    · exact hG
theorem nxt_err {L : List Ac} {v : Av} (h : ansE L v ≠ 0 ∨ v.kind = 3) : nxtL L v = L := by
  unfold nxtL
  unfold ansE at h
  by_cases h1 : v.kind = 1
  · rw [if_pos h1] at h ⊢
    rcases h with h | h
    · rw [openL, if_neg h]
    · omega
  · rw [if_neg h1] at h ⊢
    by_cases h2 : v.kind = 2
    · rw [if_pos h2] at h ⊢
      rcases h with h | h
      · rw [if_neg h]
      · omega
    · rw [if_neg h2]
theorem chg_from {W X w' : World} {d : Nat} {S : Nat → Prop} {L : List Ac} (hb : Below W.heap.size W X) (h : Chg X d S L w') : Chg W d S L w' := by
  obtain ⟨S', g', h1, h2, h3⟩ := h
  exact ⟨S', g', h1, fun k hk => (h2 k hk).imp (fun h => h) (fun h => Nat.le_trans hb.size h), ⟨h3.os.trans hb.os, h3.tape.trans hb.tape, h3.output.trans hb.output, Nat.le_trans hb.size h3.size, fun k hk hs => (h3.block k (Nat.lt_of_lt_of_le hk hb.size) hs).trans (hb.block k hk)⟩⟩
theorem chg_close {X w' : World} {d : Nat} {S : Nat → Prop} {L : List Ac} {g : Gh} {x : Nm} (h : Ct X d S L g) (hc : CloseOut X d S L g x w') : Chg X d S (if closeE L x = 0 then clA L x else L) w' := by
  rcases hc with ⟨h1, h2, h3⟩ | ⟨h1, h2⟩
  · rw [if_pos h1]
    exact ⟨S, g, ⟨h2, h.good.close h1, fun k hk => Nat.lt_of_lt_of_le (h.inh k hk) h3.size⟩, fun k hk => .inl hk, h3⟩
  · rw [if_neg h1]
    exact Chg.below h h2
def Av.vals (v : Av) : List Value := [.int .i64 v.who, .int .i64 v.kind, .int .i64 v.typ, .int .i64 v.day, .string v.nam, .string v.ask]
theorem sz60 : (Tryz.prog.info? 60).map (·.size) = some 6 := by kernel_rfl
def ld60 (x : Value) : Sem Value := Instr.loadAt 60 x
theorem ld60_is (x : Value) : Instr.loadAt 60 x = ld60 x := rfl
theorem run_ld60 {w : World} {b o : Nat} {v : Av} (h : w.rangeAt b o v.vals) : (ld60 (.pointer (some ⟨b, o, none⟩))).run Tryz.prog w = .ok v.val w :=
  run_loadAt_mid (P := Tryz.prog) w b o 60 v.vals _ h Tryz.underlying60 rfl sz60

theorem Chg.fr {W w' : World} {d : Nat} {S : Nat → Prop} {L : List Ac} (h : Chg W d S L w') : Fr S W w' := by obtain ⟨_, _, _, _, h⟩ := h; exact h
theorem RChg.fr {W w' : World} {d : Nat} {S : Nat → Prop} {L : List Ac} (h : RChg W d S L w') : Fr S W w' := by obtain ⟨_, _, _, h⟩ := h; exact h
/-- a side in memory -/
structure SdS (W : World) (c r : Nat) (S : Nat → Prop) (L : List Ac) (S1 S2 : Nat → Prop) (g : Gh) : Prop where
  prg : Ct W c S1 L g
  doc : Rc W r S2 L
  apart : ∀ k, S1 k → S2 k → False
  both : ∀ k, S k ↔ S1 k ∨ S2 k
def Sd (W : World) (c r : Nat) (S : Nat → Prop) (L : List Ac) : Prop := ∃ S1 S2 g, SdS W c r S L S1 S2 g
theorem Rc.lt {W : World} {d : Nat} {S : Nat → Prop} {L : List Ac} (h : Rc W d S L) : ∀ k, S k → k < W.heap.size := by obtain ⟨v, h⟩ := h; exact h.inh
theorem Sd.lt {W : World} {c r : Nat} {S : Nat → Prop} {L : List Ac} (h : Sd W c r S L) : ∀ k, S k → k < W.heap.size := fun k hk => by
  obtain ⟨S1, S2, g, h⟩ := h
  rcases (h.both k).1 hk with h1 | h1
  · exact h.prg.inh k h1
  · exact h.doc.lt k h1
theorem Sd.isGood {W : World} {c r : Nat} {S : Nat → Prop} {L : List Ac} (h : Sd W c r S L) : Good L := by
  obtain ⟨S1, S2, g, h⟩ := h
  exact h.prg.good
theorem Sd.keep {W W' : World} {c r : Nat} {S : Nat → Prop} {L : List Ac} (h : Sd W c r S L) (hs : W.heap.size ≤ W'.heap.size) (hk : ∀ k, S k → W'.heap[k]? = W.heap[k]?) : Sd W' c r S L := by
  obtain ⟨S1, S2, g, h⟩ := h
  exact ⟨S1, S2, g, ⟨h.prg.ch.keep (fun k hk' => hk k ((h.both k).2 (.inl hk'))), h.prg.good, fun k hk' => Nat.lt_of_lt_of_le (h.prg.inh k hk') hs⟩, h.doc.keep hs (fun k hk' => hk k ((h.both k).2 (.inr hk'))), h.apart, h.both⟩
theorem Sd.below {W W' : World} {c r : Nat} {S : Nat → Prop} {L : List Ac} (h : Sd W c r S L) (hb : Below W.heap.size W W') : Sd W' c r S L := h.keep hb.size (fun k hk => hb.block k (h.lt k hk))
/-- a side behind calls that may change it -/
def SChg (W : World) (c r : Nat) (S : Nat → Prop) (L : List Ac) (w' : World) : Prop := ∃ S', Sd w' c r S' L ∧ (∀ k, S' k → S k ∨ W.heap.size ≤ k) ∧ Fr S W w'
theorem SChg.of_below {W w' : World} {c r : Nat} {S : Nat → Prop} {L : List Ac} (h : Sd W c r S L) (hb : Below W.heap.size W w') : SChg W c r S L w' := ⟨S, h.below hb, fun k hk => .inl hk, Fr.below hb⟩
/-- both changed, the program's first -/
theorem Sd.two {W X : World} {c r : Nat} {S S1 S2 : Nat → Prop} {L M : List Ac} {g : Gh} (h : SdS W c r S L S1 S2 g) (h1 : Chg W c S1 M X) {w' : World} (h3 : RChg X r S2 M w') : SChg W c r S M w' := by
  obtain ⟨T1, g', a1, a2, a3⟩ := h1
  obtain ⟨T2, b1, b2, b3⟩ := h3
  have hi2 : ∀ k, S2 k → k < W.heap.size := h.doc.lt
  have hT : ∀ k, T1 k → S2 k → False := fun k x y => by
    rcases a2 k x with z | z
    · exact h.apart k z y
    · have := hi2 k y; omega
  refine ⟨fun k => T1 k ∨ T2 k, ⟨T1, T2, g', ⟨a1.ch.keep (fun k hk => b3.block k (a1.inh k hk) (fun hs => hT k hk hs)), a1.good, fun k hk => Nat.lt_of_lt_of_le (a1.inh k hk) b3.size⟩, b1, fun k x y => ?_, fun k => Iff.rfl⟩, fun k hk => ?_, ⟨b3.os.trans a3.os, b3.tape.trans a3.tape, b3.output.trans a3.output, Nat.le_trans a3.size b3.size, fun k hk hs => ?_⟩⟩
  · rcases b2 k y with z | z
    · exact hT k x z
    · have := a1.inh k x; omega
  · rcases hk with x | x
    · rcases a2 k x with z | z
      · exact .inl ((h.both k).2 (.inl z))
      · exact .inr z
    · rcases b2 k x with z | z
      · exact .inl ((h.both k).2 (.inr z))
      · exact .inr (Nat.le_trans a3.size z)
  · have n1 : ¬ S1 k := fun z => hs ((h.both k).2 (.inl z))
    have n2 : ¬ S2 k := fun z => hs ((h.both k).2 (.inr z))
    exact (b3.block k (Nat.lt_of_lt_of_le hk a3.size) n2).trans (a3.block k hk n1)
theorem schg_from {W X w' : World} {c r : Nat} {S : Nat → Prop} {L : List Ac} (hb : Below W.heap.size W X) (h : SChg X c r S L w') : SChg W c r S L w' := by
  obtain ⟨S', h1, h2, h3⟩ := h
  exact ⟨S', h1, fun k hk => (h2 k hk).imp id (fun h => Nat.le_trans hb.size h), h3.os.trans hb.os, h3.tape.trans hb.tape, h3.output.trans hb.output, Nat.le_trans hb.size h3.size, fun k hk hs => (h3.block k (Nat.lt_of_lt_of_le hk hb.size) hs).trans (hb.block k hk)⟩
/-- behind the program's change the document's chart stands -/
theorem SdS.docX {W X : World} {c r : Nat} {S S1 S2 : Nat → Prop} {L M : List Ac} {g : Gh} (h : SdS W c r S L S1 S2 g) (h1 : Chg W c S1 M X) : Rc X r S2 L := by
  obtain ⟨T1, g', a1, a2, a3⟩ := h1
  exact h.doc.keep a3.size (fun k hk => a3.block k (h.doc.lt k hk) (fun z => h.apart k z hk))
/-- the two charts of a side, as a value -/
def sdV (c r : Nat) : Value := .agg #[ptr c, ptr r]
set_option maxRecDepth 100000 in
set_option maxHeartbeats 8000000 in
theorem does_any {W : World} {c r : Nat} {S : Nat → Prop} {L : List Ac} (h : Sd W c r S L) (v : Av) (hv : v.ok) :
    Calls Tryz.prog 9 #[sdV c r, v.val] W fun e w' => e = .returned (.bool true) ∧ SChg W c r S (nxtL L v) w' := by
  obtain ⟨W1, hW1⟩ : ∃ W1, W1 = (W.alloc (.cells #[ptr c, ptr r] 33)).alloc (.cells #[.int .i64 v.who, .int .i64 v.kind, .int .i64 v.typ, .int .i64 v.day, .string v.nam, .string v.ask] 60) := ⟨_, rfl⟩
  have b1 : Below W.heap.size W W1 := by rw [hW1]; exact ((Below.refl _ W).alloc (Nat.le_refl _) _).alloc (by simp) _
  have z1 : W1.heap.size = W.heap.size + 2 := by rw [hW1]; simp
  have ra : W1.heap[W.heap.size]? = some (.cells #[ptr c, ptr r] 33) := by rw [hW1]; exact (Below.heap_alloc _ _ _ (by simp)).trans (World.alloc_heap_new W _)
  have rb : W1.heap[W.heap.size + 1]? = some (.cells #[.int .i64 v.who, .int .i64 v.kind, .int .i64 v.typ, .int .i64 v.day, .string v.nam, .string v.ask] 60) := by
    have e := World.alloc_heap_new (W.alloc (.cells #[ptr c, ptr r] 33)) (.cells #[.int .i64 v.who, .int .i64 v.kind, .int .i64 v.typ, .int .i64 v.day, .string v.nam, .string v.ask] 60)
    rw [World.size_alloc] at e
    rw [hW1]
    exact e
  have hlt := h.lt
  have HBX : Hid (∀ Y : World, Y.heap[W.heap.size]? = W1.heap[W.heap.size]? → Y.heap[W.heap.size + 1]? = W1.heap[W.heap.size + 1]? → (Y.cell? ⟨W.heap.size, 0, none⟩ = some (ptr c) ∧ Y.cell? ⟨W.heap.size, 1, none⟩ = some (ptr r)) ∧ Y.cell? ⟨W.heap.size + 1, 1, none⟩ = some (.int .i64 v.kind) ∧ Y.cell? ⟨W.heap.size + 1, 2, none⟩ = some (.int .i64 v.typ) ∧ Y.cell? ⟨W.heap.size + 1, 3, none⟩ = some (.int .i64 v.day) ∧ Y.cell? ⟨W.heap.size + 1, 4, none⟩ = some (.string v.nam)) := fun Y ha hb => by
    have ha2 := ha.trans ra
    have hb2 := hb.trans rb
    exact ⟨⟨cell_of ha2 rfl, cell_of ha2 rfl⟩, cell_of hb2 rfl, cell_of hb2 rfl, cell_of hb2 rfl, cell_of hb2 rfl⟩
  have HFX : Hid (∀ (T : Nat → Prop) (Y : World), (∀ k, T k → k < W.heap.size) → Fr T W1.drew Y → Y.heap[W.heap.size]? = W1.heap[W.heap.size]? ∧ Y.heap[W.heap.size + 1]? = W1.heap[W.heap.size + 1]?) := fun T Y hT hY => by
    have zd : W1.drew.heap.size = W.heap.size + 2 := z1
    exact ⟨hY.block _ (by omega) (fun hs => by have := hT _ hs; omega), hY.block _ (by omega) (fun hs => by have := hT _ hs; omega)⟩
  obtain ⟨S1, S2, g, hs⟩ := h
  have HS := hide hs; have HV := hide hv; have HLT := hide hlt; have B1 := hide b1; have HW1 := hide hW1; have HRA := hide ra; have HRB := hide rb
  have hs1d : SdS W1.drew c r S L S1 S2 g := ⟨hs.prg.below (below_drewN b1 1), hs.doc.below (below_drewN b1 1), hs.apart, hs.both⟩
  have HS1 := hide hs1d
  clear hs hv hlt b1 z1 ra rb hW1 hs1d
  unfold sdV Av.val
  have zz := unhide HBX W1.drew rfl rfl
  have zk := (unhide HBX W1 rfl rfl).2.1
  have HLT1 : Hid (∀ k, S1 k → k < W.heap.size) := fun k hk => unhide HLT k (((unhide HS).both k).2 (.inl hk))
  have HFY : Hid (∀ X Y, Fr S2 X Y → X.heap[W.heap.size]? = W1.heap[W.heap.size]? → X.heap[W.heap.size + 1]? = W1.heap[W.heap.size + 1]? → Y.heap[W.heap.size]? = W1.heap[W.heap.size]? ∧ Y.heap[W.heap.size + 1]? = W1.heap[W.heap.size + 1]?) := fun X Y hf ha hb => by
    have hl2 : ∀ k, S2 k → k < W.heap.size := fun k hk => unhide HLT k (((unhide HS).both k).2 (.inr hk))
    have x1 : W.heap.size < X.heap.size := (Array.getElem?_eq_some_iff.1 (ha.trans (unhide HRA))).1
    have x2 : W.heap.size + 1 < X.heap.size := (Array.getElem?_eq_some_iff.1 (hb.trans (unhide HRB))).1
    exact ⟨(hf.block _ x1 (fun hs => by have := hl2 _ hs; omega)).trans ha, (hf.block _ x2 (fun hs => by have := hl2 _ hs; omega)).trans hb⟩
  have HKI : Hid (∀ X Y, Chg W1.drew c S1 (nxtL L v) X → RChg X r S2 (nxtL L v) Y → SChg W c r S (nxtL L v) Y) := fun X Y h1 h2 => schg_from (below_drewN (unhide B1) 1) (Sd.two (unhide HS1) h1 h2)
  by_cases k1 : v.kind = 1
  · have en : nxtL L v = openL L v.x v.typ v.day := by rw [nxtL, if_pos k1]
    rw [en]
    have d1 := hide (open_any (unhide HS1).prg v.nam (unhide HV).nam v.typ v.day (unhide HV).typ)
    have d2 : Hid (∀ X, Chg W1.drew c S1 (openL L v.x v.typ v.day) X → Calls Tryz.prog 17 #[ptr r, .string v.nam, .int .i64 v.typ, .int .i64 v.day] X fun e w' => e = .returned (.int .i64 (openE L v.x v.typ v.day)) ∧ RChg X r S2 (openL L v.x v.typ v.day) w') := fun X hX => ropen_any ((unhide HS1).docX hX) v.nam (unhide HV).nam v.typ v.day
    obtain ⟨E, hE⟩ : ∃ E, E = openE L v.x v.typ v.day := ⟨_, rfl⟩
    obtain ⟨M, hM⟩ : ∃ M, M = openL L v.x v.typ v.day := ⟨_, rfl⟩
    have d1' : Hid (Calls Tryz.prog 16 #[ptr c, .string v.nam, .int .i64 v.typ, .int .i64 v.day] W1.drew fun e w' => e = .returned (.int .i64 E) ∧ Chg W1.drew c S1 M w') := by rw [hE, hM]; exact unhide d1
    have d2' : Hid (∀ X, Chg W1.drew c S1 M X → Calls Tryz.prog 17 #[ptr r, .string v.nam, .int .i64 v.typ, .int .i64 v.day] X fun e w' => e = .returned (.int .i64 E) ∧ RChg X r S2 M w') := by rw [hE, hM]; exact unhide d2
    rw [← hM]
    clear d1 d2 hE hM en
    have d1 := d1'; have d2 := d2'
    clear d1' d2'
    rw [k1] at zk HW1
    as_aux_lemma =>
      go_enter Tryz.func9, Tryz.ntmps9
      go_upto_region 3 with fail
      rw [← unhide HW1]
      refine wp_region_last (n := 20) (S := fun W' => W'.cell? ⟨W.heap.size, 0, none⟩ = some (ptr c) ∧ W'.cell? ⟨W.heap.size, 1, none⟩ = some (ptr r) ∧ W'.cell? ⟨W.heap.size + 1, 4, none⟩ = some (.string v.nam) ∧ W'.cell? ⟨W.heap.size + 1, 2, none⟩ = some (.int .i64 v.typ) ∧ W'.cell? ⟨W.heap.size + 1, 3, none⟩ = some (.int .i64 v.day)) (by kernel_rfl) (by exact ⟨zz.1.1, zz.1.2, zz.2.2.2.2, zz.2.2.1, zz.2.2.2.1⟩) (fun hHeld => ?_)
      refine tkW 0 ?_; refine tkN 1 ?_; refine tkW 2 ?_; refine tkN 3 ?_; refine tkW 4 ?_; refine tkN 5 ?_; refine tkW 6 ?_; refine tkN 7 ?_
      refine tkW 9 ?_; refine tkN 10 ?_; refine tkW 11 ?_; refine tkN 12 ?_; refine tkW 13 ?_; refine tkN 14 ?_; refine tkW 15 ?_; refine tkN 16 ?_
      clear hHeld
      refine wpAnyL_one (i := 8) (by kernel_rfl) rfl (fun KK hK => ?_)
      go_simp
      go_wp2_with (first | (go_at_call 16; refine (unhide d1).mono ?_; rintro e X ⟨rfl, hch⟩))
      obtain ⟨xa, xb⟩ := unhide HFX S1 X (unhide HLT1) (Chg.fr hch)
      have xx := unhide HBX X xa xb
      have d2x := hide (unhide d2 X hch)
      have HCH := hide hch
      refine hK.out _ _ ⟨xx.1.1, xx.1.2, xx.2.2.2.2, xx.2.2.1, xx.2.2.2.1⟩ (fun hHeld => ?_)
      clear hK KK hHeld hch
      refine wpAnyL_one (i := 17) (by kernel_rfl) rfl (fun KK hK => ?_)
      go_simp
      go_wp2_with (first | (go_at_call 17; refine (unhide d2x).mono ?_; rintro e Y ⟨rfl, hch2⟩))
      obtain ⟨ya, yb⟩ := unhide HFY X Y (RChg.fr hch2) xa xb
      have yy := unhide HBX Y ya yb
      have HF := hide (schg_from (below_drewN (unhide B1) 1) (Sd.two (unhide HS1) (unhide HCH) hch2))
      refine hK.out _ _ ⟨yy.1.1, yy.1.2, yy.2.2.2.2, yy.2.2.1, yy.2.2.2.1⟩ (fun hHeld => ?_)
      clear hK KK hch2 ya yb xa xb
      refine tkW 18 ?_; refine tkW 19 ?_
      clear hHeld
      refine wpAnyL_done (by kernel_rfl) ?_
      go_wp2
      go_ret
      exact ⟨rfl, unhide HF⟩
  by_cases k2 : v.kind = 2
  · have en : nxtL L v = if closeE L v.x = 0 then clA L v.x else L := by rw [nxtL, if_neg k1, if_pos k2]
    rw [en]
    obtain ⟨E, hE⟩ : ∃ E, E = closeE L v.x := ⟨_, rfl⟩
    obtain ⟨M, hM⟩ : ∃ M, M = if closeE L v.x = 0 then clA L v.x else L := ⟨_, rfl⟩
    have d1 : Hid (Calls Tryz.prog 18 #[ptr c, .string v.nam] W1.drew fun e w' => e = .returned (.int .i64 E) ∧ Chg W1.drew c S1 M w') := by
      rw [hE, hM]
      refine (close_any (unhide HS1).prg.ch (unhide HS1).prg.good (unhide HS1).prg.inh v.nam (unhide HV).nam).mono ?_
      rintro e w' ⟨rfl, ho⟩
      exact ⟨rfl, chg_close (unhide HS1).prg ho⟩
    have d2 : Hid (∀ X, Chg W1.drew c S1 M X → Calls Tryz.prog 19 #[ptr r, .string v.nam] X fun e w' => e = .returned (.int .i64 E) ∧ RChg X r S2 M w') := fun X hX => by
      have h1 := rclose_any ((unhide HS1).docX hX) v.nam
      rw [hE, hM]
      exact h1
    rw [← hM]
    clear hE hM en
    rw [k2] at zk HW1
    clear k1
    as_aux_lemma =>
      go_enter Tryz.func9, Tryz.ntmps9
      go_upto_region 5 with fail
      rw [← unhide HW1]
      refine wp_region_last (n := 12) (S := fun W' => W'.cell? ⟨W.heap.size, 0, none⟩ = some (ptr c) ∧ W'.cell? ⟨W.heap.size, 1, none⟩ = some (ptr r) ∧ W'.cell? ⟨W.heap.size + 1, 4, none⟩ = some (.string v.nam)) (by kernel_rfl) (by exact ⟨zz.1.1, zz.1.2, zz.2.2.2.2⟩) (fun hHeld => ?_)
      refine tkW 0 ?_; refine tkN 1 ?_; refine tkW 2 ?_; refine tkN 3 ?_
      refine tkW 5 ?_; refine tkN 6 ?_; refine tkW 7 ?_; refine tkN 8 ?_
      clear hHeld
      refine wpAnyL_one (i := 4) (by kernel_rfl) rfl (fun KK hK => ?_)
      go_simp
      go_wp2_with (first | (go_at_call 18; refine (unhide d1).mono ?_; rintro e X ⟨rfl, hch⟩))
      obtain ⟨xa, xb⟩ := unhide HFX S1 X (unhide HLT1) (Chg.fr hch)
      have xx := unhide HBX X xa xb
      have d2x := hide (unhide d2 X hch)
      have HCH := hide hch
      refine hK.out _ _ ⟨xx.1.1, xx.1.2, xx.2.2.2.2⟩ (fun hHeld => ?_)
      clear hK KK hHeld hch
      refine wpAnyL_one (i := 9) (by kernel_rfl) rfl (fun KK hK => ?_)
      go_simp
      go_wp2_with (first | (go_at_call 19; refine (unhide d2x).mono ?_; rintro e Y ⟨rfl, hch2⟩))
      obtain ⟨ya, yb⟩ := unhide HFY X Y (RChg.fr hch2) xa xb
      have yy := unhide HBX Y ya yb
      have HF := hide (schg_from (below_drewN (unhide B1) 1) (Sd.two (unhide HS1) (unhide HCH) hch2))
      refine hK.out _ _ ⟨yy.1.1, yy.1.2, yy.2.2.2.2⟩ (fun hHeld => ?_)
      clear hK KK hch2 ya yb xa xb
      refine tkW 10 ?_; refine tkW 11 ?_
      clear hHeld
      refine wpAnyL_done (by kernel_rfl) ?_
      go_wp2
      go_ret
      exact ⟨rfl, unhide HF⟩
  have en : nxtL L v = L := by rw [nxtL, if_neg k1, if_neg k2]
  rw [en]
  by_cases k3 : v.kind = 3
  · obtain ⟨E, hE⟩ : ∃ E, E = mayE L v.x v.day := ⟨_, rfl⟩
    obtain ⟨M, hM⟩ : ∃ M, M = L := ⟨_, rfl⟩
    have d1 : Hid (Calls Tryz.prog 20 #[ptr c, .string v.nam, .int .i64 v.day] W1.drew fun e w' => e = .returned (.int .i64 E) ∧ Chg W1.drew c S1 M w') := by
      rw [hE, hM]
      refine (may_any (unhide HS1).prg v.nam (unhide HV).nam v.day).mono ?_
      rintro e w' ⟨rfl, ho⟩
      exact ⟨rfl, Chg.below (unhide HS1).prg ho⟩
    have d2 : Hid (∀ X, Chg W1.drew c S1 M X → Calls Tryz.prog 21 #[ptr r, .string v.nam, .int .i64 v.day] X fun e w' => e = .returned (.int .i64 E) ∧ RChg X r S2 M w') := fun X hX => by
      have h0 := (unhide HS1).docX hX
      refine (rmay_any h0 v.nam v.day).mono ?_
      rintro e w' ⟨rfl, hw⟩
      rw [hw, hE, hM]
      exact ⟨rfl, RChg.below h0 (Below.refl _ _)⟩
    rw [← hM]
    clear hE hM en
    rw [k3] at zk HW1
    clear k1 k2
    as_aux_lemma =>
      go_enter Tryz.func9, Tryz.ntmps9
      go_upto_region 7 with fail
      rw [← unhide HW1]
      refine wp_region_last (n := 16) (S := fun W' => W'.cell? ⟨W.heap.size, 0, none⟩ = some (ptr c) ∧ W'.cell? ⟨W.heap.size, 1, none⟩ = some (ptr r) ∧ W'.cell? ⟨W.heap.size + 1, 4, none⟩ = some (.string v.nam) ∧ W'.cell? ⟨W.heap.size + 1, 3, none⟩ = some (.int .i64 v.day)) (by kernel_rfl) (by exact ⟨zz.1.1, zz.1.2, zz.2.2.2.2, zz.2.2.2.1⟩) (fun hHeld => ?_)
      refine tkW 0 ?_; refine tkN 1 ?_; refine tkW 2 ?_; refine tkN 3 ?_; refine tkW 4 ?_; refine tkN 5 ?_
      refine tkW 7 ?_; refine tkN 8 ?_; refine tkW 9 ?_; refine tkN 10 ?_; refine tkW 11 ?_; refine tkN 12 ?_
      clear hHeld
      refine wpAnyL_one (i := 6) (by kernel_rfl) rfl (fun KK hK => ?_)
      go_simp
      go_wp2_with (first | (go_at_call 20; refine (unhide d1).mono ?_; rintro e X ⟨rfl, hch⟩))
      obtain ⟨xa, xb⟩ := unhide HFX S1 X (unhide HLT1) (Chg.fr hch)
      have xx := unhide HBX X xa xb
      have d2x := hide (unhide d2 X hch)
      have HCH := hide hch
      refine hK.out _ _ ⟨xx.1.1, xx.1.2, xx.2.2.2.2, xx.2.2.2.1⟩ (fun hHeld => ?_)
      clear hK KK hHeld hch
      refine wpAnyL_one (i := 13) (by kernel_rfl) rfl (fun KK hK => ?_)
      go_simp
      go_wp2_with (first | (go_at_call 21; refine (unhide d2x).mono ?_; rintro e Y ⟨rfl, hch2⟩))
      obtain ⟨ya, yb⟩ := unhide HFY X Y (RChg.fr hch2) xa xb
      have yy := unhide HBX Y ya yb
      have HF := hide (schg_from (below_drewN (unhide B1) 1) (Sd.two (unhide HS1) (unhide HCH) hch2))
      refine hK.out _ _ ⟨yy.1.1, yy.1.2, yy.2.2.2.2, yy.2.2.2.1⟩ (fun hHeld => ?_)
      clear hK KK hch2 ya yb xa xb
      refine tkW 14 ?_; refine tkW 15 ?_
      clear hHeld
      refine wpAnyL_done (by kernel_rfl) ?_
      go_wp2
      go_ret
      exact ⟨rfl, unhide HF⟩
  · have j1 : (v.kind == 1) = false := by simpa using k1
    have j2 : (v.kind == 2) = false := by simpa using k2
    have j3 : (v.kind == 3) = false := by simpa using k3
    have HF : Hid (SChg W c r S L W1) := SChg.of_below ⟨S1, S2, g, unhide HS⟩ (unhide B1)
    clear en
    as_aux_lemma =>
      go_enter Tryz.func9, Tryz.ntmps9
      go_upto_region 2 with fail
      rw [← unhide HW1]
      go_wp2_with fail
      go_ret
      exact ⟨rfl, unhide HF⟩
end Go.Proofs.YtdeibifjiefapaaGreatDoor
