import Derived.Test.YtmgnlgobkkfjhaaGreatDoorW28
import Derived.Test.YtmgnlgobkkfjhaaGreatDoorW29
import Derived.Test.YtmgnlgobkkfjhaaGreatDoorW11
import Derived.Test.YtmgnlgobkkfjhaaGreatDoorW31
import Derived.Test.YtmgnlgobkkfjhaaGreatDoorW30
/- daily: what an act leaves of both views, plain. -/
namespace Go.Proofs.YtmgnlgobkkfjhaaGreatDoor.Kg
open Go Go.RowKit Go.Shelf Go.ChangeShapes Go.WideShapes Go.ChangeAt Go.Maps
set_option linter.unusedVariables false
set_option linter.unusedSimpArgs false
set_option maxRecDepth 100000
set_option maxHeartbeats 8000000
attribute [local go_sem ↓] stP_is
theorem _root_.Go.Proofs.YtmgnlgobkkfjhaaGreatDoor.Lies.far {α : Type} {K : Kd α} {W W' : World} {p : Option Addr} {L : List α} (h : Lies K W p L) (hz : W.heap.size ≤ W'.heap.size) (hb : ∀ b o, p = some ⟨b, o, none⟩ → b < W.heap.size → 0 < L.length → W'.heap[b]? = W.heap[b]?) : Lies K W' p L := by
  refine ⟨h.1, fun k hk => ?_⟩
  obtain ⟨b, off, e, hlt, hr⟩ := h.2 k hk
  exact ⟨b, off, e, Nat.lt_of_lt_of_le hlt hz, fun j u hu => (World.cell?_of_block (hb b off e hlt (by omega))).trans (hr j u hu)⟩
/-- a list is written over -/
structure Ov (a b : World) (g M : Nat) : Prop where
  os : b.os = a.os
  tape : b.tape = a.tape
  output : b.output = a.output
  size : b.heap.size = a.heap.size
  blk : ∀ q, q ≠ g → b.heap[q]? = a.heap[q]?
  th : ∀ k, k < M → b.there g (k * 9) 9
theorem Ov.step {a b : World} {g M : Nat} (h : Ov a b g M) (k : Nat) (vs : List Value) : Ov a (b.setCells g k vs) g M :=
  ⟨(setCells_rest g vs k b).1.trans h.os, (setCells_rest g vs k b).2.1.trans h.tape, (setCells_rest g vs k b).2.2.trans h.output, (setCells_size g vs k b).trans h.size, fun q hq => (setCells_far g hq vs k b).trans (h.blk q hq), fun j hj => World.there_setCells (h.th j hj) _ _ _⟩
theorem run_stZ {W : World} {g i : Nat} (h : W.there g (i * 9) 9) : (stP (.pointer (some ⟨g, i * 9, none⟩)) (.agg #[.int .i64 0, .int .i64 0, .int .i64 5, .int .i64 0, .string ⟨#[]⟩, .string ⟨#[90]⟩, .int .i64 12345, .string ⟨#[]⟩, .string ⟨#[]⟩])).run Tryz.prog W = .ok () (W.setCells g (i * 9) [.int .i64 0, .int .i64 0, .int .i64 5, .int .i64 0, .string ⟨#[]⟩, .string ⟨#[90]⟩, .int .i64 12345, .string ⟨#[]⟩, .string ⟨#[]⟩]) :=
  run_storeAt_mid (P := Tryz.prog) W g (i * 9) 74 #[.int .i64 0, .int .i64 0, .int .i64 5, .int .i64 0, .string ⟨#[]⟩, .string ⟨#[90]⟩, .int .i64 12345, .string ⟨#[]⟩, .string ⟨#[]⟩] (fun j hj => h j (by simpa using hj)) sizP (by simp [Value.oneCell'])
/-- both views behind an act -/
def NX (w : World) (d r : Nat) (F : Nat → Prop) (L R : List Ro) (w' : World) : Prop :=
  ∃ F' L', Tw w' d r F' L' ∧ Sep w w' F F' ∧ (L' = L ∨ L' = L ++ R)
section
variable {w : World} {d r : Nat} {F : Nat → Prop} {L : List Ro}
/-- the document's Apply behind it -/
theorem ao_next {Y w3 : World} {Q S : Nat → Prop} {R : List Ro} {c : Int} (hT : Tw Y d r F L) (hv : Vq Y d Q L) (hr : Rd Y r S L) (h1 : ∀ k, Q k → F k) (h2 : ∀ k, S k → F k) (h3 : ∀ k, Q k → ¬ S k) (hA : AO Y d Q L R c w3)
    {p : Option Addr} {cR : Nat} (hL : Lies kR w3 p R) (hfew : L.length + R.length < 1099511627000) (hc : Can R) :
    Calls Tryz.prog 19 #[.pointer (some ⟨r, 0, none⟩), .slice p R.length cR] w3 fun e w' => e = .returned (.int .i64 c) ∧ NX Y d r F L R w' := by
  have hr3 : Rd w3 r S L := hr.keep hA.size (fun q hq => hA.far (hr.lt q hq) (fun hb => h3 q hb hq))
  refine (rapply_any (c := cR) hr3 hL hfew hc.acc hc.amt).mono ?_
  intro e w' hO
  have stay : ∀ w4 : World, Below Y.heap.size Y w4 → NX Y d r F L R w4 := fun w4 hb => ⟨F, L, hT.below hb, ⟨hb.os, hb.tape, hb.output, hb.size, fun q hq _ => hb.block q hq, fun q hq => .inl hq⟩, .inl rfl⟩
  have hff : (∀ r ∈ R, okR r) → ((∀ r ∈ L ++ R, okF (L ++ R) r) ↔ ∀ k, fitT (tol (L ++ R) k)) := fun hok => fits_iff fun r hr' => by
    rcases List.mem_append.1 hr' with h | h
    · exact (hr.dy r h).1
    · exact (hok r h).2.1
  rcases hA with ⟨a1, rfl, hb⟩ | ⟨a1, a2, rfl, hb⟩ | ⟨a1, a2, rfl, hv', hfr⟩
  · rcases hO with ⟨_, rfl, hb'⟩ | ⟨o1, _⟩ | ⟨o1, _⟩
    · exact ⟨rfl, stay w' (hb.trans (hb'.mono hb.size))⟩
    · exact absurd o1 a1
    · exact absurd o1 a1
  · rcases hO with ⟨o1, _⟩ | ⟨_, _, rfl, hb'⟩ | ⟨_, o2, _⟩
    · exact absurd a1 o1
    · exact ⟨rfl, stay w' (hb.trans (hb'.mono hb.size))⟩
    · exact absurd ((hff a1).1 o2) a2
  · rcases hO with ⟨o1, _⟩ | ⟨_, o2, _⟩ | ⟨_, _, rfl, S', hr', hfr', hnew'⟩
    · exact absurd a1 o1
    · exact absurd ((hff a1).2 a2) o2
    · have hrd : r < Y.heap.size := hr.lt r hr.sd
      have hrn : ¬ Q r := fun hb => h3 r hb hr.sd
      have hQr : ∀ k, (Q k ∨ (Y.heap.size ≤ k ∧ k < w3.heap.size)) → k ≠ r := fun k hk e => by
        rcases hk with h' | h'
        · exact hrn (by rw [← e]; exact h')
        · omega
      refine ⟨rfl, fun q => (Q q ∨ (Y.heap.size ≤ q ∧ q < w3.heap.size)) ∨ S' q, _, ⟨⟨_, S', hv'.keep hfr'.size (fun k hk => ?_), hr', fun k hk => .inl hk, fun k hk => .inr hk, fun k hk hs => ?_⟩, fun q hq => ?_⟩, ⟨hfr'.os.trans hfr.os, hfr'.tape.trans hfr.tape, hfr'.output.trans hfr.output, Nat.le_trans hfr.size hfr'.size, fun q hq hn => ?_, fun q hq => ?_⟩, .inr rfl⟩
      · exact hfr'.block k (hv'.lt k hk) (hQr k hk)
      · rcases hnew' k hs with h' | h'
        · rcases hk with h'' | h''
          · exact h3 k h'' h'
          · have := hr.lt k h'; omega
        · have := hv'.lt k hk; omega
      · rcases hq with hq | hq
        · exact Nat.lt_of_lt_of_le (hv'.lt q hq) hfr'.size
        · exact hr'.lt q hq
      · refine (hfr'.block q (Nat.lt_of_lt_of_le hq hfr.size) (fun e => hn (h2 q (by rw [e]; exact hr.sd)))).trans (hfr.block q hq (fun hb => hn (h1 q hb)))
      · rcases hq with hq | hq
        · rcases hq with h' | h'
          · exact .inl (h1 q h')
          · exact .inr h'.1
        · rcases hnew' q hq with h' | h'
          · exact .inl (h2 q h')
          · exact .inr (Nat.le_trans hfr.size h')
def TlOut (w : World) (d r : Nat) (F : Nat → Prop) (L R : List Ro) (e : Ending) (w' : World) : Prop := e = .returned (.bool true) ∧ NX w d r F L R w'
theorem nx_over {w Y w4 w5 b : World} {R : List Ro} {g M : Nat} (hb : Below w.heap.size w Y) (hF : ∀ q, F q → q < w.heap.size) (h : NX Y d r F L R w4) (hb5 : Below w4.heap.size w4 w5) (ho : Ov w5 b g M) (hg : w.heap.size ≤ g ∧ g < Y.heap.size) : NX w d r F L R b := by
  obtain ⟨F', L', hT, hs, hh⟩ := h
  have hgF : ∀ q, F' q → q ≠ g := fun q hq e => by
    rcases hs.new q hq with h' | h'
    · have := hF q h'; omega
    · omega
  refine ⟨F', L', (hT.below hb5).keep (by rw [ho.size]; exact Nat.le_refl _) (fun q hq => ho.blk q (hgF q hq)), ⟨ho.os.trans (hb5.os.trans (hs.os.trans hb.os)), ho.tape.trans (hb5.tape.trans (hs.tape.trans hb.tape)), ho.output.trans (hb5.output.trans (hs.output.trans hb.output)), ?_, fun q hq hn => ?_, fun q hq => ?_⟩, hh⟩
  · rw [ho.size]
    exact Nat.le_trans (Nat.le_trans hb.size hs.size) hb5.size
  · have hqY := Nat.lt_of_lt_of_le hq hb.size
    exact (ho.blk q (by omega)).trans ((hb5.block q (Nat.lt_of_lt_of_le hqY hs.size)).trans ((hs.block q hqY hn).trans (hb.block q hq)))
  · rcases hs.new q hq with h' | h'
    · exact .inl h'
    · exact .inr (Nat.le_trans hb.size h')
end
end Go.Proofs.YtmgnlgobkkfjhaaGreatDoor.Kg
/- daily: tells (12). -/
namespace Go.Proofs.YtmgnlgobkkfjhaaGreatDoor.Kg
open Go Go.RowKit Go.Shelf Go.ChangeShapes Go.WideShapes Go.ChangeAt Go.Maps
set_option linter.unusedVariables false
set_option linter.unusedSimpArgs false
set_option maxRecDepth 100000
set_option maxHeartbeats 8000000
attribute [local go_sem ↓] stP_is
theorem tells_any {w : World} {d r : Nat} {F : Nat → Prop} {L : List Ro} (hT : Tw w d r F L) (hP : Pw w) (hF2 : ∀ q, F q → 2 ≤ q) {pR : Option Addr} {N cR : Nat} {R : List Ro} (hN : R.length = N) (hN2 : N ≤ 1000000) (hNs : L.length ≤ 1000000) (hcR : pR = none → cR = 0) (hL : Lies kR w pR R) (hpF : 0 < R.length → ∀ b o, pR = some ⟨b, o, none⟩ → ¬ F b)
    (hcan : Can R) (who : Int) (nm : ByteArray) (fr tt : Int) :
    Calls Tryz.prog 12 #[.agg #[.pointer (some ⟨d, 0, none⟩), .pointer (some ⟨r, 0, none⟩)], .agg #[.int .i64 who, .slice pR N cR, .string nm, .int .i64 fr, .int .i64 tt]] w fun e w' => TlOut w d r F L R e w' := by
  obtain ⟨W1, hW1⟩ : ∃ W1, W1 = (w.alloc (.cells #[.pointer (some ⟨d, 0, none⟩), .pointer (some ⟨r, 0, none⟩)] 42)).alloc (.cells #[.int .i64 who, .slice pR N cR, .string nm, .int .i64 fr, .int .i64 tt] 68) := ⟨_, rfl⟩
  obtain ⟨b1, hb1⟩ : ∃ b1, b1 = w.heap.size := ⟨_, rfl⟩
  obtain ⟨b2, hb2⟩ : ∃ b2, b2 = w.heap.size + 1 := ⟨_, rfl⟩
  have hbW1 : Below w.heap.size w W1 := by rw [hW1]; exact bal (bal (Below.refl _ _) _) _
  have hx1 : W1.heap[b1]? = some (.cells #[.pointer (some ⟨d, 0, none⟩), .pointer (some ⟨r, 0, none⟩)] 42 (0, 0)) := by rw [hW1, hb1, Below.heap_alloc _ _ _ (by simp)]; exact heap_new _ _
  have hx2 : W1.heap[b2]? = some (.cells #[.int .i64 who, .slice pR N cR, .string nm, .int .i64 fr, .int .i64 tt] 68 (0, 0)) := by
    rw [hW1, hb2]
    have := heap_new (w.alloc (.cells #[.pointer (some ⟨d, 0, none⟩), .pointer (some ⟨r, 0, none⟩)] 42)) (.cells #[.int .i64 who, .slice pR N cR, .string nm, .int .i64 fr, .int .i64 tt] 68)
    rw [World.size_alloc] at this
    exact this
  have hz1 : W1.heap.size = w.heap.size + 2 := by rw [hW1]; simp
  have g1 : W1.cell? ⟨b2, 1, none⟩ = some (.slice pR N cR) := by rw [cell_at hx2]; rfl
  have d22 := hide (room22 (c := cR) (hP.below hbW1) hcR (hL.below hbW1) (by omega))
  rw [hN] at d22
  have hlt1 : b1 < W1.heap.size := by omega
  have hlt2 : b2 < W1.heap.size := by omega
  have HT := hide hT; have HP := hide hP; have HF2 := hide hF2; have HN := hide hN; have HL := hide hL; have HPF := hide hpF; have HCAN := hide hcan; have HBW := hide hbW1; have HX1 := hide hx1; have HX2 := hide hx2; have HZ1 := hide hz1; have HLT1 := hide hlt1; have HLT2 := hide hlt2
  have HB1 := hide hb1; have HB2 := hide hb2
  clear hT hP hF2 hN hL hpF hcan hbW1 hx1 hx2 hz1 hlt1 hlt2 hcR
  go_enter Tryz.func12, Tryz.ntmps12
  go_upto_region 1 with fail
  rw [← hW1]
  rw [show w.heap.size + 1 = b2 from hb2.symm, show w.heap.size = b1 from hb1.symm]
  clear hW1 hb1 hb2
  go_upto_region 2 with (first | (go_at_call 22; refine (unhide d22).mono ?_; rintro e w2 ⟨p2, c2, rfl, hm2⟩))
  have hll : (R ++ pks mkP 64).length = N + 64 := by rw [List.length_append, pks_len, unhide HN]
  obtain ⟨p2', c2', e2', hp2n, hp2⟩ := row_slice hm2.row
  have ep : p2' = p2 := by injection e2' with e _ _; exact e.symm
  have ec : c2' = c2 := by injection e2' with _ _ e; exact e.symm
  subst ep ec
  obtain ⟨a2, ha2⟩ : ∃ a, p2' = some a := by
    cases hp : p2' with
    | none => have := (hp2n hp).1; rw [hll] at this; omega
    | some a => exact ⟨a, rfl⟩
  obtain ⟨ho2, hs2, hB2, hle2⟩ := hp2 a2 ha2
  obtain ⟨g, hg⟩ : ∃ g, g = a2.block := ⟨_, rfl⟩
  have ea : p2' = some ⟨g, 0, none⟩ := by rw [ha2, hg]; cases a2; simp at ho2 hs2; rw [ho2, hs2]
  subst ea
  rw [hll] at hle2
  have hgW : W1.heap.size ≤ g := by rw [hg]; exact hB2
  clear ha2 hp2 hp2n e2' ho2 hs2 hB2 hg
  obtain ⟨Y, hY⟩ : ∃ Y, Y = w2.drew := ⟨_, rfl⟩
  have bY1 : Below W1.heap.size W1 Y := by rw [hY]; exact below_drewN hm2.bel 1
  have bY : Below w.heap.size w Y := (unhide HBW).trans (bY1.mono (unhide HBW).size)
  have mY : Ml kR W1 Y (.slice (some ⟨g, 0, none⟩) (N + 64) c2') (R ++ pks mkP 64) := by rw [hY]; exact hm2.below (below_drewN (Below.refl _ _) 1)
  have rowY := mY.row
  rw [hll] at rowY
  have hgY : g < Y.heap.size := (row_block rowY rfl).2.1
  have hLY : Lies kR Y (some ⟨g, 0, none⟩) (R ++ pks mkP 64) := own_lies kR_ok hll rowY
  have hTY := (unhide HT).below bY
  obtain ⟨Q, S, hv, hr, h1, h2, h3⟩ := hTY.ex
  have hFl := (unhide HT).lt
  have hgF : ¬ F g := fun h => by have := hFl g h; have := (unhide HBW).size; omega
  have hRA : Lies kR Y (some ⟨g, 0, none⟩) R := ⟨(fun h => by cases h), fun k hk => by
    have hr' := hLY.2 k (by rw [hll]; have := unhide HN; omega)
    rw [List.getElem_append_left hk] at hr'
    exact hr'⟩
  have d16 := hide (ao_any (cR := c2') hv (by omega) (unhide HN) (by omega) hRA (unhide HCAN))
  have y1 : Y.cell? ⟨b1, 0, none⟩ = some (.pointer (some ⟨d, 0, none⟩)) := by rw [World.cell?_of_block (bY1.block b1 (unhide HLT1)), cell_at (unhide HX1)]; rfl
  have y2 : Y.cell? ⟨b2, 1, none⟩ = some (.slice pR N cR) := by rw [World.cell?_of_block (bY1.block b2 (unhide HLT2)), cell_at (unhide HX2)]; rfl
  have hN0 : (0 : Int) ≤ (N : Int) := by omega
  have hNc : (N : Int) ≤ (c2' : Int) := by omega
  have hNc' : N ≤ c2' := by omega
  have HTY := hide hTY; have HV := hide hv; have HR := hide hr; have HH1 := hide h1; have HH2 := hide h2; have HH3 := hide h3; have HBY := hide bY; have HBY1 := hide bY1; have HROW := hide rowY; have HLY := hide hLY; have HGF := hide hgF; have HGY := hide hgY; have HGW := hide hgW; have HFL := hide hFl; have HLL := hide hll
  -- the boxes stand apart from the views
  have hB1F : ∀ q, F q → q ≠ b1 ∧ q ≠ b2 := fun q hq => by
    have := hFl q hq
    have e1 := unhide HB1
    have e2 := unhide HB2
    exact ⟨by omega, by omega⟩
  have HAP := hide hB1F
  clear hm2 bY1 bY mY rowY hgY hLY hTY hv hr h1 h2 h3 hFl hgF hRA hgW hll hle2 g1 d22 hB1F
  refine wp_region_last (n := 8) (S := fun X => X.cell? ⟨b1, 0, none⟩ = some (.pointer (some ⟨d, 0, none⟩)) ∧ X.cell? ⟨b2, 1, none⟩ = some (.slice pR N cR)) (by kernel_rfl) (by rw [← hY]; exact ⟨y1, y2⟩) (fun hHeld => ?_)
  rw [← hY] at hHeld ⊢
  clear hY
  refine tkW 0 ?_; refine tkS 1 ?_; refine tkW 2 ?_; refine tkW 3 ?_; refine tkS 4 ?_; refine tkW 5 ?_; refine tkW 6 ?_
  refine wpAnyL_one (i := 7) (by kernel_rfl) rfl (fun KK hK => ?_)
  go_simp
  refine (unhide d16).mono ?_
  rintro e w3 ⟨cc, rfl, hA⟩
  have k1 : w3.heap[b1]? = Y.heap[b1]? := hA.far (Nat.lt_of_lt_of_le (unhide HLT1) (unhide HBY1).size) (fun hb => ((unhide HAP) _ (unhide HH1 _ hb)).1 rfl)
  have k2 : w3.heap[b2]? = Y.heap[b2]? := hA.far (Nat.lt_of_lt_of_le (unhide HLT2) (unhide HBY1).size) (fun hb => ((unhide HAP) _ (unhide HH1 _ hb)).2 rfl)
  have z1 := (World.cell?_of_block (a := ⟨b1, 0, none⟩) k1).trans y1
  have z2 := (World.cell?_of_block (a := ⟨b2, 1, none⟩) k2).trans y2
  have X1 : w3.heap[b1]? = some (.cells #[.pointer (some ⟨d, 0, none⟩), .pointer (some ⟨r, 0, none⟩)] 42 (0, 0)) := k1.trans (((unhide HBY1).block b1 (unhide HLT1)).trans (unhide HX1))
  have z3 : w3.cell? ⟨b1, 1, none⟩ = some (.pointer (some ⟨r, 0, none⟩)) := by rw [cell_at X1]; rfl
  have hLR3 : Lies kR w3 pR R := ((unhide HL).below (unhide HBY)).far hA.size (fun b o e hb hl => hA.far hb (fun hk => unhide HPF hl b o e (unhide HH1 b hk)))
  have d19 := hide (ao_next (cR := cR) (unhide HTY) (unhide HV) (unhide HR) (unhide HH1) (unhide HH2) (unhide HH3) hA hLR3 (by have := unhide HN; omega) (unhide HCAN))
  rw [unhide HN] at d19
  have HA := hide hA; have HX13 := hide X1; have HLR3 := hide hLR3; have HZ2 := hide z2
  clear hA k1 k2 X1 hLR3 hHeld y1 y2
  go_simp
  refine hK.out _ _ ⟨z1, z2⟩ (fun hHeld => ?_)
  clear hK KK hHeld
  refine wpAnyL_past (i := 8) (by kernel_rfl) rfl (by kernel_rfl) (fun KK hK => ?_)
  go_simp
  refine hK.out _ _ ?_
  clear hK KK
  refine wpAnyL_done (by kernel_rfl) ?_
  go_upto_region 4 with (first | (go_at_call 19; refine (unhide d19).mono ?_; rintro e w4 ⟨rfl, hnx⟩))
  have hnear : ∀ q, q < Y.heap.size → ¬ F q → w4.heap[q]? = Y.heap[q]? := by
    obtain ⟨F', L', _, hs, _⟩ := hnx
    exact hs.block
  have hz4 : Y.heap.size ≤ w4.heap.size := by
    obtain ⟨F', L', _, hs, _⟩ := hnx
    exact hs.size
  have hbF2 : ¬ F b2 := fun h => (unhide HAP b2 h).2 rfl
  have hb2Y : b2 < Y.heap.size := Nat.lt_of_lt_of_le (unhide HLT2) (unhide HBY1).size
  have q2 : w4.cell? ⟨b2, 1, none⟩ = some (.slice pR N cR) := by
    rw [World.cell?_of_block ((hnear b2 hb2Y hbF2).trans ((unhide HBY1).block b2 (unhide HLT2))), cell_at (unhide HX2)]
    rfl
  have hPY := (unhide HP).below (unhide HBY)
  have hP4 : Pw w4 := hPY.keep (hnear 1 hPY.lt (fun h => by have := unhide HF2 1 h; omega))
  have hLR4 : Lies kR w4 pR R := ((unhide HL).below (unhide HBY)).far hz4 (fun b o e hb hl => hnear b hb (unhide HPF hl b o e))
  have hLG4 : Lies kR w4 (some ⟨g, 0, none⟩) (R ++ pks mkP 64) := (unhide HLY).far hz4 (fun b o e hb _ => by
    injection e with e
    injection e with e _ _
    rw [← e]
    exact hnear g (unhide HGY) (unhide HGF))
  have row4 : w4.ownsRow W1.heap.size kR.e kR.s (.slice (some ⟨g, 0, none⟩) (N + 64) c2') (N + 64) (kR.flat (R ++ pks mkP 64)) := row_keep (unhide HROW) (fun q hq => by
    injection hq with hq
    rw [← hq]
    exact hnear g (unhide HGY) (unhide HGF))
  have d23 := hide (kept23 (cc := cR) (c := c2') hP4 (unhide HN) (by omega) hLR4 hLG4)
  have HNX := hide hnx; have HROW4 := hide row4
  clear hnx hnear hz4 hbF2 hb2Y hPY hP4 hLR4 hLG4 row4 z1 z2 z3 d19 d16 HA HX13 HLR3 HZ2
  go_upto_region 6 with (first | (go_at_call 23; refine (unhide d23).mono ?_; rintro e w5 ⟨rfl, hb5⟩))
  have row5 := row_keep (unhide HROW4) (W' := w5) (fun q hq => hb5.block q (row_block (unhide HROW4) hq).2.1)
  have HOV : Hid (Ov w5 w5 g (N + 64)) := ⟨rfl, rfl, rfl, rfl, fun _ _ => rfl, fun k hk => own_there kR_ok row5 hk⟩
  have HB5 := hide hb5
  clear row5 hb5 d23 q2
  go_loopw [9] (fun v9 wr => ∃ (k : Nat), v9 = .int .i64 k ∧ k ≤ N + 64 ∧ Hid (Ov w5 wr g (N + 64))) (fun v9 _ => N + 64 - (intOf v9).toNat)
  case atStart => exact ⟨0, rfl, by omega, unhide HOV⟩
  case round =>
    obtain ⟨k, rfl, hk, hrel⟩ := hrel
    by_cases hlt : k < N + 64
    · have hI : (k : Int) < (N : Int) + 64 := by omega
      have hI' : (k : Int) < ((N + 64 : Nat) : Int) := by omega
      have hI0 : (0 : Int) ≤ (k : Int) := by omega
      have hst := run_stZ ((unhide hrel).th k hlt)
      have HST := hide ((unhide hrel).step (k * 9) [.int .i64 0, .int .i64 0, .int .i64 5, .int .i64 0, .string ⟨#[]⟩, .string ⟨#[90]⟩, .int .i64 12345, .string ⟨#[]⟩, .string ⟨#[]⟩])
      clear hrel
      go_wp2_with fail
      exact ⟨⟨k + 1, by go_num, by omega, unhide HST⟩, by simp [intOf]; omega⟩
    · have hI : ¬ (k : Int) < (N : Int) + 64 := by omega
      have hI' : ¬ (k : Int) < ((N + 64 : Nat) : Int) := by omega
      have HO : Hid (TlOut w d r F L R (.returned (.bool true)) wr) := ⟨rfl, nx_over (unhide HBY) (unhide HFL) (unhide HNX) (unhide HB5) (unhide hrel) ⟨Nat.le_trans (unhide HBW).size (unhide HGW), unhide HGY⟩⟩
      clear hrel
      go_wp2_with fail
      go_ret
      exact unhide HO
end Go.Proofs.YtmgnlgobkkfjhaaGreatDoor.Kg
/- daily: two pairs of views and the book, step by step. -/
namespace Go.Proofs.YtmgnlgobkkfjhaaGreatDoor.Kg
open Go Go.RowKit Go.Shelf Go.ChangeShapes Go.WideShapes Go.ChangeAt Go.Maps
set_option linter.unusedVariables false
set_option linter.unusedSimpArgs false
set_option maxRecDepth 100000
set_option maxHeartbeats 8000000
/-- one pair of views or two that lie apart -/
def Two (w : World) (d1 r1 d2 r2 M : Nat) (G : Nat → Prop) : Prop :=
  (d2 = d1 ∧ r2 = r1 ∧ ∃ F L, Tw w d1 r1 F L ∧ mz L ≤ M ∧ ∀ q, F q → G q) ∨
  (∃ F1 L1 F2 L2, Tw w d1 r1 F1 L1 ∧ Tw w d2 r2 F2 L2 ∧ mz L1 ≤ M ∧ mz L2 ≤ M ∧ (∀ q, F1 q → G q) ∧ (∀ q, F2 q → G q) ∧ ∀ q, F1 q → ¬ F2 q)
theorem Two.keep {w w' : World} {d1 r1 d2 r2 M : Nat} {G : Nat → Prop} (h : Two w d1 r1 d2 r2 M G) (hz : w.heap.size ≤ w'.heap.size) (hb : ∀ q, G q → w'.heap[q]? = w.heap[q]?) : Two w' d1 r1 d2 r2 M G := by
  rcases h with ⟨e1, e2, F, L, hT, hm, hF⟩ | ⟨F1, L1, F2, L2, hT1, hT2, hm1, hm2, hF1, hF2, hd⟩
  · exact .inl ⟨e1, e2, F, L, hT.keep hz (fun q hq => hb q (hF q hq)), hm, hF⟩
  · exact .inr ⟨F1, L1, F2, L2, hT1.keep hz (fun q hq => hb q (hF1 q hq)), hT2.keep hz (fun q hq => hb q (hF2 q hq)), hm1, hm2, hF1, hF2, hd⟩
theorem Two.more {w : World} {d1 r1 d2 r2 M M' : Nat} {G : Nat → Prop} (h : Two w d1 r1 d2 r2 M G) (hM : M ≤ M') : Two w d1 r1 d2 r2 M' G := by
  rcases h with ⟨e1, e2, F, L, hT, hm, hF⟩ | ⟨F1, L1, F2, L2, hT1, hT2, hm1, hm2, hF1, hF2, hd⟩
  · exact .inl ⟨e1, e2, F, L, hT, Nat.le_trans hm hM, hF⟩
  · exact .inr ⟨F1, L1, F2, L2, hT1, hT2, Nat.le_trans hm1 hM, Nat.le_trans hm2 hM, hF1, hF2, hd⟩
/-- the view that is asked or told: the first one (o = false) or the second one -/
def pk (o : Bool) (a b : Nat) : Nat := if o = true then b else a
theorem nx_mz {w w' : World} {d r : Nat} {F : Nat → Prop} {L : List Ro} {R : List Ro} {M : Nat} (h : NX w d r F L R w') (hm : mz L ≤ M) : ∃ F' L', Tw w' d r F' L' ∧ Sep w w' F F' ∧ mz L' ≤ M + mz R := by
  obtain ⟨F', L', hT, hs, h⟩ := h
  refine ⟨F', L', hT, hs, ?_⟩
  rcases h with e | e
  · rw [e]; omega
  · rw [e, mz_append]; omega
theorem Two.pick {w : World} {d1 r1 d2 r2 M : Nat} {G : Nat → Prop} (h : Two w d1 r1 d2 r2 M G) (o : Bool) :
    ∃ F L, Tw w (pk o d1 d2) (pk o r1 r2) F L ∧ mz L ≤ M ∧ (∀ q, F q → G q) ∧ ∀ R w', NX w (pk o d1 d2) (pk o r1 r2) F L R w' → Two w' d1 r1 d2 r2 (M + mz R) (fun q => G q ∨ w.heap.size ≤ q) := by
  rcases h with ⟨e1, e2, F, L, hT, hm, hF⟩ | ⟨F1, L1, F2, L2, hT1, hT2, hm1, hm2, hF1, hF2, hd⟩
  · have ed : pk o d1 d2 = d1 := by unfold pk; split <;> simp [e1]
    have er : pk o r1 r2 = r1 := by unfold pk; split <;> simp [e2]
    rw [ed, er]
    refine ⟨F, L, hT, hm, hF, fun R w' hn => ?_⟩
    obtain ⟨F', L', hT', hs, hm'⟩ := nx_mz hn hm
    exact .inl ⟨e1, e2, F', L', hT', hm', fun q hq => (hs.new q hq).imp (hF q) id⟩
  · cases o with
    | false =>
      refine ⟨F1, L1, hT1, hm1, hF1, fun R w' hn => ?_⟩
      obtain ⟨F', L', hT', hs, hm'⟩ := nx_mz hn hm1
      refine .inr ⟨F', L', F2, L2, hT', hT2.keep hs.size (fun q hq => hs.block q (hT2.lt q hq) (fun h => hd q h hq)), hm', by omega, fun q hq => (hs.new q hq).imp (hF1 q) id, fun q hq => .inl (hF2 q hq), fun q hq hq2 => ?_⟩
      rcases hs.new q hq with h' | h'
      · exact hd q h' hq2
      · have := hT2.lt q hq2; omega
    | true =>
      refine ⟨F2, L2, hT2, hm2, hF2, fun R w' hn => ?_⟩
      obtain ⟨F', L', hT', hs, hm'⟩ := nx_mz hn hm2
      refine .inr ⟨F1, L1, F', L', hT1.keep hs.size (fun q hq => hs.block q (hT1.lt q hq) (fun h => hd q hq h)), hT', by omega, hm', fun q hq => .inl (hF1 q hq), fun q hq => (hs.new q hq).imp (hF2 q) id, fun q hq hq2 => ?_⟩
      rcases hs.new q hq2 with h' | h'
      · exact hd q hq h'
      · have := hT1.lt q hq; omega
/-- where plays stands behind its start -/
structure St (w0 w : World) (bk ba bb d1 r1 d2 r2 M : Nat) : Prop where
  bel : Below w0.heap.size w0 w
  pw : 1 < w0.heap.size
  ex : ∃ (U G : Nat → Prop), KB w bk U ∧ Two w d1 r1 d2 r2 M G ∧ (∀ q, U q → w0.heap.size ≤ q ∧ q ≠ ba ∧ q ≠ bb) ∧ (∀ q, G q → w0.heap.size ≤ q ∧ q ≠ bk ∧ q ≠ ba ∧ q ≠ bb ∧ ¬ U q)
  xa : w.heap[ba]? = some (.cells #[.pointer (some ⟨d1, 0, none⟩), .pointer (some ⟨r1, 0, none⟩)] 42 (0, 0))
  xb : w.heap[bb]? = some (.cells #[.pointer (some ⟨d2, 0, none⟩), .pointer (some ⟨r2, 0, none⟩)] 42 (0, 0))
  la : w0.heap.size ≤ ba ∧ w0.heap.size ≤ bb ∧ w0.heap.size ≤ bk
  ne : ba ≠ bk ∧ bb ≠ bk
theorem St.below {w0 w w' : World} {bk ba bb d1 r1 d2 r2 M : Nat} (h : St w0 w bk ba bb d1 r1 d2 r2 M) (hb : Below w.heap.size w w') : St w0 w' bk ba bb d1 r1 d2 r2 M := by
  obtain ⟨U, G, hk, ht, hU, hG⟩ := h.ex
  have hG' : ∀ q, G q → True := fun _ _ => trivial
  have lt2 : Two w' d1 r1 d2 r2 M G := by
    rcases ht with ⟨e1, e2, F, L, hT, hm, hF⟩ | ⟨F1, L1, F2, L2, hT1, hT2, hm1, hm2, hF1, hF2, hd⟩
    · exact .inl ⟨e1, e2, F, L, hT.below hb, hm, hF⟩
    · exact .inr ⟨F1, L1, F2, L2, hT1.below hb, hT2.below hb, hm1, hm2, hF1, hF2, hd⟩
  exact ⟨h.bel.trans (hb.mono h.bel.size), h.pw, ⟨U, G, hk.below hb, lt2, hU, hG⟩, (hb.block ba (Array.getElem?_eq_some_iff.1 h.xa).1).trans h.xa, (hb.block bb (Array.getElem?_eq_some_iff.1 h.xb).1).trans h.xb, h.la, h.ne⟩
theorem St.more {w0 w : World} {bk ba bb d1 r1 d2 r2 M M' : Nat} (h : St w0 w bk ba bb d1 r1 d2 r2 M) (hM : M ≤ M') : St w0 w bk ba bb d1 r1 d2 r2 M' := by
  obtain ⟨U, G, hk, ht, hU, hG⟩ := h.ex
  exact ⟨h.bel, h.pw, ⟨U, G, hk, ht.more hM, hU, hG⟩, h.xa, h.xb, h.la, h.ne⟩
theorem belowSep {w0 w w' : World} {S S' : Nat → Prop} (hb : Below w0.heap.size w0 w) (hs : Sep w w' S S') (h : ∀ q, S q → w0.heap.size ≤ q) : Below w0.heap.size w0 w' :=
  ⟨hs.os.trans hb.os, hs.tape.trans hb.tape, hs.output.trans hb.output, Nat.le_trans hb.size hs.size, fun q hq => (hs.block q (Nat.lt_of_lt_of_le hq hb.size) (fun hS => by have := h q hS; omega)).trans (hb.block q hq)⟩
/-- a look -/
theorem St.look {w0 w : World} {bk ba bb d1 r1 d2 r2 M : Nat} (h : St w0 w bk ba bb d1 r1 d2 r2 M) (hM : M ≤ 1048576) (o : Bool) (a : ActV) (hs : a.nm.size ≤ 1048576) :
    Calls Tryz.prog 13 #[.agg #[.pointer (some ⟨pk o d1 d2, 0, none⟩), .pointer (some ⟨pk o r1 r2, 0, none⟩)], .agg #[.int .i64 a.who, .slice a.p a.R.length a.c, .string a.nm, .int .i64 a.fr, .int .i64 a.tt], .pointer (some ⟨bk, 0, none⟩)] w fun e w' => e = .returned (.bool true) ∧ St w0 w' bk ba bb d1 r1 d2 r2 M := by
  obtain ⟨U, G, hk, ht, hU, hG⟩ := h.ex
  obtain ⟨F, L, hT, hm, hF, _⟩ := ht.pick o
  refine (looks_any hT (Nat.le_trans hm hM) hk (fun q hq => ⟨(hG q (hF q hq)).2.1, (hG q (hF q hq)).2.2.2.2⟩) a hs).mono ?_
  rintro e w' ⟨rfl, U', hk', hs'⟩
  have hla := h.la
  have hlt : ∀ q, G q → q = q := fun _ _ => rfl
  have hba : ba < w.heap.size := (Array.getElem?_eq_some_iff.1 h.xa).1
  have hbb : bb < w.heap.size := (Array.getElem?_eq_some_iff.1 h.xb).1
  have hnew : ∀ q, U' q → U q ∨ w.heap.size ≤ q := fun q hq => by
    rcases hs'.new q (.inr hq) with (h' | h') | h'
    · exact absurd h' (hk'.ul q hq).1
    · exact .inl h'
    · exact .inr h'
  refine ⟨rfl, belowSep h.bel hs' (fun q hq => ?_), h.pw, ⟨U', fun q => G q ∧ q < w.heap.size, hk', ?_, fun q hq => ?_, fun q hq => ?_⟩, ?_, ?_, h.la, h.ne⟩
  · rcases hq with rfl | hq
    · exact hla.2.2
    · exact (hU q hq).1
  · have ht2 : Two w d1 r1 d2 r2 M (fun q => G q ∧ q < w.heap.size) := by
      rcases ht with ⟨e1, e2, F, L, hT, hm, hF⟩ | ⟨F1, L1, F2, L2, hT1, hT2, hm1, hm2, hF1, hF2, hd⟩
      · exact .inl ⟨e1, e2, F, L, hT, hm, fun q hq => ⟨hF q hq, hT.lt q hq⟩⟩
      · exact .inr ⟨F1, L1, F2, L2, hT1, hT2, hm1, hm2, fun q hq => ⟨hF1 q hq, hT1.lt q hq⟩, fun q hq => ⟨hF2 q hq, hT2.lt q hq⟩, hd⟩
    exact ht2.keep hs'.size (fun q hq => hs'.block q hq.2 (fun h' => by
      rcases h' with h' | h'
      · exact (hG q hq.1).2.1 h'
      · exact (hG q hq.1).2.2.2.2 h'))
  · rcases hnew q hq with h' | h'
    · exact hU q h'
    · exact ⟨Nat.le_trans h.bel.size h', by omega, by omega⟩
  · have hg := hG q hq.1
    refine ⟨hg.1, hg.2.1, hg.2.2.1, hg.2.2.2.1, fun hu => ?_⟩
    rcases hnew q hu with h' | h'
    · exact hg.2.2.2.2 h'
    · have := hq.2; omega
  · exact (hs'.block ba hba (fun h' => by
      rcases h' with h' | h'
      · exact h.ne.1 h'
      · exact (hU ba h').2.1 rfl)).trans h.xa
  · exact (hs'.block bb hbb (fun h' => by
      rcases h' with h' | h'
      · exact h.ne.2 h'
      · exact (hU bb h').2.2 rfl)).trans h.xb
/-- an act -/
theorem St.tell {w0 w : World} {bk ba bb d1 r1 d2 r2 M : Nat} (h : St w0 w bk ba bb d1 r1 d2 r2 M) (hM : M ≤ 1048576) (o : Bool) {a : ActV} (ha : ActOk w0 a) (hz : mz a.R ≤ 1048576) :
    Calls Tryz.prog 12 #[.agg #[.pointer (some ⟨pk o d1 d2, 0, none⟩), .pointer (some ⟨pk o r1 r2, 0, none⟩)], .agg #[.int .i64 a.who, .slice a.p a.R.length a.c, .string a.nm, .int .i64 a.fr, .int .i64 a.tt]] w fun e w' => e = .returned (.bool true) ∧ St w0 w' bk ba bb d1 r1 d2 r2 (M + mz a.R) := by
  obtain ⟨U, G, hk, ht, hU, hG⟩ := h.ex
  obtain ⟨F, L, hT, hm, hF, hnx⟩ := ht.pick o
  have hla := h.la
  have hpw := h.pw
  have hba : ba < w.heap.size := (Array.getElem?_eq_some_iff.1 h.xa).1
  have hbb : bb < w.heap.size := (Array.getElem?_eq_some_iff.1 h.xb).1
  have hln := mz_len a.R
  have hln2 := mz_len L
  refine (tells_any hT hk.tab (fun q hq => by have := (hG q (hF q hq)).1; omega) rfl (by omega) (by omega) ha.n0 (ha.li.below h.bel) (fun hne b off e hb => ?_) ⟨fun r hr => ?_, ha.am⟩ a.who a.nm a.fr a.tt).mono ?_
  · obtain ⟨b', o', e', hlt, _⟩ := ha.li.2 0 hne
    rw [e] at e'
    injection e' with e'
    injection e' with e' _ _
    subst e'
    have := (hG b (hF b hb)).1
    omega
  · have := mz_mem hr
    omega
  rintro e w' ⟨rfl, hn⟩
  have ht' := hnx _ _ hn
  obtain ⟨F', L', hT', hs, _⟩ := hn
  refine ⟨rfl, ⟨belowSep h.bel hs (fun q hq => (hG q (hF q hq)).1), h.pw, ⟨U, _, ?_, ht', hU, fun q hq => ?_⟩, ?_, ?_, h.la, h.ne⟩⟩
  · have hbkF : ¬ F bk := fun h' => (hG bk (hF bk h')).2.1 rfl
    have hbk := hs.block bk hk.lt hbkF
    exact hk.on hs.size (fun j => World.cell?_of_block hbk) (fun j => World.frozen?_of_block hbk) (hs.block 1 hk.tab.lt (fun h' => by have := (hG 1 (hF 1 h')).1; omega)) (fun q hq => hs.block q (hk.ul q hq).2.2 (fun h' => (hG q (hF q h')).2.2.2.2 hq))
  · rcases hq with hq | hq
    · exact hG q hq
    · have := hk.lt
      exact ⟨Nat.le_trans h.bel.size hq, by omega, by omega, by omega, fun hu => by have := (hk.ul q hu).2.2; omega⟩
  · exact (hs.block ba hba (fun h' => (hG ba (hF ba h')).2.2.1 rfl)).trans h.xa
  · exact (hs.block bb hbb (fun h' => (hG bb (hF bb h')).2.2.2.1 rfl)).trans h.xb
/-- an act, told where more has been made -/
theorem St.tellZ {w0 w Z : World} {bk ba bb d1 r1 d2 r2 M : Nat} (h : St w0 w bk ba bb d1 r1 d2 r2 M) (hZ : Below w.heap.size w Z) (hM : M ≤ 1048576) (o : Bool) {a : ActV} (ha : ActOk w0 a) (hz : mz a.R ≤ 1048576) :
    Calls Tryz.prog 12 #[.agg #[.pointer (some ⟨pk o d1 d2, 0, none⟩), .pointer (some ⟨pk o r1 r2, 0, none⟩)], .agg #[.int .i64 a.who, .slice a.p a.R.length a.c, .string a.nm, .int .i64 a.fr, .int .i64 a.tt]] Z fun e w' => e = .returned (.bool true) ∧ St w0 w' bk ba bb d1 r1 d2 r2 (M + mz a.R) ∧ ∀ q, w.heap.size ≤ q → q < Z.heap.size → w'.heap[q]? = Z.heap[q]? := by
  obtain ⟨U, G0, hk0, ht0, hU, hG0⟩ := h.ex
  have hk := hk0.below hZ
  obtain ⟨G, hGe⟩ : ∃ G : Nat → Prop, G = fun q => G0 q ∧ q < w.heap.size := ⟨_, rfl⟩
  have hG : ∀ q, G q → w0.heap.size ≤ q ∧ q ≠ bk ∧ q ≠ ba ∧ q ≠ bb ∧ ¬ U q := fun q hq => by rw [hGe] at hq; exact hG0 q hq.1
  have hGl : ∀ q, G q → q < w.heap.size := fun q hq => by rw [hGe] at hq; exact hq.2
  have ht : Two Z d1 r1 d2 r2 M G := by
    rcases ht0 with ⟨e1, e2, F, L, hT, hm, hF⟩ | ⟨F1, L1, F2, L2, hT1, hT2, hm1, hm2, hF1, hF2, hd⟩
    · exact .inl ⟨e1, e2, F, L, hT.below hZ, hm, fun q hq => by rw [hGe]; exact ⟨hF q hq, hT.lt q hq⟩⟩
    · exact .inr ⟨F1, L1, F2, L2, hT1.below hZ, hT2.below hZ, hm1, hm2, fun q hq => by rw [hGe]; exact ⟨hF1 q hq, hT1.lt q hq⟩, fun q hq => by rw [hGe]; exact ⟨hF2 q hq, hT2.lt q hq⟩, hd⟩
  have h := h.below hZ
  obtain ⟨F, L, hT, hm, hF, hnx⟩ := ht.pick o
  have hla := h.la
  have hpw := h.pw
  have hba : ba < Z.heap.size := (Array.getElem?_eq_some_iff.1 h.xa).1
  have hbb : bb < Z.heap.size := (Array.getElem?_eq_some_iff.1 h.xb).1
  have hln := mz_len a.R
  have hln2 := mz_len L
  refine (tells_any hT hk.tab (fun q hq => by have := (hG q (hF q hq)).1; omega) rfl (by omega) (by omega) ha.n0 (ha.li.below h.bel) (fun hne b off e hb => ?_) ⟨fun r hr => ?_, ha.am⟩ a.who a.nm a.fr a.tt).mono ?_
  · obtain ⟨b', o', e', hlt, _⟩ := ha.li.2 0 hne
    rw [e] at e'
    injection e' with e'
    injection e' with e' _ _
    subst e'
    have := (hG b (hF b hb)).1
    omega
  · have := mz_mem hr
    omega
  rintro e w' ⟨rfl, hn⟩
  have ht' := hnx _ _ hn
  obtain ⟨F', L', hT', hs, _⟩ := hn
  refine ⟨rfl, ⟨belowSep h.bel hs (fun q hq => (hG q (hF q hq)).1), h.pw, ⟨U, _, ?_, ht', hU, fun q hq => ?_⟩, ?_, ?_, h.la, h.ne⟩, fun q h1 h2 => hs.block q h2 (fun hF' => by have := hGl q (hF q hF'); omega)⟩
  · have hbkF : ¬ F bk := fun h' => (hG bk (hF bk h')).2.1 rfl
    have hbk := hs.block bk hk.lt hbkF
    exact hk.on hs.size (fun j => World.cell?_of_block hbk) (fun j => World.frozen?_of_block hbk) (hs.block 1 hk.tab.lt (fun h' => by have := (hG 1 (hF 1 h')).1; omega)) (fun q hq => hs.block q (hk.ul q hq).2.2 (fun h' => (hG q (hF q h')).2.2.2.2 hq))
  · rcases hq with hq | hq
    · exact hG q hq
    · have := hk.lt
      exact ⟨Nat.le_trans h.bel.size hq, by omega, by omega, by omega, fun hu => by have := (hk.ul q hu).2.2; omega⟩
  · exact (hs.block ba hba (fun h' => (hG ba (hF ba h')).2.2.1 rfl)).trans h.xa
  · exact (hs.block bb hbb (fun h' => (hG bb (hF bb h')).2.2.2.1 rfl)).trans h.xb
end Go.Proofs.YtmgnlgobkkfjhaaGreatDoor.Kg
