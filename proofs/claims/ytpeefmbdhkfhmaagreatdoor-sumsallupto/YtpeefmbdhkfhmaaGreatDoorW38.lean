import Derived.Test.YtpeefmbdhkfhmaaGreatDoorW27
import Derived.Test.YtpeefmbdhkfhmaaGreatDoorW36
import Derived.Test.YtpeefmbdhkfhmaaGreatDoorW07
import Derived.Test.YtpeefmbdhkfhmaaGreatDoorW37
import Derived.Test.YtpeefmbdhkfhmaaGreatDoorW35
/- sums: what an act leaves of both views, plain. -/
namespace Go.Proofs.YtpeefmbdhkfhmaaGreatDoor.Kg
open Go Go.RowKit Go.Shelf Go.ChangeShapes Go.WideShapes Go.ChangeAt Go.Maps
set_option linter.unusedVariables false
set_option linter.unusedSimpArgs false
set_option maxRecDepth 100000
set_option maxHeartbeats 8000000
attribute [local go_sem ↓] stP_is
theorem Lies.far {α : Type} {K : Kd α} {W W' : World} {p : Option Addr} {L : List α} (h : Lies K W p L) (hz : W.heap.size ≤ W'.heap.size) (hb : ∀ b o, p = some ⟨b, o, none⟩ → b < W.heap.size → 0 < L.length → W'.heap[b]? = W.heap[b]?) : Lies K W' p L := by
  refine ⟨h.1, fun k hk => ?_⟩
  obtain ⟨b, off, e, hlt, hr⟩ := h.2 k hk
  exact ⟨b, off, e, Nat.lt_of_lt_of_le hlt hz, fun j u hu => (World.cell?_of_block (hb b off e hlt (by omega))).trans (hr j u hu)⟩
/-- a list is written over -/
structure Ov (a b : World) (g M : Nat) : Prop where
  os : b.os = a.os
  tape : b.tape = a.tape
  output : b.output = a.output
  size : b.heap.size = a.heap.size
  blk : ∀ q, q ≠ g → b.heap[q]? = a.heap[q]?
  th : ∀ k, k < M → b.there g (k * 9) 9
theorem Ov.step {a b : World} {g M : Nat} (h : Ov a b g M) (k : Nat) (vs : List Value) : Ov a (b.setCells g k vs) g M :=
  ⟨(setCells_rest g vs k b).1.trans h.os, (setCells_rest g vs k b).2.1.trans h.tape, (setCells_rest g vs k b).2.2.trans h.output, (setCells_size g vs k b).trans h.size, fun q hq => (setCells_far g hq vs k b).trans (h.blk q hq), fun j hj => World.there_setCells (h.th j hj) _ _ _⟩
theorem run_stZ {W : World} {g i : Nat} (h : W.there g (i * 9) 9) : (stP (.pointer (some ⟨g, i * 9, none⟩)) (.agg #[.int .i64 0, .int .i64 0, .int .i64 0, .int .i64 0, .string ⟨#[]⟩, .string ⟨#[90]⟩, .int .i64 12345, .string ⟨#[]⟩, .string ⟨#[]⟩])).run Tryz.prog W = .ok () (W.setCells g (i * 9) [.int .i64 0, .int .i64 0, .int .i64 0, .int .i64 0, .string ⟨#[]⟩, .string ⟨#[90]⟩, .int .i64 12345, .string ⟨#[]⟩, .string ⟨#[]⟩]) :=
  run_storeAt_mid (P := Tryz.prog) W g (i * 9) 74 #[.int .i64 0, .int .i64 0, .int .i64 0, .int .i64 0, .string ⟨#[]⟩, .string ⟨#[90]⟩, .int .i64 12345, .string ⟨#[]⟩, .string ⟨#[]⟩] (fun j hj => h j (by simpa using hj)) sizP (by simp [Value.oneCell'])
/-- both views behind an act -/
def NX (w : World) (d r : Nat) (F : Nat → Prop) (Ns : List ByteArray) (As : List Int) (R : List Ro) (w' : World) : Prop :=
  ∃ n' F' Ns' As', Tw w' d r n' F' Ns' As' ∧ Sep w w' F F' ∧ ((Ns' = Ns ∧ As' = As) ∨ (Ns' = Ns ++ accR R ∧ As' = As ++ amtR R))
section
variable {w : World} {d r n : Nat} {F : Nat → Prop} {Ns : List ByteArray} {As : List Int}
/-- Apply told to both -/
def AO (Y : World) (d : Nat) (mo mr : Option Nat) (n : Nat) (Ns : List ByteArray) (As : List Int) (R : List Ro) (c : Int) (w' : World) : Prop :=
  (¬ (∀ r ∈ R, okP r) ∧ c = 1 ∧ Below Y.heap.size Y w') ∨
  ((∀ r ∈ R, okP r) ∧ ¬ fits (rw8 (Ns ++ accR R) (As ++ amtR R)) ∧ c = 11 ∧ Below Y.heap.size Y w') ∨
  ((∀ r ∈ R, okP r) ∧ fits (rw8 (Ns ++ accR R) (As ++ amtR R)) ∧ c = 0 ∧ ∃ mo' mr', View w' d mo' mr' (n + 7 * R.length) (rw8 (Ns ++ accR R) (As ++ amtR R)) ∧ Fr (Blk d mo mr) Y w' ∧ ∀ k, Blk d mo' mr' k → Blk d mo mr k ∨ Y.heap.size ≤ k)
theorem AO.size {Y w' : World} {mo mr : Option Nat} {R : List Ro} {c : Int} (h : AO Y d mo mr n Ns As R c w') : Y.heap.size ≤ w'.heap.size := by
  rcases h with ⟨_, _, h⟩ | ⟨_, _, _, h⟩ | ⟨_, _, _, _, _, _, h, _⟩
  · exact h.size
  · exact h.size
  · exact h.size
theorem AO.far {Y w' : World} {mo mr : Option Nat} {R : List Ro} {c : Int} (h : AO Y d mo mr n Ns As R c w') {q : Nat} (hq : q < Y.heap.size) (hn : ¬ Blk d mo mr q) : w'.heap[q]? = Y.heap[q]? := by
  rcases h with ⟨_, _, h⟩ | ⟨_, _, _, h⟩ | ⟨_, _, _, _, _, _, h, _⟩
  · exact h.block q hq
  · exact h.block q hq
  · exact h.block q hq hn
theorem ao_any {mo mr : Option Nat} (hv : View w d mo mr n (rw8 Ns As)) (hlen : As.length = Ns.length) (hn : n ≤ 1152921504606846976) {p : Option Addr} {cR : Nat} {R : List Ro} (hN : R.length ≤ 8388608) (hR : RowsAt w p R) (hpd : ∀ q, p = some ⟨q, 0, none⟩ → q ≠ d)
    (hacc : ∀ r ∈ R, r.acc.size < 4611686018427387904) (hamt : ∀ r ∈ R, -9223372036854775808 ≤ r.amt ∧ r.amt ≤ 9223372036854775807) :
    Calls Tryz.prog 16 #[.pointer (some ⟨d, 0, none⟩), .slice p R.length cR] w fun e w' => ∃ c : Int, e = .returned (.int .i64 c) ∧ AO w d mo mr n Ns As R c w' := by
  have hoks : (∀ r ∈ R, okRow r) ↔ ∀ r ∈ R, okP r := Iff.rfl
  have hrw : rw8 Ns As ++ rws R = rw8 (Ns ++ accR R) (As ++ amtR R) := by rw [rw8_append hlen, rws_rw8]
  refine (apply_exact (cR := cR) hv hn hN hR hpd hacc hamt).mono ?_
  intro e w' h
  unfold VwE at h
  rw [hrw, hoks] at h
  rcases h with ⟨h1, rfl, h2⟩ | ⟨h1, h2, rfl, h3⟩ | ⟨h1, h2, rfl, h3⟩
  · exact ⟨1, rfl, .inl ⟨h1, rfl, h2⟩⟩
  · exact ⟨11, rfl, .inr (.inl ⟨h1, h2, rfl, h3⟩)⟩
  · exact ⟨0, rfl, .inr (.inr ⟨h1, h2, rfl, h3⟩)⟩
/-- the document's Apply behind it -/
theorem ao_next {Y w3 : World} {mo mr : Option Nat} {S : Nat → Prop} {R : List Ro} {c : Int} (hT : Tw Y d r n F Ns As) (hv : View Y d mo mr n (rw8 Ns As)) (hr : Rd Y r S Ns As) (h1 : ∀ k, Blk d mo mr k → F k) (h2 : ∀ k, S k → F k) (h3 : ∀ k, Blk d mo mr k → ¬ S k) (hA : AO Y d mo mr n Ns As R c w3)
    {p : Option Addr} {cR : Nat} (hL : Lies kP w3 p R) (hfew : Ns.length + R.length < 1099511627000) (hacc : ∀ r ∈ R, r.acc.size < 4611686018427387904) (hamt : ∀ r ∈ R, -9223372036854775808 ≤ r.amt ∧ r.amt ≤ 9223372036854775807) :
    Calls Tryz.prog 19 #[.pointer (some ⟨r, 0, none⟩), .slice p R.length cR] w3 fun e w' => e = .returned (.int .i64 c) ∧ NX Y d r F Ns As R w' := by
  have hr3 : Rd w3 r S Ns As := hr.keep hA.size (fun q hq => hA.far (hr.lt q hq) (fun hb => h3 q hb hq))
  refine (rapply_any (c := cR) hr3 hL hfew hacc hamt).mono ?_
  intro e w' hO
  have hsf := sid_fits (Ns ++ accR R) (As ++ amtR R)
  have stay : ∀ w4 : World, Below Y.heap.size Y w4 → NX Y d r F Ns As R w4 := fun w4 hb => ⟨n, F, Ns, As, hT.below hb, ⟨hb.os, hb.tape, hb.output, hb.size, fun q hq _ => hb.block q hq, fun q hq => .inl hq⟩, .inl ⟨rfl, rfl⟩⟩
  rcases hA with ⟨a1, rfl, hb⟩ | ⟨a1, a2, rfl, hb⟩ | ⟨a1, a2, rfl, mo', mr', hv', hfr, hnew⟩
  · rcases hO with ⟨_, rfl, hb'⟩ | ⟨o1, _⟩ | ⟨o1, _⟩
    · exact ⟨rfl, stay w' (hb.trans (hb'.mono hb.size))⟩
    · exact absurd o1 a1
    · exact absurd o1 a1
  · rcases hO with ⟨o1, _⟩ | ⟨_, _, rfl, hb'⟩ | ⟨_, o2, _⟩
    · exact absurd a1 o1
    · exact ⟨rfl, stay w' (hb.trans (hb'.mono hb.size))⟩
    · have := hsf.2 a2; omega
  · rcases hO with ⟨o1, _⟩ | ⟨_, o2, _⟩ | ⟨_, _, rfl, S', hr', hfr', hnew'⟩
    · exact absurd a1 o1
    · have := hsf.1 a2; exact absurd (by rw [this]) o2
    · have hrd : r < Y.heap.size := hr.lt r hr.sd
      have hrn : ¬ Blk d mo mr r := fun hb => h3 r hb hr.sd
      have hBr : ∀ k, Blk d mo' mr' k → k ≠ r := fun k hk e => by
        rcases hnew k hk with h' | h'
        · exact hrn (by rw [← e]; exact h')
        · omega
      refine ⟨rfl, n + 7 * R.length, fun q => Blk d mo' mr' q ∨ S' q, _, _, ⟨⟨mo', mr', S', hv'.block (fun k hk => ?_), hr', fun k hk => .inl hk, fun k hk => .inr hk, fun k hk hs => ?_⟩, fun q hq => ?_, ?_⟩, ⟨hfr'.os.trans hfr.os, hfr'.tape.trans hfr.tape, hfr'.output.trans hfr.output, Nat.le_trans hfr.size hfr'.size, fun q hq hn => ?_, fun q hq => ?_⟩, .inr ⟨rfl, rfl⟩⟩
      · exact hfr'.block k (hv'.at'.lt k hk) (hBr k hk)
      · rcases hnew' k hs with h' | h'
        · rcases hnew k hk with h'' | h''
          · exact h3 k h'' h'
          · have := hr.lt k h'; omega
        · have := hv'.at'.lt k hk; omega
      · rcases hq with hq | hq
        · exact Nat.lt_of_lt_of_le (hv'.at'.lt q hq) hfr'.size
        · exact hr'.lt q hq
      · have := hT.nn
        rw [List.length_append]
        unfold accR
        rw [List.length_map]
        omega
      · refine (hfr'.block q (Nat.lt_of_lt_of_le hq hfr.size) (fun e => hn (h2 q (by rw [e]; exact hr.sd)))).trans (hfr.block q hq (fun hb => hn (h1 q hb)))
      · rcases hq with hq | hq
        · rcases hnew q hq with h' | h'
          · exact .inl (h1 q h')
          · exact .inr h'
        · rcases hnew' q hq with h' | h'
          · exact .inl (h2 q h')
          · exact .inr (Nat.le_trans hfr.size h')
def TlOut (w : World) (d r : Nat) (F : Nat → Prop) (Ns : List ByteArray) (As : List Int) (R : List Ro) (e : Ending) (w' : World) : Prop := e = .returned (.bool true) ∧ NX w d r F Ns As R w'
theorem nx_over {w Y w4 w5 b : World} {R : List Ro} {g M : Nat} (hb : Below w.heap.size w Y) (hF : ∀ q, F q → q < w.heap.size) (h : NX Y d r F Ns As R w4) (hb5 : Below w4.heap.size w4 w5) (ho : Ov w5 b g M) (hg : w.heap.size ≤ g ∧ g < Y.heap.size) : NX w d r F Ns As R b := by
  obtain ⟨n', F', Ns', As', hT, hs, hh⟩ := h
  have hgF : ∀ q, F' q → q ≠ g := fun q hq e => by
    rcases hs.new q hq with h' | h'
    · have := hF q h'; omega
    · omega
  refine ⟨n', F', Ns', As', (hT.below hb5).keep (by rw [ho.size]; exact Nat.le_refl _) (fun q hq => ho.blk q (hgF q hq)), ⟨ho.os.trans (hb5.os.trans (hs.os.trans hb.os)), ho.tape.trans (hb5.tape.trans (hs.tape.trans hb.tape)), ho.output.trans (hb5.output.trans (hs.output.trans hb.output)), ?_, fun q hq hn => ?_, fun q hq => ?_⟩, hh⟩
  · rw [ho.size]
    exact Nat.le_trans (Nat.le_trans hb.size hs.size) hb5.size
  · have hqY := Nat.lt_of_lt_of_le hq hb.size
    exact (ho.blk q (by omega)).trans ((hb5.block q (Nat.lt_of_lt_of_le hqY hs.size)).trans ((hs.block q hqY hn).trans (hb.block q hq)))
  · rcases hs.new q hq with h' | h'
    · exact .inl h'
    · exact .inr (Nat.le_trans hb.size h')
end
end Go.Proofs.YtpeefmbdhkfhmaaGreatDoor.Kg
/- sums: tells (12). -/
namespace Go.Proofs.YtpeefmbdhkfhmaaGreatDoor.Kg
open Go Go.RowKit Go.Shelf Go.ChangeShapes Go.WideShapes Go.ChangeAt Go.Maps
set_option linter.unusedVariables false
set_option linter.unusedSimpArgs false
set_option maxRecDepth 100000
set_option maxHeartbeats 8000000
attribute [local go_sem ↓] stP_is
theorem tells_any {w : World} {d r n : Nat} {F : Nat → Prop} {Ns : List ByteArray} {As : List Int} (hT : Tw w d r n F Ns As) (hP : Pw w) (hF2 : ∀ q, F q → 2 ≤ q) {pR : Option Addr} {N cR : Nat} {R : List Ro} (hN : R.length = N) (hN2 : N ≤ 1000000) (hNs : Ns.length ≤ 1000000) (hcR : pR = none → cR = 0) (hL : Lies kP w pR R) (hpF : 0 < R.length → ∀ b o, pR = some ⟨b, o, none⟩ → ¬ F b)
    (hacc : ∀ r ∈ R, r.acc.size < 4611686018427387904) (hamt : ∀ r ∈ R, -9223372036854775808 ≤ r.amt ∧ r.amt ≤ 9223372036854775807) (who : Int) (nm : ByteArray) :
    Calls Tryz.prog 12 #[.agg #[.pointer (some ⟨d, 0, none⟩), .pointer (some ⟨r, 0, none⟩)], .agg #[.int .i64 who, .slice pR N cR, .string nm]] w fun e w' => TlOut w d r F Ns As R e w' := by
  obtain ⟨W1, hW1⟩ : ∃ W1, W1 = (w.alloc (.cells #[.pointer (some ⟨d, 0, none⟩), .pointer (some ⟨r, 0, none⟩)] 42)).alloc (.cells #[.int .i64 who, .slice pR N cR, .string nm] 68) := ⟨_, rfl⟩
  obtain ⟨b1, hb1⟩ : ∃ b1, b1 = w.heap.size := ⟨_, rfl⟩
  obtain ⟨b2, hb2⟩ : ∃ b2, b2 = w.heap.size + 1 := ⟨_, rfl⟩
  have hbW1 : Below w.heap.size w W1 := by rw [hW1]; exact bal (bal (Below.refl _ _) _) _
  have hx1 : W1.heap[b1]? = some (.cells #[.pointer (some ⟨d, 0, none⟩), .pointer (some ⟨r, 0, none⟩)] 42 (0, 0)) := by rw [hW1, hb1, Below.heap_alloc _ _ _ (by simp)]; exact heap_new _ _
  have hx2 : W1.heap[b2]? = some (.cells #[.int .i64 who, .slice pR N cR, .string nm] 68 (0, 0)) := by
    rw [hW1, hb2]
    have := heap_new (w.alloc (.cells #[.pointer (some ⟨d, 0, none⟩), .pointer (some ⟨r, 0, none⟩)] 42)) (.cells #[.int .i64 who, .slice pR N cR, .string nm] 68)
    rw [World.size_alloc] at this
    exact this
  have hz1 : W1.heap.size = w.heap.size + 2 := by rw [hW1]; simp
  have g1 : W1.cell? ⟨b2, 1, none⟩ = some (.slice pR N cR) := by rw [cell_at hx2]; rfl
  have d22 := hide (room22 (c := cR) (hP.below hbW1) hcR (hL.below hbW1) (by omega))
  rw [hN] at d22
  have hlt1 : b1 < W1.heap.size := by omega
  have hlt2 : b2 < W1.heap.size := by omega
  have HT := hide hT; have HP := hide hP; have HF2 := hide hF2; have HN := hide hN; have HL := hide hL; have HPF := hide hpF; have HACC := hide hacc; have HAMT := hide hamt; have HBW := hide hbW1; have HX1 := hide hx1; have HX2 := hide hx2; have HZ1 := hide hz1; have HLT1 := hide hlt1; have HLT2 := hide hlt2
  have HB1 := hide hb1; have HB2 := hide hb2
  clear hT hP hF2 hN hL hpF hacc hamt hbW1 hx1 hx2 hz1 hlt1 hlt2 hcR
  go_enter Tryz.func12, Tryz.ntmps12
  go_upto_region 1 with fail
  rw [← hW1]
  rw [show w.heap.size + 1 = b2 from hb2.symm, show w.heap.size = b1 from hb1.symm]
  clear hW1 hb1 hb2
  go_upto_region 2 with (first | (go_at_call 22; refine (unhide d22).mono ?_; rintro e w2 ⟨p2, c2, rfl, hm2⟩))
  have hll : (R ++ pks mkP 64).length = N + 64 := by rw [List.length_append, pks_len, unhide HN]
  obtain ⟨p2', c2', e2', hp2n, hp2⟩ := row_slice hm2.row
  have ep : p2' = p2 := by injection e2' with e _ _; exact e.symm
  have ec : c2' = c2 := by injection e2' with _ _ e; exact e.symm
  subst ep ec
  obtain ⟨a2, ha2⟩ : ∃ a, p2' = some a := by
    cases hp : p2' with
    | none => have := (hp2n hp).1; rw [hll] at this; omega
    | some a => exact ⟨a, rfl⟩
  obtain ⟨ho2, hs2, hB2, hle2⟩ := hp2 a2 ha2
  obtain ⟨g, hg⟩ : ∃ g, g = a2.block := ⟨_, rfl⟩
  have ea : p2' = some ⟨g, 0, none⟩ := by rw [ha2, hg]; cases a2; simp at ho2 hs2; rw [ho2, hs2]
  subst ea
  rw [hll] at hle2
  have hgW : W1.heap.size ≤ g := by rw [hg]; exact hB2
  clear ha2 hp2 hp2n e2' ho2 hs2 hB2 hg
  obtain ⟨Y, hY⟩ : ∃ Y, Y = w2.drew := ⟨_, rfl⟩
  have bY1 : Below W1.heap.size W1 Y := by rw [hY]; exact below_drewN hm2.bel 1
  have bY : Below w.heap.size w Y := (unhide HBW).trans (bY1.mono (unhide HBW).size)
  have mY : Ml kP W1 Y (.slice (some ⟨g, 0, none⟩) (N + 64) c2') (R ++ pks mkP 64) := by rw [hY]; exact hm2.below (below_drewN (Below.refl _ _) 1)
  have rowY := mY.row
  rw [hll] at rowY
  have hgY : g < Y.heap.size := (row_block rowY rfl).2.1
  have hLY : Lies kP Y (some ⟨g, 0, none⟩) (R ++ pks mkP 64) := own_lies kP_ok hll rowY
  have hTY := (unhide HT).below bY
  obtain ⟨mo, mr, S, hv, hr, h1, h2, h3⟩ := hTY.ex
  have hFl := (unhide HT).lt
  have hgF : ¬ F g := fun h => by have := hFl g h; have := (unhide HBW).size; omega
  have hRA : RowsAt Y (some ⟨g, 0, none⟩) R := fun k hk => by
    obtain ⟨b, off, e, hlt, hr'⟩ := hLY.2 k (by rw [hll]; have := unhide HN; omega)
    injection e with e
    injection e with e1 e2 e3
    subst e1 e2
    refine ⟨g, rfl, hlt, ?_⟩
    rw [List.getElem_append_left hk, Nat.zero_add] at hr'
    exact hr'
  have hnn := hTY.nn
  have d16 := hide (ao_any (cR := c2') hv hTY.len (by omega) (by rw [unhide HN]; omega) hRA (fun q h => by
    injection h with h
    injection h with h
    rw [← h]
    exact fun e => hgF (by rw [e]; exact hTY.fd)) (unhide HACC) (unhide HAMT))
  rw [unhide HN] at d16
  have y1 : Y.cell? ⟨b1, 0, none⟩ = some (.pointer (some ⟨d, 0, none⟩)) := by rw [World.cell?_of_block (bY1.block b1 (unhide HLT1)), cell_at (unhide HX1)]; rfl
  have y2 : Y.cell? ⟨b2, 1, none⟩ = some (.slice pR N cR) := by rw [World.cell?_of_block (bY1.block b2 (unhide HLT2)), cell_at (unhide HX2)]; rfl
  have hN0 : (0 : Int) ≤ (N : Int) := by omega
  have hNc : (N : Int) ≤ (c2' : Int) := by omega
  have hNc' : N ≤ c2' := by omega
  have HTY := hide hTY; have HV := hide hv; have HR := hide hr; have HH1 := hide h1; have HH2 := hide h2; have HH3 := hide h3; have HBY := hide bY; have HBY1 := hide bY1; have HROW := hide rowY; have HLY := hide hLY; have HGF := hide hgF; have HGY := hide hgY; have HGW := hide hgW; have HFL := hide hFl; have HLL := hide hll
  -- the boxes stand apart from the views
  have hB1F : ∀ q, F q → q ≠ b1 ∧ q ≠ b2 := fun q hq => by
    have := hFl q hq
    have e1 := unhide HB1
    have e2 := unhide HB2
    exact ⟨by omega, by omega⟩
  have HAP := hide hB1F
  clear hm2 bY1 bY mY rowY hgY hLY hTY hv hr h1 h2 h3 hFl hgF hRA hnn hgW hll hle2 g1 d22 hB1F
  refine wp_region_last (n := 8) (S := fun X => X.cell? ⟨b1, 0, none⟩ = some (.pointer (some ⟨d, 0, none⟩)) ∧ X.cell? ⟨b2, 1, none⟩ = some (.slice pR N cR)) (by kernel_rfl) (by rw [← hY]; exact ⟨y1, y2⟩) (fun hHeld => ?_)
  rw [← hY] at hHeld ⊢
  clear hY
  refine tkW 0 ?_; refine tkS 1 ?_; refine tkW 2 ?_; refine tkW 3 ?_; refine tkS 4 ?_; refine tkW 5 ?_; refine tkW 6 ?_
  refine wpAnyL_one (i := 7) (by kernel_rfl) rfl (fun KK hK => ?_)
  go_simp
  refine (unhide d16).mono ?_
  rintro e w3 ⟨cc, rfl, hA⟩
  have k1 : w3.heap[b1]? = Y.heap[b1]? := hA.far (Nat.lt_of_lt_of_le (unhide HLT1) (unhide HBY1).size) (fun hb => ((unhide HAP) _ (unhide HH1 _ hb)).1 rfl)
  have k2 : w3.heap[b2]? = Y.heap[b2]? := hA.far (Nat.lt_of_lt_of_le (unhide HLT2) (unhide HBY1).size) (fun hb => ((unhide HAP) _ (unhide HH1 _ hb)).2 rfl)
  have z1 := (World.cell?_of_block (a := ⟨b1, 0, none⟩) k1).trans y1
  have z2 := (World.cell?_of_block (a := ⟨b2, 1, none⟩) k2).trans y2
  have X1 : w3.heap[b1]? = some (.cells #[.pointer (some ⟨d, 0, none⟩), .pointer (some ⟨r, 0, none⟩)] 42 (0, 0)) := k1.trans (((unhide HBY1).block b1 (unhide HLT1)).trans (unhide HX1))
  have z3 : w3.cell? ⟨b1, 1, none⟩ = some (.pointer (some ⟨r, 0, none⟩)) := by rw [cell_at X1]; rfl
  have hLR3 : Lies kP w3 pR R := ((unhide HL).below (unhide HBY)).far hA.size (fun b o e hb hl => hA.far hb (fun hk => unhide HPF hl b o e (unhide HH1 b hk)))
  have d19 := hide (ao_next (cR := cR) (unhide HTY) (unhide HV) (unhide HR) (unhide HH1) (unhide HH2) (unhide HH3) hA hLR3 (by have := unhide HN; omega) (unhide HACC) (unhide HAMT))
  rw [unhide HN] at d19
  have HA := hide hA; have HX13 := hide X1; have HLR3 := hide hLR3; have HZ2 := hide z2
  clear hA k1 k2 X1 hLR3 hHeld y1 y2
  go_simp
  refine hK.out _ _ ⟨z1, z2⟩ (fun hHeld => ?_)
  clear hK KK hHeld
  refine wpAnyL_past (i := 8) (by kernel_rfl) rfl (by kernel_rfl) (fun KK hK => ?_)
  go_simp
  refine hK.out _ _ ?_
  clear hK KK
  refine wpAnyL_done (by kernel_rfl) ?_
  go_upto_region 4 with (first | (go_at_call 19; refine (unhide d19).mono ?_; rintro e w4 ⟨rfl, hnx⟩))
  have hnear : ∀ q, q < Y.heap.size → ¬ F q → w4.heap[q]? = Y.heap[q]? := by
    obtain ⟨n', F', Ns', As', _, hs, _⟩ := hnx
    exact hs.block
  have hz4 : Y.heap.size ≤ w4.heap.size := by
    obtain ⟨n', F', Ns', As', _, hs, _⟩ := hnx
    exact hs.size
  have hbF2 : ¬ F b2 := fun h => (unhide HAP b2 h).2 rfl
  have hb2Y : b2 < Y.heap.size := Nat.lt_of_lt_of_le (unhide HLT2) (unhide HBY1).size
  have q2 : w4.cell? ⟨b2, 1, none⟩ = some (.slice pR N cR) := by
    rw [World.cell?_of_block ((hnear b2 hb2Y hbF2).trans ((unhide HBY1).block b2 (unhide HLT2))), cell_at (unhide HX2)]
    rfl
  have hPY := (unhide HP).below (unhide HBY)
  have hP4 : Pw w4 := hPY.keep (hnear 1 hPY.lt (fun h => by have := unhide HF2 1 h; omega))
  have hLR4 : Lies kP w4 pR R := ((unhide HL).below (unhide HBY)).far hz4 (fun b o e hb hl => hnear b hb (unhide HPF hl b o e))
  have hLG4 : Lies kP w4 (some ⟨g, 0, none⟩) (R ++ pks mkP 64) := (unhide HLY).far hz4 (fun b o e hb _ => by
    injection e with e
    injection e with e _ _
    rw [← e]
    exact hnear g (unhide HGY) (unhide HGF))
  have row4 : w4.ownsRow W1.heap.size kP.e kP.s (.slice (some ⟨g, 0, none⟩) (N + 64) c2') (N + 64) (kP.flat (R ++ pks mkP 64)) := row_keep (unhide HROW) (fun q hq => by
    injection hq with hq
    rw [← hq]
    exact hnear g (unhide HGY) (unhide HGF))
  have d23 := hide (kept23 (cc := cR) (c := c2') hP4 (unhide HN) (by omega) hLR4 hLG4)
  have HNX := hide hnx; have HROW4 := hide row4
  clear hnx hnear hz4 hbF2 hb2Y hPY hP4 hLR4 hLG4 row4 z1 z2 z3 d19 d16 HA HX13 HLR3 HZ2
  go_upto_region 6 with (first | (go_at_call 23; refine (unhide d23).mono ?_; rintro e w5 ⟨rfl, hb5⟩))
  have row5 := row_keep (unhide HROW4) (W' := w5) (fun q hq => hb5.block q (row_block (unhide HROW4) hq).2.1)
  have HOV : Hid (Ov w5 w5 g (N + 64)) := ⟨rfl, rfl, rfl, rfl, fun _ _ => rfl, fun k hk => own_there kP_ok row5 hk⟩
  have HB5 := hide hb5
  clear row5 hb5 d23 q2
  go_loopw [9] (fun v9 wr => ∃ (k : Nat), v9 = .int .i64 k ∧ k ≤ N + 64 ∧ Hid (Ov w5 wr g (N + 64))) (fun v9 _ => N + 64 - (intOf v9).toNat)
  case atStart => exact ⟨0, rfl, by omega, unhide HOV⟩
  case round =>
    obtain ⟨k, rfl, hk, hrel⟩ := hrel
    by_cases hlt : k < N + 64
    · have hI : (k : Int) < (N : Int) + 64 := by omega
      have hI' : (k : Int) < ((N + 64 : Nat) : Int) := by omega
      have hI0 : (0 : Int) ≤ (k : Int) := by omega
      have hst := run_stZ ((unhide hrel).th k hlt)
      have HST := hide ((unhide hrel).step (k * 9) [.int .i64 0, .int .i64 0, .int .i64 0, .int .i64 0, .string ⟨#[]⟩, .string ⟨#[90]⟩, .int .i64 12345, .string ⟨#[]⟩, .string ⟨#[]⟩])
      clear hrel
      go_wp2_with fail
      exact ⟨⟨k + 1, by go_num, by omega, unhide HST⟩, by simp [intOf]; omega⟩
    · have hI : ¬ (k : Int) < (N : Int) + 64 := by omega
      have hI' : ¬ (k : Int) < ((N + 64 : Nat) : Int) := by omega
      have HO : Hid (TlOut w d r F Ns As R (.returned (.bool true)) wr) := ⟨rfl, nx_over (unhide HBY) (unhide HFL) (unhide HNX) (unhide HB5) (unhide hrel) ⟨Nat.le_trans (unhide HBW).size (unhide HGW), unhide HGY⟩⟩
      clear hrel
      go_wp2_with fail
      go_ret
      exact unhide HO
end Go.Proofs.YtpeefmbdhkfhmaaGreatDoor.Kg
