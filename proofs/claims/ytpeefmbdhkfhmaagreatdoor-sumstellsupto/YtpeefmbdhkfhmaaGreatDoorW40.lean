import Derived.Test.YtpeefmbdhkfhmaaGreatDoorW37
import Derived.Test.YtpeefmbdhkfhmaaGreatDoorW38
import Derived.Test.YtpeefmbdhkfhmaaGreatDoorW39
import Derived.Test.YtpeefmbdhkfhmaaGreatDoorW30
/- sums: two pairs of views and the book, step by step. -/
namespace Go.Proofs.YtpeefmbdhkfhmaaGreatDoor.Kg
open Go Go.RowKit Go.Shelf Go.ChangeShapes Go.WideShapes Go.ChangeAt Go.Maps
set_option linter.unusedVariables false
set_option linter.unusedSimpArgs false
set_option maxRecDepth 100000
set_option maxHeartbeats 8000000
theorem kb_new {w : World} {y : Nat} (c0 : w.cell? ⟨y, 0, none⟩ = some (.int .i64 0)) (ci : ∀ j, 1 ≤ j → j ≤ 20 → w.cell? ⟨y, j, none⟩ = some (.slice none 0 0)) (fz : ∀ i, w.frozen? ⟨y, i, none⟩ = false) (hP : Pw w) (hy : y ≠ 1) : KB w y (fun _ => False) := by
  have hn : ∀ {q : Nat}, (Value.slice none 0 0).ownBlock ≠ some q := fun e => by cases e
  refine ⟨0, 0, .slice none 0 0, fun _ => ⟨.slice none 0 0, 0, .slice none 0 0, .slice none 0 0, 0, 0, []⟩, 0, .slice none 0 0, fun _ => ⟨.slice none 0 0, 0, .slice none 0 0, .slice none 0 0, 0, 0, []⟩, ?_, fun i hi => by omega, fun i hi => by omega⟩
  refine ⟨c0, ⟨ci 9 (by omega) (by omega), fz, World.ownsRow_nil _ _ _ _, hn, fun i hi => by omega, fun i hi => by omega, fun i j hi => by omega, hP, hy, hn, fun i hi => by omega⟩, ⟨ci 10 (by omega) (by omega), fz, World.ownsRow_nil _ _ _ _, hn, fun i hi => by omega, fun i hi => by omega, fun i j hi => by omega, hP, hy, hn, fun i hi => by omega⟩, by omega, by omega, by omega, fun j h1 h2 _ _ => ci j h1 h2, ?_, ?_, ?_, fun q h => h.elim⟩
  · rintro q (h | ⟨i, hi, _⟩)
    · cases h
    · omega
  · rintro q (h | ⟨i, hi, _⟩)
    · cases h
    · omega
  · rintro q (h | ⟨i, hi, _⟩)
    · cases h
    · omega
/-- one pair of views or two that lie apart -/
def Two (w : World) (d1 r1 d2 r2 M : Nat) (G : Nat → Prop) : Prop :=
  (d2 = d1 ∧ r2 = r1 ∧ ∃ n F Ns As, Tw w d1 r1 n F Ns As ∧ mz Ns ≤ M ∧ ∀ q, F q → G q) ∨
  (∃ n1 F1 Ns1 As1 n2 F2 Ns2 As2, Tw w d1 r1 n1 F1 Ns1 As1 ∧ Tw w d2 r2 n2 F2 Ns2 As2 ∧ mz Ns1 ≤ M ∧ mz Ns2 ≤ M ∧ (∀ q, F1 q → G q) ∧ (∀ q, F2 q → G q) ∧ ∀ q, F1 q → ¬ F2 q)
theorem Two.keep {w w' : World} {d1 r1 d2 r2 M : Nat} {G : Nat → Prop} (h : Two w d1 r1 d2 r2 M G) (hz : w.heap.size ≤ w'.heap.size) (hb : ∀ q, G q → w'.heap[q]? = w.heap[q]?) : Two w' d1 r1 d2 r2 M G := by
  rcases h with ⟨e1, e2, n, F, Ns, As, hT, hm, hF⟩ | ⟨n1, F1, Ns1, As1, n2, F2, Ns2, As2, hT1, hT2, hm1, hm2, hF1, hF2, hd⟩
  · exact .inl ⟨e1, e2, n, F, Ns, As, hT.keep hz (fun q hq => hb q (hF q hq)), hm, hF⟩
  · exact .inr ⟨n1, F1, Ns1, As1, n2, F2, Ns2, As2, hT1.keep hz (fun q hq => hb q (hF1 q hq)), hT2.keep hz (fun q hq => hb q (hF2 q hq)), hm1, hm2, hF1, hF2, hd⟩
theorem Two.more {w : World} {d1 r1 d2 r2 M M' : Nat} {G : Nat → Prop} (h : Two w d1 r1 d2 r2 M G) (hM : M ≤ M') : Two w d1 r1 d2 r2 M' G := by
  rcases h with ⟨e1, e2, n, F, Ns, As, hT, hm, hF⟩ | ⟨n1, F1, Ns1, As1, n2, F2, Ns2, As2, hT1, hT2, hm1, hm2, hF1, hF2, hd⟩
  · exact .inl ⟨e1, e2, n, F, Ns, As, hT, Nat.le_trans hm hM, hF⟩
  · exact .inr ⟨n1, F1, Ns1, As1, n2, F2, Ns2, As2, hT1, hT2, Nat.le_trans hm1 hM, Nat.le_trans hm2 hM, hF1, hF2, hd⟩
/-- the view that is asked or told: the first one (o = false) or the second one -/
def pk (o : Bool) (a b : Nat) : Nat := if o = true then b else a
theorem nx_mz {w w' : World} {d r : Nat} {F : Nat → Prop} {Ns : List ByteArray} {As : List Int} {R : List Ro} {M : Nat} (h : NX w d r F Ns As R w') (hm : mz Ns ≤ M) : ∃ n' F' Ns' As', Tw w' d r n' F' Ns' As' ∧ Sep w w' F F' ∧ mz Ns' ≤ M + mz (accR R) := by
  obtain ⟨n', F', Ns', As', hT, hs, h⟩ := h
  refine ⟨n', F', Ns', As', hT, hs, ?_⟩
  rcases h with ⟨e, _⟩ | ⟨e, _⟩
  · rw [e]; omega
  · rw [e, mz_append]; omega
theorem Two.pick {w : World} {d1 r1 d2 r2 M : Nat} {G : Nat → Prop} (h : Two w d1 r1 d2 r2 M G) (o : Bool) :
    ∃ n F Ns As, Tw w (pk o d1 d2) (pk o r1 r2) n F Ns As ∧ mz Ns ≤ M ∧ (∀ q, F q → G q) ∧ ∀ R w', NX w (pk o d1 d2) (pk o r1 r2) F Ns As R w' → Two w' d1 r1 d2 r2 (M + mz (accR R)) (fun q => G q ∨ w.heap.size ≤ q) := by
  rcases h with ⟨e1, e2, n, F, Ns, As, hT, hm, hF⟩ | ⟨n1, F1, Ns1, As1, n2, F2, Ns2, As2, hT1, hT2, hm1, hm2, hF1, hF2, hd⟩
  · have ed : pk o d1 d2 = d1 := by unfold pk; split <;> simp [e1]
    have er : pk o r1 r2 = r1 := by unfold pk; split <;> simp [e2]
    rw [ed, er]
    refine ⟨n, F, Ns, As, hT, hm, hF, fun R w' hn => ?_⟩
    obtain ⟨n', F', Ns', As', hT', hs, hm'⟩ := nx_mz hn hm
    exact .inl ⟨e1, e2, n', F', Ns', As', hT', hm', fun q hq => (hs.new q hq).imp (hF q) id⟩
  · cases o with
    | false =>
      refine ⟨n1, F1, Ns1, As1, hT1, hm1, hF1, fun R w' hn => ?_⟩
      obtain ⟨n', F', Ns', As', hT', hs, hm'⟩ := nx_mz hn hm1
      refine .inr ⟨n', F', Ns', As', n2, F2, Ns2, As2, hT', hT2.keep hs.size (fun q hq => hs.block q (hT2.lt q hq) (fun h => hd q h hq)), hm', by omega, fun q hq => (hs.new q hq).imp (hF1 q) id, fun q hq => .inl (hF2 q hq), fun q hq hq2 => ?_⟩
      rcases hs.new q hq with h' | h'
      · exact hd q h' hq2
      · have := hT2.lt q hq2; omega
    | true =>
      refine ⟨n2, F2, Ns2, As2, hT2, hm2, hF2, fun R w' hn => ?_⟩
      obtain ⟨n', F', Ns', As', hT', hs, hm'⟩ := nx_mz hn hm2
      refine .inr ⟨n1, F1, Ns1, As1, n', F', Ns', As', hT1.keep hs.size (fun q hq => hs.block q (hT1.lt q hq) (fun h => hd q hq h)), hT', by omega, hm', fun q hq => .inl (hF1 q hq), fun q hq => (hs.new q hq).imp (hF2 q) id, fun q hq hq2 => ?_⟩
      rcases hs.new q hq2 with h' | h'
      · exact hd q hq h'
      · have := hT1.lt q hq; omega
/-- where plays stands behind its start -/
structure St (w0 w : World) (bk ba bb d1 r1 d2 r2 M : Nat) : Prop where
  bel : Below w0.heap.size w0 w
  pw : 1 < w0.heap.size
  ex : ∃ (U G : Nat → Prop), KB w bk U ∧ Two w d1 r1 d2 r2 M G ∧ (∀ q, U q → w0.heap.size ≤ q ∧ q ≠ ba ∧ q ≠ bb) ∧ (∀ q, G q → w0.heap.size ≤ q ∧ q ≠ bk ∧ q ≠ ba ∧ q ≠ bb ∧ ¬ U q)
  xa : w.heap[ba]? = some (.cells #[.pointer (some ⟨d1, 0, none⟩), .pointer (some ⟨r1, 0, none⟩)] 42 (0, 0))
  xb : w.heap[bb]? = some (.cells #[.pointer (some ⟨d2, 0, none⟩), .pointer (some ⟨r2, 0, none⟩)] 42 (0, 0))
  la : w0.heap.size ≤ ba ∧ w0.heap.size ≤ bb ∧ w0.heap.size ≤ bk
  ne : ba ≠ bk ∧ bb ≠ bk
theorem St.below {w0 w w' : World} {bk ba bb d1 r1 d2 r2 M : Nat} (h : St w0 w bk ba bb d1 r1 d2 r2 M) (hb : Below w.heap.size w w') : St w0 w' bk ba bb d1 r1 d2 r2 M := by
  obtain ⟨U, G, hk, ht, hU, hG⟩ := h.ex
  have hG' : ∀ q, G q → True := fun _ _ => trivial
  have lt2 : Two w' d1 r1 d2 r2 M G := by
    rcases ht with ⟨e1, e2, n, F, Ns, As, hT, hm, hF⟩ | ⟨n1, F1, Ns1, As1, n2, F2, Ns2, As2, hT1, hT2, hm1, hm2, hF1, hF2, hd⟩
    · exact .inl ⟨e1, e2, n, F, Ns, As, hT.below hb, hm, hF⟩
    · exact .inr ⟨n1, F1, Ns1, As1, n2, F2, Ns2, As2, hT1.below hb, hT2.below hb, hm1, hm2, hF1, hF2, hd⟩
  exact ⟨h.bel.trans (hb.mono h.bel.size), h.pw, ⟨U, G, hk.below hb, lt2, hU, hG⟩, (hb.block ba (Array.getElem?_eq_some_iff.1 h.xa).1).trans h.xa, (hb.block bb (Array.getElem?_eq_some_iff.1 h.xb).1).trans h.xb, h.la, h.ne⟩
theorem St.more {w0 w : World} {bk ba bb d1 r1 d2 r2 M M' : Nat} (h : St w0 w bk ba bb d1 r1 d2 r2 M) (hM : M ≤ M') : St w0 w bk ba bb d1 r1 d2 r2 M' := by
  obtain ⟨U, G, hk, ht, hU, hG⟩ := h.ex
  exact ⟨h.bel, h.pw, ⟨U, G, hk, ht.more hM, hU, hG⟩, h.xa, h.xb, h.la, h.ne⟩
theorem belowSep {w0 w w' : World} {S S' : Nat → Prop} (hb : Below w0.heap.size w0 w) (hs : Sep w w' S S') (h : ∀ q, S q → w0.heap.size ≤ q) : Below w0.heap.size w0 w' :=
  ⟨hs.os.trans hb.os, hs.tape.trans hb.tape, hs.output.trans hb.output, Nat.le_trans hb.size hs.size, fun q hq => (hs.block q (Nat.lt_of_lt_of_le hq hb.size) (fun hS => by have := h q hS; omega)).trans (hb.block q hq)⟩
/-- a look -/
theorem St.look {w0 w : World} {bk ba bb d1 r1 d2 r2 M : Nat} (h : St w0 w bk ba bb d1 r1 d2 r2 M) (hM : M ≤ 1048576) (o : Bool) (s : ByteArray) (hs : s.size ≤ 1048576) :
    Calls Tryz.prog 13 #[.agg #[.pointer (some ⟨pk o d1 d2, 0, none⟩), .pointer (some ⟨pk o r1 r2, 0, none⟩)], .string s, .pointer (some ⟨bk, 0, none⟩)] w fun e w' => e = .returned (.bool true) ∧ St w0 w' bk ba bb d1 r1 d2 r2 M := by
  obtain ⟨U, G, hk, ht, hU, hG⟩ := h.ex
  obtain ⟨n, F, Ns, As, hT, hm, hF, _⟩ := ht.pick o
  refine (looks_any hT (Nat.le_trans hm hM) hk (fun q hq => ⟨(hG q (hF q hq)).2.1, (hG q (hF q hq)).2.2.2.2⟩) s hs).mono ?_
  rintro e w' ⟨rfl, U', hk', hs'⟩
  have hla := h.la
  have hlt : ∀ q, G q → q = q := fun _ _ => rfl
  have hba : ba < w.heap.size := (Array.getElem?_eq_some_iff.1 h.xa).1
  have hbb : bb < w.heap.size := (Array.getElem?_eq_some_iff.1 h.xb).1
  have hnew : ∀ q, U' q → U q ∨ w.heap.size ≤ q := fun q hq => by
    rcases hs'.new q (.inr hq) with (h' | h') | h'
    · exact absurd h' (hk'.ul q hq).1
    · exact .inl h'
    · exact .inr h'
  have hGl : ∀ q, G q → (∃ n F Ns As d r, Tw w d r n F Ns As ∧ F q) ∨ True := fun _ _ => .inr trivial
  refine ⟨rfl, belowSep h.bel hs' (fun q hq => ?_), h.pw, ⟨U', fun q => G q ∧ q < w.heap.size, hk', ?_, fun q hq => ?_, fun q hq => ?_⟩, ?_, ?_, h.la, h.ne⟩
  · rcases hq with rfl | hq
    · exact hla.2.2
    · exact (hU q hq).1
  · have ht2 : Two w d1 r1 d2 r2 M (fun q => G q ∧ q < w.heap.size) := by
      rcases ht with ⟨e1, e2, n, F, Ns, As, hT, hm, hF⟩ | ⟨n1, F1, Ns1, As1, n2, F2, Ns2, As2, hT1, hT2, hm1, hm2, hF1, hF2, hd⟩
      · exact .inl ⟨e1, e2, n, F, Ns, As, hT, hm, fun q hq => ⟨hF q hq, hT.lt q hq⟩⟩
      · exact .inr ⟨n1, F1, Ns1, As1, n2, F2, Ns2, As2, hT1, hT2, hm1, hm2, fun q hq => ⟨hF1 q hq, hT1.lt q hq⟩, fun q hq => ⟨hF2 q hq, hT2.lt q hq⟩, hd⟩
    exact ht2.keep hs'.size (fun q hq => hs'.block q hq.2 (fun h' => by
      rcases h' with h' | h'
      · exact (hG q hq.1).2.1 h'
      · exact (hG q hq.1).2.2.2.2 h'))
  · rcases hnew q hq with h' | h'
    · exact hU q h'
    · exact ⟨Nat.le_trans h.bel.size h', by omega, by omega⟩
  · have hg := hG q hq.1
    refine ⟨hg.1, hg.2.1, hg.2.2.1, hg.2.2.2.1, fun hu => ?_⟩
    rcases hnew q hu with h' | h'
    · exact hg.2.2.2.2 h'
    · have := hq.2; omega
  · exact (hs'.block ba hba (fun h' => by
      rcases h' with h' | h'
      · exact h.ne.1 h'
      · exact (hU ba h').2.1 rfl)).trans h.xa
  · exact (hs'.block bb hbb (fun h' => by
      rcases h' with h' | h'
      · exact h.ne.2 h'
      · exact (hU bb h').2.2 rfl)).trans h.xb
/-- an act -/
theorem St.tell {w0 w : World} {bk ba bb d1 r1 d2 r2 M : Nat} (h : St w0 w bk ba bb d1 r1 d2 r2 M) (hM : M ≤ 1048576) (o : Bool) {a : ActV} (ha : ActOk w0 a) (hz : mz (accR a.R) ≤ 1048576) :
    Calls Tryz.prog 12 #[.agg #[.pointer (some ⟨pk o d1 d2, 0, none⟩), .pointer (some ⟨pk o r1 r2, 0, none⟩)], .agg #[.int .i64 a.who, .slice a.p a.R.length a.c, .string a.nm]] w fun e w' => e = .returned (.bool true) ∧ St w0 w' bk ba bb d1 r1 d2 r2 (M + mz (accR a.R)) := by
  obtain ⟨U, G, hk, ht, hU, hG⟩ := h.ex
  obtain ⟨n, F, Ns, As, hT, hm, hF, hnx⟩ := ht.pick o
  have hla := h.la
  have hpw := h.pw
  have hba : ba < w.heap.size := (Array.getElem?_eq_some_iff.1 h.xa).1
  have hbb : bb < w.heap.size := (Array.getElem?_eq_some_iff.1 h.xb).1
  have hln := mz_len (accR a.R)
  have hln2 := mz_len Ns
  have hl3 : (accR a.R).length = a.R.length := by unfold accR; rw [List.length_map]
  refine (tells_any hT hk.tab (fun q hq => by have := (hG q (hF q hq)).1; omega) rfl (by omega) (by omega) ha.n0 (ha.li.below h.bel) (fun hne b off e hb => ?_) (fun r hr => ?_) ha.am a.who a.nm).mono ?_
  · obtain ⟨b', o', e', hlt, _⟩ := ha.li.2 0 hne
    rw [e] at e'
    injection e' with e'
    injection e' with e' _ _
    subst e'
    have := (hG b (hF b hb)).1
    omega
  · have : r.acc ∈ accR a.R := List.mem_map.2 ⟨r, hr, rfl⟩
    have := mz_mem this
    omega
  rintro e w' ⟨rfl, hn⟩
  have ht' := hnx _ _ hn
  obtain ⟨n', F', Ns', As', hT', hs, _⟩ := hn
  refine ⟨rfl, ⟨belowSep h.bel hs (fun q hq => (hG q (hF q hq)).1), h.pw, ⟨U, _, ?_, ht', hU, fun q hq => ?_⟩, ?_, ?_, h.la, h.ne⟩⟩
  · have hbkF : ¬ F bk := fun h' => (hG bk (hF bk h')).2.1 rfl
    have hbk := hs.block bk hk.lt hbkF
    exact hk.on hs.size (fun j _ => World.cell?_of_block hbk) (fun j => World.frozen?_of_block hbk) (hs.block 1 hk.tab.lt (fun h' => by have := (hG 1 (hF 1 h')).1; omega)) (fun q hq => hs.block q (hk.ul q hq).2.2 (fun h' => (hG q (hF q h')).2.2.2.2 hq))
  · rcases hq with hq | hq
    · exact hG q hq
    · have := hk.lt
      exact ⟨Nat.le_trans h.bel.size hq, by omega, by omega, by omega, fun hu => by have := (hk.ul q hu).2.2; omega⟩
  · exact (hs.block ba hba (fun h' => (hG ba (hF ba h')).2.2.1 rfl)).trans h.xa
  · exact (hs.block bb hbb (fun h' => (hG bb (hF bb h')).2.2.2.1 rfl)).trans h.xb
/-- an act, told where more has been made -/
theorem St.tellZ {w0 w Z : World} {bk ba bb d1 r1 d2 r2 M : Nat} (h : St w0 w bk ba bb d1 r1 d2 r2 M) (hZ : Below w.heap.size w Z) (hM : M ≤ 1048576) (o : Bool) {a : ActV} (ha : ActOk w0 a) (hz : mz (accR a.R) ≤ 1048576) :
    Calls Tryz.prog 12 #[.agg #[.pointer (some ⟨pk o d1 d2, 0, none⟩), .pointer (some ⟨pk o r1 r2, 0, none⟩)], .agg #[.int .i64 a.who, .slice a.p a.R.length a.c, .string a.nm]] Z fun e w' => e = .returned (.bool true) ∧ St w0 w' bk ba bb d1 r1 d2 r2 (M + mz (accR a.R)) ∧ ∀ q, w.heap.size ≤ q → q < Z.heap.size → w'.heap[q]? = Z.heap[q]? := by
  obtain ⟨U, G0, hk0, ht0, hU, hG0⟩ := h.ex
  have hk := hk0.below hZ
  obtain ⟨G, hGe⟩ : ∃ G : Nat → Prop, G = fun q => G0 q ∧ q < w.heap.size := ⟨_, rfl⟩
  have hG : ∀ q, G q → w0.heap.size ≤ q ∧ q ≠ bk ∧ q ≠ ba ∧ q ≠ bb ∧ ¬ U q := fun q hq => by rw [hGe] at hq; exact hG0 q hq.1
  have hGl : ∀ q, G q → q < w.heap.size := fun q hq => by rw [hGe] at hq; exact hq.2
  have ht : Two Z d1 r1 d2 r2 M G := by
    rcases ht0 with ⟨e1, e2, n, F, Ns, As, hT, hm, hF⟩ | ⟨n1, F1, Ns1, As1, n2, F2, Ns2, As2, hT1, hT2, hm1, hm2, hF1, hF2, hd⟩
    · exact .inl ⟨e1, e2, n, F, Ns, As, hT.below hZ, hm, fun q hq => by rw [hGe]; exact ⟨hF q hq, hT.lt q hq⟩⟩
    · exact .inr ⟨n1, F1, Ns1, As1, n2, F2, Ns2, As2, hT1.below hZ, hT2.below hZ, hm1, hm2, fun q hq => by rw [hGe]; exact ⟨hF1 q hq, hT1.lt q hq⟩, fun q hq => by rw [hGe]; exact ⟨hF2 q hq, hT2.lt q hq⟩, hd⟩
  have h := h.below hZ
  obtain ⟨n, F, Ns, As, hT, hm, hF, hnx⟩ := ht.pick o
  have hla := h.la
  have hpw := h.pw
  have hba : ba < Z.heap.size := (Array.getElem?_eq_some_iff.1 h.xa).1
  have hbb : bb < Z.heap.size := (Array.getElem?_eq_some_iff.1 h.xb).1
  have hln := mz_len (accR a.R)
  have hln2 := mz_len Ns
  have hl3 : (accR a.R).length = a.R.length := by unfold accR; rw [List.length_map]
  refine (tells_any hT hk.tab (fun q hq => by have := (hG q (hF q hq)).1; omega) rfl (by omega) (by omega) ha.n0 (ha.li.below h.bel) (fun hne b off e hb => ?_) (fun r hr => ?_) ha.am a.who a.nm).mono ?_
  · obtain ⟨b', o', e', hlt, _⟩ := ha.li.2 0 hne
    rw [e] at e'
    injection e' with e'
    injection e' with e' _ _
    subst e'
    have := (hG b (hF b hb)).1
    omega
  · have : r.acc ∈ accR a.R := List.mem_map.2 ⟨r, hr, rfl⟩
    have := mz_mem this
    omega
  rintro e w' ⟨rfl, hn⟩
  have ht' := hnx _ _ hn
  obtain ⟨n', F', Ns', As', hT', hs, _⟩ := hn
  refine ⟨rfl, ⟨belowSep h.bel hs (fun q hq => (hG q (hF q hq)).1), h.pw, ⟨U, _, ?_, ht', hU, fun q hq => ?_⟩, ?_, ?_, h.la, h.ne⟩, fun q h1 h2 => hs.block q h2 (fun hF' => by have := hGl q (hF q hF'); omega)⟩
  · have hbkF : ¬ F bk := fun h' => (hG bk (hF bk h')).2.1 rfl
    have hbk := hs.block bk hk.lt hbkF
    exact hk.on hs.size (fun j _ => World.cell?_of_block hbk) (fun j => World.frozen?_of_block hbk) (hs.block 1 hk.tab.lt (fun h' => by have := (hG 1 (hF 1 h')).1; omega)) (fun q hq => hs.block q (hk.ul q hq).2.2 (fun h' => (hG q (hF q h')).2.2.2.2 hq))
  · rcases hq with hq | hq
    · exact hG q hq
    · have := hk.lt
      exact ⟨Nat.le_trans h.bel.size hq, by omega, by omega, by omega, fun hu => by have := (hk.ul q hu).2.2; omega⟩
  · exact (hs.block ba hba (fun h' => (hG ba (hF ba h')).2.2.1 rfl)).trans h.xa
  · exact (hs.block bb hbb (fun h' => (hG bb (hF bb h')).2.2.2.1 rfl)).trans h.xb
end Go.Proofs.YtpeefmbdhkfhmaaGreatDoor.Kg
/- sums: plays, its loads and stores, plain. -/
namespace Go.Proofs.YtpeefmbdhkfhmaaGreatDoor.Kg
open Go Go.RowKit Go.Shelf Go.ChangeShapes Go.WideShapes Go.ChangeAt Go.Maps
set_option linter.unusedVariables false
set_option linter.unusedSimpArgs false
set_option maxRecDepth 100000
set_option maxHeartbeats 8000000
def ld42 (x : Value) : Sem Value := Instr.loadAt 42 x
theorem ld42_is (x : Value) : Instr.loadAt 42 x = ld42 x := rfl
theorem siz42 : (Tryz.prog.info? 42).map (·.size) = some 2 := by kernel_rfl
theorem run_ld42 {w : World} {b : Nat} {x y : Value} (h : w.heap[b]? = some (.cells #[x, y] 42 (0, 0))) : (ld42 (.pointer (some ⟨b, 0, none⟩))).run Tryz.prog w = .ok (.agg #[x, y]) w :=
  run_loadAt_mid (P := Tryz.prog) w b 0 42 [x, y] _ (fun j u hu => by rw [Nat.zero_add, cell_at h]; simpa using hu) Tryz.underlying42 rfl siz42
def st42 (x y : Value) : Sem Unit := Instr.storeAt 42 x y
theorem st42_is (x y : Value) : Instr.storeAt 42 x y = st42 x y := rfl
theorem run_st42 {w : World} {b : Nat} {x0 x1 : Value} (h : w.heap[b]? = some (.cells #[x0, x1] 42 (0, 0))) {d r : Option Addr} : (st42 (.pointer (some ⟨b, 0, none⟩)) (.agg #[.pointer d, .pointer r])).run Tryz.prog w = .ok () (w.setCells b 0 [.pointer d, .pointer r]) :=
  run_storeAt_mid (P := Tryz.prog) w b 0 42 #[.pointer d, .pointer r] (fun j hj => by
    have hj' : j < 2 := by simpa using hj
    match j, hj' with
    | 0, _ => simp [World.cell?, World.frozen?, h]
    | 1, _ => simp [World.cell?, World.frozen?, h]) siz42 (by simp [Value.oneCell'])
theorem heap_set2 {w : World} {b : Nat} {x0 x1 v0 v1 : Value} {t : TypeId} (h : w.heap[b]? = some (.cells #[x0, x1] t (0, 0))) : (w.setCells b 0 [v0, v1]).heap[b]? = some (.cells #[v0, v1] t (0, 0)) := by
  unfold World.setCells World.setCells World.setCells
  rw [set_heap (set_heap h)]
  rfl
def ld68 (x : Value) : Sem Value := Instr.loadAt 68 x
theorem ld68_is (x : Value) : Instr.loadAt 68 x = ld68 x := rfl
theorem siz68 : (Tryz.prog.info? 68).map (·.size) = some 3 := by kernel_rfl
theorem run_ld68 {w : World} {b o : Nat} {a : ActV} (h : w.rangeAt b o a.arr.toList) : (ld68 (.pointer (some ⟨b, o, none⟩))).run Tryz.prog w = .ok (.agg #[.int .i64 a.who, .slice a.p a.R.length a.c, .string a.nm]) w :=
  run_loadAt_mid (P := Tryz.prog) w b o 68 a.arr.toList _ h Tryz.underlying68 rfl siz68
def st38 (x y : Value) : Sem Unit := Instr.storeAt 38 x y
theorem st38_is (x y : Value) : Instr.storeAt 38 x y = st38 x y := rfl
theorem run_st38 {W : World} {g i : Nat} (h : W.there g (i * 3) 3) : (st38 (.pointer (some ⟨g, i * 3, none⟩)) (.agg #[.string ⟨#[90]⟩, .int .i64 12345, .int .i64 1])).run Tryz.prog W = .ok () (W.setCells g (i * 3) [.string ⟨#[90]⟩, .int .i64 12345, .int .i64 1]) :=
  run_storeAt_mid (P := Tryz.prog) W g (i * 3) 38 #[.string ⟨#[90]⟩, .int .i64 12345, .int .i64 1] (fun j hj => h j (by simpa using hj)) size47 (by simp [Value.oneCell'])
/-- a list of balances is written over -/
structure Ow (a b : World) (g M : Nat) : Prop where
  os : b.os = a.os
  tape : b.tape = a.tape
  output : b.output = a.output
  size : b.heap.size = a.heap.size
  blk : ∀ q, q ≠ g → b.heap[q]? = a.heap[q]?
  th : ∀ k, k < M → b.there g (k * 3) 3
theorem Ow.step {a b : World} {g M : Nat} (h : Ow a b g M) (k : Nat) (vs : List Value) : Ow a (b.setCells g k vs) g M :=
  ⟨(setCells_rest g vs k b).1.trans h.os, (setCells_rest g vs k b).2.1.trans h.tape, (setCells_rest g vs k b).2.2.trans h.output, (setCells_size g vs k b).trans h.size, fun q hq => (setCells_far g hq vs k b).trans (h.blk q hq), fun j hj => World.there_setCells (h.th j hj) _ _ _⟩
theorem Ow.bel {a b : World} {g M B : Nat} {w : World} (h : Ow a b g M) (hb : Below B w a) (hg : B ≤ g) (hB : B ≤ w.heap.size) : Below B w b :=
  ⟨h.os.trans hb.os, h.tape.trans hb.tape, h.output.trans hb.output, by rw [h.size]; exact hb.size, fun q hq => (h.blk q (by omega)).trans (hb.block q hq)⟩
def totA (A : List ActV) (i : Nat) : Nat := ((A.take i).map fun a => mz (accR a.R)).sum
theorem totA_succ {A : List ActV} {i : Nat} (h : i < A.length) : totA A (i + 1) = totA A i + mz (accR A[i].R) := by
  unfold totA
  rw [List.take_succ_eq_append_getElem h, List.map_append, List.sum_append]
  simp only [List.map_cons, List.map_nil, List.sum_cons, List.sum_nil, Nat.add_zero]
theorem sum_take_le {α : Type} (f g : α → Nat) (h : ∀ x, f x ≤ g x) : ∀ (L : List α) (i : Nat), ((L.take i).map f).sum ≤ (L.map g).sum
  | [], i => by simp
  | x :: L, 0 => by simp
  | x :: L, i + 1 => by
    have := sum_take_le f g h L i
    have := h x
    simp only [List.take_succ_cons, List.map_cons, List.sum_cons]
    omega
theorem totA_le (A : List ActV) (i : Nat) : totA A i ≤ (A.map wAc).sum := sum_take_le _ _ (fun a => by rw [mz_rows]; unfold wAc; omega) A i
theorem mem_sum {α : Type} (f : α → Nat) : ∀ {L : List α} {x : α}, x ∈ L → f x ≤ (L.map f).sum
  | [], _, h => by cases h
  | y :: L, x, h => by
    simp only [List.map_cons, List.sum_cons]
    rcases List.mem_cons.1 h with rfl | h
    · omega
    · have := mem_sum f h
      omega
theorem one_new {w6 : World} : View (w6.alloc (.cells #[.map none, .map none, .int .i64 0, .int .i64 0] 82)) w6.heap.size none none 0 (rw8 [] []) := View.made w6 0
theorem tw_new {w6 w8 : World} (hR : Rd w8 (w6.heap.size + 1) (fun q => q = w6.heap.size + 1) [] []) (hb : Below (w6.heap.size + 1) (w6.alloc (.cells #[.map none, .map none, .int .i64 0, .int .i64 0] 82)) w8) : Tw w8 w6.heap.size (w6.heap.size + 1) 0 (fun q => q = w6.heap.size ∨ q = w6.heap.size + 1) [] [] := by
  have hz : (w6.alloc (.cells #[.map none, .map none, .int .i64 0, .int .i64 0] 82)).heap.size = w6.heap.size + 1 := by simp
  refine ⟨⟨none, none, _, (one_new (w6 := w6)).below (by rw [hz]; exact hb), hR, fun k hk => ?_, fun k hk => .inr hk, fun k hk hs => ?_⟩, fun q hq => ?_, by simp⟩
  · rcases hk with rfl | hk | hk
    · exact .inl rfl
    · cases hk
    · cases hk
  · rcases hk with rfl | hk | hk
    · omega
    · cases hk
    · cases hk
  · have h1 := hR.lt _ hR.sd
    rcases hq with rfl | rfl
    · omega
    · exact h1
end Go.Proofs.YtpeefmbdhkfhmaaGreatDoor.Kg
