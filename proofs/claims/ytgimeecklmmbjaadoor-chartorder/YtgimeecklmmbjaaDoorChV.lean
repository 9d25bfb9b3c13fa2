/- two charts side by side, and a list of accounts kept; ChartTwins (3). -/
import Derived.Test.YtgimeecklmmbjaaDoorChU
namespace Go.Proofs.YtgimeecklmmbjaaDoor
open Go Go.Shelf Go.ChangeShapes Go.WideShapes Go.ChangeAt Go.RowKit Go.Maps Go.Sort
set_option linter.unusedVariables false
/-- two charts that were made since W, and a list of accounts that lies apart of both -/
structure TwoS (W : World) (d1 : Nat) (L1 : List Ac) (d2 : Nat) (L2 : List Ac) (p : Option Addr) (l : List Ac) (X : World) (S1 S2 : Nat → Prop) (g1 g2 : Gh) : Prop where
  c1 : Ct X d1 S1 L1 g1
  c2 : Ct X d2 S2 L2 g2
  apart : ∀ k, S1 k → S2 k → False
  n1 : ∀ k, S1 k → W.heap.size ≤ k
  n2 : ∀ k, S2 k → W.heap.size ≤ k
  bel : Below W.heap.size W X
  lies : Lies kA X p l
  far : ∀ a, p = some a → a.block < X.heap.size → ¬ S1 a.block ∧ ¬ S2 a.block
def Two (W : World) (d1 : Nat) (L1 : List Ac) (d2 : Nat) (L2 : List Ac) (p : Option Addr) (l : List Ac) (X : World) : Prop := ∃ S1 S2 g1 g2, TwoS W d1 L1 d2 L2 p l X S1 S2 g1 g2
theorem Two.symm {W X : World} {d1 d2 : Nat} {L1 L2 l : List Ac} {p : Option Addr} (h : Two W d1 L1 d2 L2 p l X) : Two W d2 L2 d1 L1 p l X := by
  obtain ⟨S1, S2, g1, g2, h⟩ := h
  exact ⟨S2, S1, g2, g1, h.c2, h.c1, fun k a b => h.apart k b a, h.n2, h.n1, h.bel, h.lies, fun a ha hl => (h.far a ha hl).symm⟩
theorem Two.bel {W X : World} {d1 d2 : Nat} {L1 L2 l : List Ac} {p : Option Addr} (h : Two W d1 L1 d2 L2 p l X) : Below W.heap.size W X := by
  obtain ⟨S1, S2, g1, g2, h⟩ := h
  exact h.bel
theorem Two.lies {W X : World} {d1 d2 : Nat} {L1 L2 l : List Ac} {p : Option Addr} (h : Two W d1 L1 d2 L2 p l X) : Lies kA X p l := by
  obtain ⟨S1, S2, g1, g2, h⟩ := h
  exact h.lies
theorem Two.forget {W X : World} {d1 d2 : Nat} {L1 L2 l : List Ac} {p : Option Addr} (h : Two W d1 L1 d2 L2 p l X) : Two W d1 L1 d2 L2 none [] X := by
  obtain ⟨S1, S2, g1, g2, h⟩ := h
  exact ⟨S1, S2, g1, g2, h.c1, h.c2, h.apart, h.n1, h.n2, h.bel, Lies.nil _ _, fun a ha => by cases ha⟩
/-- where nothing that stood is changed -/
theorem Two.below {W X w' : World} {d1 d2 : Nat} {L1 L2 : List Ac} (h : Two W d1 L1 d2 L2 none [] X) (hb : Below X.heap.size X w') : Two W d1 L1 d2 L2 none [] w' := by
  obtain ⟨S1, S2, g1, g2, h⟩ := h
  exact ⟨S1, S2, g1, g2, h.c1.below hb, h.c2.below hb, h.apart, h.n1, h.n2, h.bel.trans (hb.mono h.bel.size), Lies.nil _ _, fun a ha => by cases ha⟩
/-- a list that lies in the heap, or is empty -/
theorem lies_in {X : World} {p : Option Addr} {l : List Ac} (h : Lies kA X p l) (h0 : l ≠ []) : ∃ b off, p = some ⟨b, off, none⟩ ∧ b < X.heap.size := by
  obtain ⟨b, off, h1, h2, _⟩ := h.2 0 (by cases l with | nil => exact absurd rfl h0 | cons a t => simp)
  exact ⟨b, off, h1, h2⟩
theorem two_keep {W X w' : World} {d1 d2 : Nat} {L1 L2 l : List Ac} {p : Option Addr} (h : Two W d1 L1 d2 L2 p l X) (hb : Below X.heap.size X w') : ∃ q, Two W d1 L1 d2 L2 q l w' ∧ (l ≠ [] → q = p) := by
  obtain ⟨S1, S2, g1, g2, h⟩ := h
  by_cases h0 : l = []
  · subst h0
    exact ⟨none, ⟨S1, S2, g1, g2, h.c1.below hb, h.c2.below hb, h.apart, h.n1, h.n2, h.bel.trans (hb.mono h.bel.size), Lies.nil _ _, fun a ha => by cases ha⟩, fun h => absurd rfl h⟩
  · obtain ⟨b, off, hp, hlt⟩ := lies_in h.lies h0
    refine ⟨p, ⟨S1, S2, g1, g2, h.c1.below hb, h.c2.below hb, h.apart, h.n1, h.n2, h.bel.trans (hb.mono h.bel.size), h.lies.below hb, fun a ha _ => h.far a ha ?_⟩, fun _ => rfl⟩
    rw [hp] at ha
    cases ha
    exact hlt
theorem two_answer {W X : World} {d1 d2 : Nat} {L1 L2 l : List Ac} {p : Option Addr} (h : Two W d1 L1 d2 L2 p l X) (v : Av) (hv : v.ok) :
    Calls Tryd.prog 10 #[ptr d1, v.val] X fun e w' => e = .returned (.int .i64 (ansE L1 v)) ∧ ∃ q, Two W d1 (nxtL L1 v) d2 L2 q l w' ∧ (l ≠ [] → q = p) := by
  obtain ⟨S1, S2, g1, g2, h⟩ := h
  refine (answer_any h.c1 v hv).mono ?_
  rintro e w' ⟨rfl, S', g', k1, k2, k3⟩
  refine ⟨rfl, ?_⟩
  have c2 : Ct w' d2 S2 L2 g2 := ⟨h.c2.ch.keep (fun k hk => k3.block k (h.c2.inh k hk) (fun h1 => h.apart k h1 hk)), h.c2.good, fun k hk => Nat.lt_of_lt_of_le (h.c2.inh k hk) k3.size⟩
  have ap : ∀ k, S' k → S2 k → False := fun k a b => by
    rcases k2 k a with a | a
    · exact h.apart k a b
    · have := h.c2.inh k b
      omega
  have hn : ∀ k, S' k → W.heap.size ≤ k := fun k hk => by
    rcases k2 k hk with a | a
    · exact h.n1 k a
    · exact Nat.le_trans h.bel.size a
  have hbl : Below W.heap.size W w' := ⟨k3.os.trans h.bel.os, k3.tape.trans h.bel.tape, k3.output.trans h.bel.output, Nat.le_trans h.bel.size k3.size, fun k hk => (k3.block k (Nat.lt_of_lt_of_le hk h.bel.size) (fun hs => by have := h.n1 k hs; omega)).trans (h.bel.block k hk)⟩
  by_cases h0 : l = []
  · subst h0
    exact ⟨none, ⟨S', S2, g', g2, k1, c2, ap, hn, h.n2, hbl, Lies.nil _ _, fun a ha => by cases ha⟩, fun h => absurd rfl h⟩
  · obtain ⟨b, off, hp, hlt⟩ := lies_in h.lies h0
    subst hp
    have hf := h.far _ rfl hlt
    refine ⟨_, ⟨S', S2, g', g2, k1, c2, ap, hn, h.n2, hbl, h.lies.block k3.size (k3.block b hlt hf.1), fun a ha _ => ?_⟩, fun _ => rfl⟩
    cases ha
    refine ⟨fun hs => ?_, hf.2⟩
    rcases k2 b hs with a | a
    · exact hf.1 a
    · omega
/-- the list of the first, which lies apart, in place of what was kept; and the charts with what was kept -/
theorem two_accounts {W X : World} {d1 d2 : Nat} {L1 L2 l : List Ac} {p : Option Addr} (h : Two W d1 L1 d2 L2 p l X) :
    Calls Tryd.prog 9 #[ptr d1] X fun e w' => ∃ q c, e = .returned (.slice q L1.length c) ∧ Two W d1 L1 d2 L2 q L1 w' ∧ Below X.heap.size X w' := by
  obtain ⟨S1, S2, g1, g2, h⟩ := h
  refine (accounts_any h.c1.ch h.c1.good h.c1.inh).mono ?_
  rintro e w' ⟨q, c, rfl, hl, hq, _, hb⟩
  refine ⟨q, c, rfl, ⟨S1, S2, g1, g2, h.c1.below hb, h.c2.below hb, h.apart, h.n1, h.n2, h.bel.trans (hb.mono h.bel.size), hl, fun a ha _ => ?_⟩, hb⟩
  have := (hq a ha).1
  refine ⟨fun hs => ?_, fun hs => ?_⟩
  · have := h.c1.inh _ hs; omega
  · have := h.c2.inh _ hs; omega
theorem new_from {W X w' : World} {d1 d2 : Nat} {L : List Ac} {S g} (h : New W d1 L X) (hb : Below X.heap.size X w') (hc : Ct w' d2 S L g) (hn : ∀ k, S k → X.heap.size ≤ k) : Two W d1 L d2 L none [] w' := by
  obtain ⟨S1, g1, h1, h2, h3⟩ := h
  exact ⟨S1, S, g1, g, h1.below hb, hc, fun k a b => by have := h1.inh k a; have := hn k b; omega, h2, fun k hk => Nat.le_trans h3.size (hn k hk), h3.trans (hb.mono h3.size), Lies.nil _ _, fun a ha => by cases ha⟩
theorem New.good {W X : World} {d : Nat} {L : List Ac} (h : New W d L X) : Good L := by
  obtain ⟨S, g, h1, h2, h3⟩ := h
  exact h1.good
theorem new_from_any {W X : World} {d : Nat} {L : List Ac} {p : Option Addr} {n c : Nat} (h : New W d L X) (hn : L.length = n) (hl : Lies kA X p L) : Calls Tryd.prog 8 #[.slice p n c] X fun e w' => ∃ d2, e = .returned (.tuple #[ptr d2, .int .i64 0]) ∧ Two W d L d2 L none [] w' := by
  have hG := h.good
  refine (from_any hn (by have := hG.len; omega) hl (fun a ha => name_size (hG.name a ha))).mono ?_
  rintro e w' ⟨hh, hb⟩
  rcases hh with ⟨_, d2, S, g, rfl, hc, hs⟩ | ⟨hno, _⟩
  · exact ⟨d2, rfl, new_from h hb hc hs⟩
  · exact absurd (good_ok hG) hno
/-- the same, where an empty list may be said to lie anywhere -/
def TwoP (W : World) (d1 : Nat) (L1 : List Ac) (d2 : Nat) (L2 : List Ac) (p : Option Addr) (l : List Ac) (X : World) : Prop := ∃ q, Two W d1 L1 d2 L2 q l X ∧ (l ≠ [] → q = p)
theorem TwoP.symm {W X : World} {d1 d2 : Nat} {L1 L2 l : List Ac} {p : Option Addr} (h : TwoP W d1 L1 d2 L2 p l X) : TwoP W d2 L2 d1 L1 p l X := by
  obtain ⟨q, h1, h2⟩ := h
  exact ⟨q, h1.symm, h2⟩
theorem TwoP.bel {W X : World} {d1 d2 : Nat} {L1 L2 l : List Ac} {p : Option Addr} (h : TwoP W d1 L1 d2 L2 p l X) : Below W.heap.size W X := by
  obtain ⟨q, h1, h2⟩ := h
  exact h1.bel
theorem TwoP.lies {W X : World} {d1 d2 : Nat} {L1 L2 l : List Ac} {p : Option Addr} (h : TwoP W d1 L1 d2 L2 p l X) : Lies kA X p l := by
  obtain ⟨q, h1, h2⟩ := h
  by_cases h0 : l = []
  · subst h0
    exact Lies.nil _ _
  · rw [← h2 h0]
    exact h1.lies
theorem TwoP.forget {W X : World} {d1 d2 : Nat} {L1 L2 l : List Ac} {p : Option Addr} (h : TwoP W d1 L1 d2 L2 p l X) : TwoP W d1 L1 d2 L2 none [] X := by
  obtain ⟨q, h1, h2⟩ := h
  exact ⟨none, h1.forget, fun _ => rfl⟩
theorem TwoP.below {W X w' : World} {d1 d2 : Nat} {L1 L2 l : List Ac} {p : Option Addr} (h : TwoP W d1 L1 d2 L2 p l X) (hb : Below X.heap.size X w') : TwoP W d1 L1 d2 L2 p l w' := by
  obtain ⟨q, h1, h2⟩ := h
  obtain ⟨r, h3, h4⟩ := two_keep h1 hb
  exact ⟨r, h3, fun h => (h4 h).trans (h2 h)⟩
theorem TwoP.answer {W X : World} {d1 d2 : Nat} {L1 L2 l : List Ac} {p : Option Addr} (h : TwoP W d1 L1 d2 L2 p l X) (v : Av) (hv : v.ok) :
    Calls Tryd.prog 10 #[ptr d1, v.val] X fun e w' => e = .returned (.int .i64 (ansE L1 v)) ∧ TwoP W d1 (nxtL L1 v) d2 L2 p l w' := by
  obtain ⟨q, h1, h2⟩ := h
  refine (two_answer h1 v hv).mono ?_
  rintro e w' ⟨rfl, r, h3, h4⟩
  exact ⟨rfl, r, h3, fun h => (h4 h).trans (h2 h)⟩
theorem TwoP.answer2 {W X : World} {d1 d2 : Nat} {L1 L2 l : List Ac} {p : Option Addr} (h : TwoP W d1 L1 d2 L2 p l X) (v : Av) (hv : v.ok) :
    Calls Tryd.prog 10 #[ptr d2, v.val] X fun e w' => e = .returned (.int .i64 (ansE L2 v)) ∧ TwoP W d1 L1 d2 (nxtL L2 v) p l w' := by
  refine (h.symm.answer v hv).mono ?_
  rintro e w' ⟨rfl, h3⟩
  exact ⟨rfl, h3.symm⟩
theorem TwoP.accounts {W X : World} {d1 d2 : Nat} {L1 L2 l : List Ac} {p : Option Addr} (h : TwoP W d1 L1 d2 L2 p l X) :
    Calls Tryd.prog 9 #[ptr d1] X fun e w' => ∃ q c, e = .returned (.slice q L1.length c) ∧ TwoP W d1 L1 d2 L2 q L1 w' ∧ TwoP W d1 L1 d2 L2 p l w' ∧ Below X.heap.size X w' := by
  have h' := h
  obtain ⟨q, h1, h2⟩ := h
  refine (two_accounts h1).mono ?_
  rintro e w' ⟨r, c, rfl, h3, hb⟩
  exact ⟨r, c, rfl, ⟨r, h3, fun _ => rfl⟩, h'.below hb, hb⟩
theorem TwoP.accounts2 {W X : World} {d1 d2 : Nat} {L1 L2 l : List Ac} {p : Option Addr} (h : TwoP W d1 L1 d2 L2 p l X) :
    Calls Tryd.prog 9 #[ptr d2] X fun e w' => ∃ q c, e = .returned (.slice q L2.length c) ∧ TwoP W d1 L1 d2 L2 q L2 w' ∧ TwoP W d1 L1 d2 L2 p l w' ∧ Below X.heap.size X w' := by
  refine (h.symm.accounts).mono ?_
  rintro e w' ⟨r, c, rfl, h3, h4, hb⟩
  exact ⟨r, c, rfl, h3.symm, h4.symm, hb⟩
theorem TwoP.good {W X : World} {d1 d2 : Nat} {L1 L2 l : List Ac} {p : Option Addr} (h : TwoP W d1 L1 d2 L2 p l X) : Good L1 := by
  obtain ⟨q, ⟨S1, S2, g1, g2, h⟩, h2⟩ := h
  exact h.c1.good
end Go.Proofs.YtgimeecklmmbjaaDoor
