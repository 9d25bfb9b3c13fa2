/- AgedSteps (3): the walk. -/
import Derived.Test.YtildpgfhahmgmaaDoorStC
namespace Go.Proofs.YtildpgfhahmgmaaDoor
open Go Go.Shelf Go.ChangeShapes Go.WideShapes Go.ChangeAt Go.RowKit Go.Maps
set_option linter.unusedVariables false
theorem DlsIn.below {W w : World} {p : Option Addr} {L : List Dl} (h : DlsIn W p L) (hb : Below W.heap.size W w) : DlsIn w p L := fun k hk => by
  obtain ⟨b, off, e, hl, hr⟩ := h k hk
  exact ⟨b, off, e, Nat.lt_of_lt_of_le hl hb.size, fun j u hu => (hb.cell (p := ⟨b, off + k * 5 + j, none⟩) hl).trans (hr j u hu)⟩
theorem PtsIn.below {W w : World} {d : Dl} (h : PtsIn W d) (hb : Below W.heap.size W w) : PtsIn w d := ⟨h.1, fun k hk => by
  obtain ⟨b, off, e, hl, hr⟩ := h.2 k hk
  exact ⟨b, off, e, Nat.lt_of_lt_of_le hl hb.size, fun j u hu => (hb.cell (p := ⟨b, off + k * 2 + j, none⟩) hl).trans (hr j u hu)⟩⟩
theorem clP_mem {L : List Dl} {n : Nat} {c : Cl} (h : c ∈ clP L n) : (1 ≤ c.amt ∧ c.amt ≤ 1000000000) ∧ (1 ≤ c.day ∧ c.day ≤ 3651659) := by
  unfold clP at h
  obtain ⟨i, _, rfl⟩ := List.mem_map.1 h
  exact ⟨amount_bounds _, into_bounds _ (by omega)⟩
/-- the lists that claims and allots made -/
structure Mkd (W w : World) (pc pa : Option Addr) (n m : Nat) (C : List Cl) (A : List Al) : Prop where
  bel : Below W.heap.size W w
  c : Lies kC w pc C
  a : Lies kA w pa A
  cn : C.length = n
  am : A.length = m
  good : Good C A 0
  ck : ∀ c ∈ C, c.key.size ≤ maxLen ∧ c.acc.size ≤ maxLen
  ai : ∀ a ∈ A, a.inv.size ≤ maxLen
  c9 : ∀ c ∈ C, (1 ≤ c.amt ∧ c.amt ≤ 1000000000) ∧ (1 ≤ c.day ∧ c.day ≤ 3651659)
  n5 : n ≤ 50
  ux : ∃ L : List Dl, n ≤ L.length ∧ C = clP L n ∧ A = alP C L n
theorem Mkd.of {W w1 w2 : World} {p1 p2 : Option Addr} {c1 c2 N m : Nat} {L : List Dl} (hNL : N ≤ L.length) (hN5 : N ≤ 50) (ha : ∀ d ∈ L, d.acc.size ≤ maxLen) (h1 : Rw kC W w1 (.slice p1 N c1) N (clP L N)) (h2 : Rw kA w1 w2 (.slice p2 m c2) m (alP (clP L N) L N)) : Mkd W w2 p1 p2 N m (clP L N) (alP (clP L N) L N) := by
  obtain ⟨g1, g2, g3⟩ := deals_good hNL hN5 ha
  exact ⟨h1.bel.trans (h2.bel.mono h1.bel.size), (own_lies kC_ok h1.len h1.row).below h2.bel, own_lies kA_ok h2.len h2.row, h1.len, h2.len, g1, g2, g3, fun c hc => clP_mem hc, hN5, L, hNL, rfl, rfl⟩
theorem Sv.of {W w2 w3 : World} {pc pa : Option Addr} {n m : Nat} {C : List Cl} {A : List Al} {g : Int} (h : Mkd W w2 pc pa n m C A) (hM : Made w2 w3 C A g) : Sv W w3 w2.heap.size pc pa C A g := by
  refine ⟨hM.vw, h.bel.trans (hM.bel.mono h.bel.size), h.bel.size, fun k hk => ?_, fun k hk => ?_, hM.bel.size, h.c.1, h.a.1⟩
  · obtain ⟨b, off, e, hl, hr⟩ := h.c.2 k hk
    exact ⟨b, off, e, hl, fun j u hu => (hM.bel.cell (p := ⟨b, off + k * 5 + j, none⟩) hl).trans (hr j u hu)⟩
  · obtain ⟨b, off, e, hl, hr⟩ := h.a.2 k hk
    exact ⟨b, off, e, hl, fun j u hu => (hM.bel.cell (p := ⟨b, off + k * 4 + j, none⟩) hl).trans (hr j u hu)⟩
theorem Mkd.taken {W w : World} {pc pa : Option Addr} {n m cc ca : Nat} {C : List Cl} {A : List Al} (h : Mkd W w pc pa n m C A) (hS : Stp W) :
    Calls Tryd.prog 10 #[.slice pc n cc, .slice pa m ca, .int .i64 0] w fun e w' => e = .returned (.tuple #[ptr w.heap.size, .bool true]) ∧ Sv W w' w.heap.size pc pa C A 0 := by
  refine Calls.mono (taken_any (t := 0) (cc := cc) (ca := ca) (by omega) h.good h.ck h.ai (hS.below h.bel) h.cn h.cn (fun j h1 h2 => ?_) h.am h.c h.a) ?_
  · have e : (j + 0) % n = j := by rw [Nat.add_zero]; exact Nat.mod_eq_of_lt (by rw [← h.cn]; exact h1)
    simp only [e]
  · rintro e w' ⟨rfl, hm⟩
    exact ⟨rfl, Sv.of h hm⟩
end Go.Proofs.YtildpgfhahmgmaaDoor
