/- AgedSteps (3): the walk. -/
import Derived.Test.YtildpgfhahmgmaaDoorStB
import Derived.Test.YtildpgfhahmgmaaDoorDlD
import Derived.Test.YtildpgfhahmgmaaDoorDlE
import Derived.Test.YtildpgfhahmgmaaDoorFiA
import Derived.Test.YtildpgfhahmgmaaDoorE39
namespace Go.Proofs.YtildpgfhahmgmaaDoor
open Go Go.Shelf Go.ChangeShapes Go.WideShapes Go.ChangeAt Go.RowKit Go.Maps
set_option linter.unusedVariables false
/-- the view, and the lists beside it -/
structure Sv (W w : World) (d : Nat) (pc pa : Option Addr) (C : List Cl) (A : List Al) (g : Int) : Prop where
  ex : ∃ S, Vw w d S C A g ∧ ∀ b, S b → d ≤ b
  bel : Below W.heap.size W w
  ge : W.heap.size ≤ d
  c : ∀ k (hk : k < C.length), ∃ b off, pc = some ⟨b, off, none⟩ ∧ b < d ∧ w.rangeAt b (off + k * 5) (kC.enc C[k])
  a : ∀ k (hk : k < A.length), ∃ b off, pa = some ⟨b, off, none⟩ ∧ b < d ∧ w.rangeAt b (off + k * 4) (kA.enc A[k])
  lt : d ≤ w.heap.size
  nc : pc = none → C = []
  na : pa = none → A = []
theorem Sv.lies {W w : World} {d : Nat} {pc pa : Option Addr} {C : List Cl} {A : List Al} {g : Int} (h : Sv W w d pc pa C A g) : Lies kC w pc C ∧ Lies kA w pa A :=
  ⟨⟨h.nc, fun k hk => by obtain ⟨b, off, e, hb, hr⟩ := h.c k hk; exact ⟨b, off, e, Nat.lt_of_lt_of_le hb h.lt, hr⟩⟩, ⟨h.na, fun k hk => by obtain ⟨b, off, e, hb, hr⟩ := h.a k hk; exact ⟨b, off, e, Nat.lt_of_lt_of_le hb h.lt, hr⟩⟩⟩
theorem Sv.keep {W w w' : World} {d : Nat} {pc pa : Option Addr} {C : List Cl} {A : List Al} {g g' : Int} (h : Sv W w d pc pa C A g) (hv : ∃ S, Vw w' d S C A g' ∧ ∀ b, S b → d ≤ b) (hb : Below d w w') (hs : w.heap.size ≤ w'.heap.size) : Sv W w' d pc pa C A g' := by
  refine ⟨hv, h.bel.trans (hb.mono h.ge), h.ge, fun k hk => ?_, fun k hk => ?_, Nat.le_trans h.lt hs, h.nc, h.na⟩
  · obtain ⟨b, off, e, hl, hr⟩ := h.c k hk
    exact ⟨b, off, e, hl, fun j u hu => (hb.cell (p := ⟨b, off + k * 5 + j, none⟩) hl).trans (hr j u hu)⟩
  · obtain ⟨b, off, e, hl, hr⟩ := h.a k hk
    exact ⟨b, off, e, hl, fun j u hu => (hb.cell (p := ⟨b, off + k * 4 + j, none⟩) hl).trans (hr j u hu)⟩
theorem Sv.below {W w w' : World} {d : Nat} {pc pa : Option Addr} {C : List Cl} {A : List Al} {g : Int} (h : Sv W w d pc pa C A g) (hb : Below w.heap.size w w') : Sv W w' d pc pa C A g := by
  obtain ⟨S, h1, h2⟩ := h.ex
  exact h.keep ⟨S, h1.below hb, h2⟩ (hb.mono h.lt) hb.size
theorem Sv.next {W w w' : World} {d : Nat} {S : Nat → Prop} {pc pa : Option Addr} {C : List Cl} {A : List Al} {g g' : Int} (h : Sv W w d pc pa C A g) (hS : ∀ b, S b → d ≤ b) (hn : VwNext w w' d S C A g') : Sv W w' d pc pa C A g' := by
  obtain ⟨S', h1, h2, h3⟩ := hn
  refine h.keep ⟨S', h1, fun b hb => ?_⟩ (h2.below h.lt (fun k hk hs => by have := hS k hs; omega)) h2.size
  rcases h3 b hb with h4 | h4
  · exact hS b h4
  · exact Nat.le_trans h.lt h4
end Go.Proofs.YtildpgfhahmgmaaDoor
