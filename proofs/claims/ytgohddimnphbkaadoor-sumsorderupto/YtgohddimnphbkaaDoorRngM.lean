/- A range over a function whose rounds all go on and may write whatever they like but the loop's own two blocks. -/
import Derived.RangeFuncNested
import Derived.RangeFuncBound
import Derived.RangeFuncCalls
import Derived.RangeFuncLeaves
import Derived.RangeFuncBox
import Derived.RangeFuncWrites
import Derived.Shelf.Abstract
import Derived.OwnWalkIn
import Derived.TacticsInMore
import Derived.LoopNIn
import Derived.LoopIn
namespace Go.Proofs.YtgohddimnphbkaaDoor
open Go Go.RowKit Go.Shelf
set_option linter.unusedVariables false
/-- the blocks of a range's own book-keeping -/
def lpy : Obj → Bool
  | .loop _ => true
  | .deferred _ => true
  | _ => false
/-- what abides the turn of such a block -/
def OwnL {β : Type} (B : Nat) (I : β → World → Prop) : Prop :=
  ∀ s W W' row, I s W → W.grownBy W' row → (∀ r, row = some r → B ≤ r ∧ ∃ o : Obj, W.heap[r]? = some o ∧ lpy o = true) → I s W'
theorem OwnL.putObj {β : Type} {B : Nat} {I : β → World → Prop} (h : OwnL B I) {s : β} {W : World} {l : Nat} {o : Obj} (o' : Obj) (hs : I s W) (hB : B ≤ l) (hl : W.heap[l]? = some o) (ho : lpy o = true) : I s (W.putObj l o') :=
  h s W _ (some l) hs (grownBy_putObj' W l o') (fun r e => by cases e; exact ⟨hB, o, hl, ho⟩)
theorem OwnL.alloc {β : Type} {B : Nat} {I : β → World → Prop} (h : OwnL B I) {s : β} {W : World} (o : Obj) (hs : I s W) : I s (W.alloc o) :=
  h s W _ none hs (World.grownBy_alloc W o none) (fun r e => by cases e)
structure KeepsL (W W' : World) : Prop where
  size : W.heap.size ≤ W'.heap.size
  same : ∀ (k : Nat) (o : Obj), W.heap[k]? = some o → lpy o = true → W'.heap[k]? = some o
theorem KeepsL.refl (W : World) : KeepsL W W := ⟨Nat.le_refl _, fun _ _ h _ => h⟩
theorem KeepsL.trans {X Y Z : World} (h : KeepsL X Y) (k : KeepsL Y Z) : KeepsL X Z := ⟨Nat.le_trans h.size k.size, fun i o hi ho => k.same i o (h.same i o hi ho) ho⟩
/-- the iterator hands out the list X, whatever the rounds do -/
def GivesU {α : Type} (F : Fence) (n : Nat) (P : Program) (gf : Nat) (lb : Array Value) (enc : α → Value) (X : List α) (w : World) : Prop :=
  ∀ (l : Nat) (J : List α → World → Prop) (W : World), Below w.heap.size w W → (∀ xs A B, J xs A → A.grownBy B none → J xs B) →
    (∀ pre x W1, J pre W1 → pre ++ [x] <+: X → YieldAt F (n - 1) P l #[enc x] W1 fun e W2 => e = .returned (.bool true) ∧ J (pre ++ [x]) W2) →
    J [] W → CallsIn F n P gf (#[.func (.yield l) #[] #[]] ++ lb) W fun e W2 => (∃ v, e = .returned v) ∧ J X W2
theorem range_up {α : Type} {F : Fence} {n : Nat} {P : Program} {g : Operand} {ps : Array Tmp} {assign body : Code} {Q : Exit → Act → World → Prop} {a : Act} {w : World}
    (hro : F.round = none) (h1 : 1 ≤ n) {gf : Nat} {lb : Array Value} (hg : a.eval g = .func (.func gf) #[] lb) (hFg : F.fn gf) (eg : ∀ args w, (callFunc gf args).run P w = .ok (.enter gf args) w)
    {enc : α → Value} {X : List α} (hseq : GivesU F (n - 1) P gf lb enc X w) (hps : ps.size = 1)
    (I : List α → World → Prop) (hI : OwnL w.heap.size I) (h0 : I [] w) (a1 : α → Act)
    (hassign : ∀ (l : Nat) (x : α) (W : World) (K : Act → World → Prop), K (a1 x) W → assign.wpIn (F.inRound l) (n - 1 - 1) P (Exit.then K (fun _ _ _ => False)) { tmps := (ps.zip #[enc x]).foldl (fun t (p, v) => t.setIfInBounds p v) a.tmps, defers := [] } W)
    (hbody : ∀ (l : Nat) (pre : List α) (x : α) (W : World), I pre W → pre ++ [x] <+: X → body.wpIn (F.inRound l) (n - 1 - 1) P (fun e _ W2 => e = .normal ∧ KeepsL W W2 ∧ I (pre ++ [x]) W2) (a1 x) W)
    (hdone : ∀ (D : Nat) (W : World), w.heap.size ≤ D → I X W → W.heap[D]? = some (.deferred (some [])) → Q .normal { a with defers := { target := .collected D, args := #[] } :: a.defers } W) :
    (Code.rangeFunc g ps assign body).wpIn F n P Q a w := by
  refine wpIn_rangeFunc fun fn hfn => ?_
  rw [hro]
  obtain ⟨r0, hr0⟩ : ∃ r0 : Loop, r0 = { state := .ready, pending := none, fn, tmps := a.tmps, params := ps, assign, body, defers := w.heap.size } := ⟨_, rfl⟩
  obtain ⟨L, hL⟩ : ∃ L, L = w.heap.size + 1 := ⟨_, rfl⟩
  obtain ⟨V, hV⟩ : ∃ V, V = (w.alloc (.deferred (some []))).alloc (.loop r0) := ⟨_, rfl⟩
  have vb : Below w.heap.size w V := by rw [hV]; exact ((Below.refl _ _).alloc (Nat.le_refl _) _).alloc (by simp) _
  have vL : V.heap[L]? = some (.loop r0) := by
    have := World.alloc_heap_new (w.alloc (.deferred (some []))) (.loop r0)
    rw [World.size_alloc] at this
    rw [hV, hL]
    exact this
  have vD : V.heap[w.heap.size]? = some (.deferred (some [])) := by
    rw [hV]
    exact (Below.heap_alloc _ _ _ (by simp)).trans (World.alloc_heap_new w _)
  have vI : I [] V := by rw [hV]; exact hI.alloc _ (hI.alloc _ h0)
  refine ⟨L, [{ target := .collected w.heap.size, args := #[] }], V, { target := .fn (.func gf) lb, args := #[.func (.yield L) #[] #[]] }, V, gf, #[.func (.yield L) #[] #[]] ++ lb, V, ?_, ?_, ?_, ?_, fun _ => h1, ?_⟩
  · rw [hV, hr0, hL]
    exact run_enterLoop_outer _ _ _ _ _
  · simp only [resolve, hg]
    simp [go_sem]
  · intro f2 hf2
    simp [Target.leads] at hf2
    subst hf2
    exact hFg
  · simp [invoke, go_sem, eg]
  · refine (hseq L (fun pre W => I pre W ∧ W.heap[L]? = some (.loop r0) ∧ W.heap[w.heap.size]? = some (.deferred (some []))) V vb ?_ ?_ ⟨vI, vL, vD⟩).mono ?_
    · intro xs A B hA hAB
      exact ⟨hI xs A B none hA.1 hAB (fun r e => by cases e), (hAB.block L (Array.getElem?_eq_some_iff.1 hA.2.1).1 (by simp)).trans hA.2.1, (hAB.block _ (Array.getElem?_eq_some_iff.1 hA.2.2).1 (by simp)).trans hA.2.2⟩
    · rintro pre x W ⟨wi, wl, wd⟩ hpx
      have hy := run_yield (P := P) (args := #[enc x]) wl (by rw [hr0]; exact hps.symm)
      rw [hr0] at hy
      refine ⟨fn, _, assign, body, hy, roundIn_of_wpIn hfn (hassign L x W _ ?_)⟩
      have busy := run_beginRound (P := P) wl (by rw [hr0])
      refine ⟨_, busy, ?_⟩
      have hlt := (Array.getElem?_eq_some_iff.1 wl).1
      obtain ⟨r1, hr1⟩ : ∃ r1 : Loop, r1 = { r0 with state := .busy } := ⟨_, rfl⟩
      rw [← hr1]
      have bl : (W.putObj L (.loop r1)).heap[L]? = some (.loop r1) := World.putObj_heap_same hlt
      have bd : (W.putObj L (.loop r1)).heap[w.heap.size]? = some (.deferred (some [])) := (World.putObj_heap_other (by omega)).trans wd
      refine wpIn_mono (hbody L pre x _ (hI.putObj _ wi (by omega) wl rfl) hpx) ?_
      rintro e a3 X2 ⟨rfl, xk, xi⟩
      have xl := xk.same _ _ bl rfl
      have xd := xk.same _ _ bd rfl
      have fin := run_endRound (P := P) none xl
      have er : ({ r1 with state := (if (none : Option Code).isNone = true then LoopState.ready else LoopState.done), pending := none } : Loop) = r0 := by rw [hr1, hr0]; rfl
      rw [er] at fin
      exact ⟨_, _, fin, rfl, ⟨hI.putObj _ xi (by omega) xl rfl, World.putObj_heap_same (Array.getElem?_eq_some_iff.1 xl).1, (World.putObj_heap_other (by omega)).trans xd⟩⟩
    · rintro e X2 ⟨⟨v, rfl⟩, xi, xl, xd⟩
      have fin := run_endLoop (P := P) xl (by rw [hr0]; simp)
      have ep : r0.pending = none := by rw [hr0]
      rw [ep] at fin
      exact ⟨none, _, fin, hdone w.heap.size _ (Nat.le_refl _) (hI.putObj _ xi (by omega) xl rfl) ((World.putObj_heap_other (by omega)).trans xd)⟩
end Go.Proofs.YtgohddimnphbkaaDoor
