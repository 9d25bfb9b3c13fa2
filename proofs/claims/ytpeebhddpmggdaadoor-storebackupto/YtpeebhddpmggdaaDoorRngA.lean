/- A range over a function whose rounds all go on, where the iterator tells of each thing that it hands out, and of all in the end. -/
import Derived.RangeFuncNested
import Derived.RangeFuncBound
import Derived.RangeFuncCalls
import Derived.RangeFuncLeaves
import Derived.RangeFuncBox
import Derived.Shelf.Abstract
import Derived.OwnWalkIn
import Derived.TacticsInMore
import Derived.LoopNIn
import Derived.LoopIn
import Derived.Test.YtpeebhddpmggdaaDoorFrmA
namespace Go.Proofs.YtpeebhddpmggdaaDoor
open Go Go.RowKit Go.Shelf
set_option linter.unusedVariables false
/-- the iterator: whatever J holds between rounds, it hands out things of which C holds, and in the end S holds of them all -/
def Tells {α : Type} (F : Fence) (n : Nat) (P : Program) (gf : Nat) (lb : Array Value) (encs : α → Array Value) (Kp : World → World → Prop) (C : List α → α → World → Prop) (S : List α → World → Prop) (w : World) : Prop :=
  ∀ (l : Nat) (J : List α → World → Prop) (W : World), Below w.heap.size w W → (∀ xs A B, J xs A → A.grownBy B none → J xs B) →
    (∀ pre x W1, J pre W1 → C pre x W1 → YieldAt F (n - 1) P l (encs x) W1 fun e W2 => e = .returned (.bool true) ∧ J (pre ++ [x]) W2 ∧ Kp W1 W2) →
    J [] W → CallsIn F n P gf (#[.func (.yield l) #[] #[]] ++ lb) W fun e W2 => (∃ v, e = .returned v) ∧ ∃ xs, S xs W2 ∧ J xs W2
theorem range_tells {α : Type} {F : Fence} {n : Nat} {P : Program} {g : Operand} {ps : Array Tmp} {assign body : Code} {Q : Exit → Act → World → Prop} {a : Act} {w : World}
    (hro : F.round = none) (h1 : 1 ≤ n) {gf : Nat} {lb : Array Value} (hg : a.eval g = .func (.func gf) #[] lb) (hFg : F.fn gf) (eg : ∀ args w, (callFunc gf args).run P w = .ok (.enter gf args) w)
    {encs : α → Array Value} {Kp : World → World → Prop} {C : List α → α → World → Prop} {S : List α → World → Prop} (hseq : Tells F (n - 1) P gf lb encs Kp C S w)
    (hKt : ∀ {A B D : World}, Kp A B → Kp B D → Kp A D) (hKb : ∀ (W : World) (l : Nat) (o o' : Obj), w.heap.size ≤ l → W.heap[l]? = some o → o.isCells = false → Kp W (W.putObj l o')) (hps : ∀ x, (encs x).size = ps.size)
    (I : List α → World → Prop) (hI : OwnFrom w.heap.size I) (hC : ∀ pre x, OwnFrom w.heap.size (fun (_ : Unit) W => C pre x W)) (hS : OwnFrom w.heap.size S) (h0 : I [] w) (a1 : α → Act)
    (hassign : ∀ (l : Nat) (x : α) (W : World) (K : Act → World → Prop), K (a1 x) W → assign.wpIn (F.inRound l) (n - 1 - 1) P (Exit.then K (fun _ _ _ => False)) { tmps := (ps.zip (encs x)).foldl (fun t (p, v) => t.setIfInBounds p v) a.tmps, defers := [] } W)
    (hbody : ∀ (l : Nat) (pre : List α) (x : α) (W : World), I pre W → C pre x W → body.wpIn (F.inRound l) (n - 1 - 1) P (fun e _ W2 => e = .normal ∧ KeepsFrom w.heap.size W W2 ∧ Kp W W2 ∧ I (pre ++ [x]) W2) (a1 x) W)
    (hdone : ∀ (D : Nat) (xs : List α) (W : World), w.heap.size ≤ D → S xs W → I xs W → W.heap[D]? = some (.deferred (some [])) → Q .normal { a with defers := { target := .collected D, args := #[] } :: a.defers } W) :
    (Code.rangeFunc g ps assign body).wpIn F n P Q a w := by
  refine wpIn_rangeFunc fun fn hfn => ?_
  rw [hro]
  obtain ⟨r0, hr0⟩ : ∃ r0 : Loop, r0 = { state := .ready, pending := none, fn, tmps := a.tmps, params := ps, assign, body, defers := w.heap.size } := ⟨_, rfl⟩
  obtain ⟨L, hL⟩ : ∃ L, L = w.heap.size + 1 := ⟨_, rfl⟩
  obtain ⟨V, hV⟩ : ∃ V, V = (w.alloc (.deferred (some []))).alloc (.loop r0) := ⟨_, rfl⟩
  have vb : Below w.heap.size w V := by rw [hV]; exact ((Below.refl _ _).alloc (Nat.le_refl _) _).alloc (by simp) _
  have vL : V.heap[L]? = some (.loop r0) := by
    have := World.alloc_heap_new (w.alloc (.deferred (some []))) (.loop r0)
    rw [World.size_alloc] at this
    rw [hV, hL]
    exact this
  have vD : V.heap[w.heap.size]? = some (.deferred (some [])) := by
    rw [hV]
    exact (Below.heap_alloc _ _ _ (by simp)).trans (World.alloc_heap_new w _)
  have vI : I [] V := by rw [hV]; exact hI.alloc _ (hI.alloc _ h0)
  refine ⟨L, [{ target := .collected w.heap.size, args := #[] }], V, { target := .fn (.func gf) lb, args := #[.func (.yield L) #[] #[]] }, V, gf, #[.func (.yield L) #[] #[]] ++ lb, V, ?_, ?_, ?_, ?_, fun _ => h1, ?_⟩
  · rw [hV, hr0, hL]
    exact run_enterLoop_outer _ _ _ _ _
  · simp only [resolve, hg]
    simp [go_sem]
  · intro f2 hf2
    simp [Target.leads] at hf2
    subst hf2
    exact hFg
  · simp [invoke, go_sem, eg]
  · refine (hseq L (fun pre W => I pre W ∧ W.heap[L]? = some (.loop r0) ∧ W.heap[w.heap.size]? = some (.deferred (some []))) V vb ?_ ?_ ⟨vI, vL, vD⟩).mono ?_
    · intro xs A B hA hAB
      exact ⟨hI xs A B none hA.1 hAB (fun r e => by cases e), (hAB.block L (Array.getElem?_eq_some_iff.1 hA.2.1).1 (by simp)).trans hA.2.1, (hAB.block _ (Array.getElem?_eq_some_iff.1 hA.2.2).1 (by simp)).trans hA.2.2⟩
    · rintro pre x W ⟨wi, wl, wd⟩ wc
      have hy := run_yield (P := P) (args := encs x) wl (by rw [hr0]; exact hps x)
      rw [hr0] at hy
      refine ⟨fn, _, assign, body, hy, roundIn_of_wpIn hfn (hassign L x W _ ?_)⟩
      have busy := run_beginRound (P := P) wl (by rw [hr0])
      refine ⟨_, busy, ?_⟩
      have hlt := (Array.getElem?_eq_some_iff.1 wl).1
      obtain ⟨r1, hr1⟩ : ∃ r1 : Loop, r1 = { r0 with state := .busy } := ⟨_, rfl⟩
      rw [← hr1]
      have bl : (W.putObj L (.loop r1)).heap[L]? = some (.loop r1) := World.putObj_heap_same hlt
      have bd : (W.putObj L (.loop r1)).heap[w.heap.size]? = some (.deferred (some [])) := (World.putObj_heap_other (by omega)).trans wd
      refine wpIn_mono (hbody L pre x _ (hI.putObj _ wi (by omega) wl rfl) ((hC pre x).putObj (s := ()) _ wc (by omega) wl rfl)) ?_
      rintro e a3 X ⟨rfl, xk, xp, xi⟩
      have xl := xk.same _ _ (by omega) bl rfl
      have xd := xk.same _ _ (Nat.le_refl _) bd rfl
      have fin := run_endRound (P := P) none xl
      have er : ({ r1 with state := (if (none : Option Code).isNone = true then LoopState.ready else LoopState.done), pending := none } : Loop) = r0 := by rw [hr1, hr0]; rfl
      rw [er] at fin
      refine ⟨_, _, fin, rfl, ⟨hI.putObj _ xi (by omega) xl rfl, World.putObj_heap_same (Array.getElem?_eq_some_iff.1 xl).1, (World.putObj_heap_other (by omega)).trans xd⟩, ?_⟩
      exact hKt (hKt (hKb W L _ _ (by omega) wl rfl) xp) (hKb X L _ _ (by omega) xl rfl)
    · rintro e X ⟨⟨v, rfl⟩, xs, xs1, xi, xl, xd⟩
      have fin := run_endLoop (P := P) xl (by rw [hr0]; simp)
      have ep : r0.pending = none := by rw [hr0]
      rw [ep] at fin
      exact ⟨none, _, fin, hdone w.heap.size xs _ (Nat.le_refl _) (hS xs X _ (some L) xs1 (grownBy_putObj' _ _ _) (fun r e => by cases e; exact ⟨by omega, _, xl, rfl⟩)) (hI.putObj _ xi (by omega) xl rfl) ((World.putObj_heap_other (by omega)).trans xd)⟩
end Go.Proofs.YtpeebhddpmggdaaDoor
