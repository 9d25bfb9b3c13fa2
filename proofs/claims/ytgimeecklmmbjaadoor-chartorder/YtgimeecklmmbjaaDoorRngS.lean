/- A range over a function whose rounds may end it by a return; the iterator may read between two rounds what the rounds keep. -/
import Derived.RangeFuncNested
import Derived.RangeFuncBound
import Derived.RangeFuncCalls
import Derived.RangeFuncLeaves
import Derived.RangeFuncBox
import Derived.RangeFuncWrites
import Derived.Shelf.Abstract
import Derived.OwnWalkIn
import Derived.TacticsInMore
import Derived.LoopNIn
import Derived.LoopIn
namespace Go.Proofs.YtgimeecklmmbjaaDoor
open Go Go.RowKit Go.Shelf
set_option linter.unusedVariables false
/-- the blocks of a range's own book-keeping -/
def lpy : Obj → Bool
  | .loop _ => true
  | .deferred _ => true
  | _ => false
/-- what abides the turn of such a block -/
def OwnL {β : Type} (B : Nat) (I : β → World → Prop) : Prop :=
  ∀ s W W' row, I s W → W.grownBy W' row → (∀ r, row = some r → B ≤ r ∧ ∃ o : Obj, W.heap[r]? = some o ∧ lpy o = true) → I s W'
theorem OwnL.putObj {β : Type} {B : Nat} {I : β → World → Prop} (h : OwnL B I) {s : β} {W : World} {l : Nat} {o : Obj} (o' : Obj) (hs : I s W) (hB : B ≤ l) (hl : W.heap[l]? = some o) (ho : lpy o = true) : I s (W.putObj l o') :=
  h s W _ (some l) hs (grownBy_putObj' W l o') (fun r e => by cases e; exact ⟨hB, o, hl, ho⟩)
theorem OwnL.alloc {β : Type} {B : Nat} {I : β → World → Prop} (h : OwnL B I) {s : β} {W : World} (o : Obj) (hs : I s W) : I s (W.alloc o) :=
  h s W _ none hs (World.grownBy_alloc W o none) (fun r e => by cases e)
theorem OwnL.later {β : Type} {B B' : Nat} {I : β → World → Prop} (h : OwnL B I) (hB : B ≤ B') : OwnL B' I := fun s W W' row hs hg hr => h s W W' row hs hg fun r e => by
  obtain ⟨h1, h2⟩ := hr r e
  exact ⟨Nat.le_trans hB h1, h2⟩
/-- the blocks of a kind stay as they are -/
structure KeepsG (gd : Obj → Bool) (W W' : World) : Prop where
  size : W.heap.size ≤ W'.heap.size
  same : ∀ (k : Nat) (o : Obj), W.heap[k]? = some o → gd o = true → W'.heap[k]? = some o
theorem KeepsG.refl (gd : Obj → Bool) (W : World) : KeepsG gd W W := ⟨Nat.le_refl _, fun _ _ h _ => h⟩
theorem KeepsG.trans {gd : Obj → Bool} {X Y Z : World} (h : KeepsG gd X Y) (k : KeepsG gd Y Z) : KeepsG gd X Z := ⟨Nat.le_trans h.size k.size, fun i o hi ho => k.same i o (h.same i o hi ho) ho⟩
theorem KeepsG.below {gd : Obj → Bool} {X Y : World} (h : Below X.heap.size X Y) : KeepsG gd X Y := ⟨h.size, fun i o hi ho => (h.block i (Array.getElem?_eq_some_iff.1 hi).1).trans hi⟩
/-- the blocks of a kind from B on stay as they are -/
structure KeepsF (gd : Obj → Bool) (B : Nat) (W W' : World) : Prop where
  size : W.heap.size ≤ W'.heap.size
  same : ∀ (k : Nat) (o : Obj), B ≤ k → W.heap[k]? = some o → gd o = true → W'.heap[k]? = some o
theorem KeepsG.from {gd : Obj → Bool} {X Y : World} (h : KeepsG gd X Y) (B : Nat) : KeepsF gd B X Y := ⟨h.size, fun k o _ hk ho => h.same k o hk ho⟩
theorem KeepsF.later {gd : Obj → Bool} {B B' : Nat} {X Y : World} (h : KeepsF gd B X Y) (hB : B ≤ B') : KeepsF gd B' X Y := ⟨h.size, fun k o hb hk ho => h.same k o (Nat.le_trans hB hb) hk ho⟩
/-- the iterator hands out the list X, or a beginning of it where a round says that it is enough -/
def GivesS {α : Type} (gd : Obj → Bool) (P : Program) (gf : Nat) (lb : Array Value) (encs : α → Array Value) (X : List α) (w : World) : Prop :=
  ∀ (l : Nat) (J Jx : List α → World → Prop) (W : World), Below w.heap.size w W → OwnL W.heap.size J → OwnL W.heap.size Jx →
    (∀ pre x W1, J pre W1 → pre ++ [x] <+: X → YieldAt Fence.wide 0 P l (encs x) W1 fun e W2 => (e = .returned (.bool true) ∧ J (pre ++ [x]) W2 ∧ KeepsG gd W1 W2) ∨ (e = .returned (.bool false) ∧ Jx (pre ++ [x]) W2 ∧ KeepsF gd W.heap.size W1 W2)) →
    J [] W → Calls P gf (#[.func (.yield l) #[] #[]] ++ lb) W fun e W2 => (∃ v, e = .returned v) ∧ (J X W2 ∨ ∃ pre, pre <+: X ∧ Jx pre W2)
theorem GivesS.later {α : Type} {gd : Obj → Bool} {P : Program} {gf : Nat} {lb : Array Value} {encs : α → Array Value} {X : List α} {w w' : World} (h : GivesS gd P gf lb encs X w) (hb : Below w.heap.size w w') : GivesS gd P gf lb encs X w' :=
  fun l J Jx W hW hJ hJx hY h0 => h l J Jx W (hb.trans (hW.mono hb.size)) hJ hJx hY h0
theorem round_any {m m' : Nat} {P : Program} {l : Nat} {f : FuncId} {tmps : Array Value} {assign body : Code} {w : World} {R : Ending → World → Prop} (h : RoundIn Fence.wide m P l f tmps assign body w R) : RoundIn Fence.wide m' P l f tmps assign body w R :=
  ⟨h.1, fun c cs _ => h.2 c cs (room_wide _)⟩
theorem yield_any {m m' : Nat} {P : Program} {l : Nat} {args : Array Value} {W : World} {R : Ending → World → Prop} (h : YieldAt Fence.wide m P l args W R) : YieldAt Fence.wide m' P l args W R := by
  obtain ⟨fn, tmps, assign, body, hy, hR⟩ := h
  exact ⟨fn, tmps, assign, body, hy, round_any hR⟩
/-- how a round may end -/
def endS {α : Type} (gd : Obj → Bool) (B : Nat) (I Ix : List α → World → Prop) (xs : List α) (W : World) (e : Exit) (W2 : World) : Prop :=
  (e = .normal ∧ KeepsG gd W W2 ∧ I xs W2) ∨ (e = .ret ∧ KeepsF gd B W W2 ∧ Ix xs W2)
theorem range_st {α : Type} {n : Nat} {P : Program} {g : Operand} {ps : Array Tmp} {assign body : Code} {Q : Exit → Act → World → Prop} {a : Act} {w : World} (gd : Obj → Bool) (hgd : ∀ o, lpy o = true → gd o = true)
    (h1 : 1 ≤ n) {gf : Nat} {lb : Array Value} (hg : a.eval g = .func (.func gf) #[] lb) (eg : ∀ args w, (callFunc gf args).run P w = .ok (.enter gf args) w)
    {encs : α → Array Value} {X : List α} (hseq : GivesS gd P gf lb encs X w) (hps : ∀ x, (encs x).size = ps.size)
    (I Ix : List α → World → Prop) (hI : OwnL w.heap.size I) (hIx : OwnL w.heap.size Ix) (h0 : I [] w) (a1 : α → Act)
    (hassign : ∀ (l : Nat) (x : α) (W : World) (K : Act → World → Prop), K (a1 x) W → assign.wpIn (Fence.wide.inRound l) (n - 1 - 1) P (Exit.then K (fun _ _ _ => False)) { tmps := (ps.zip (encs x)).foldl (fun t (p, v) => t.setIfInBounds p v) a.tmps, defers := [] } W)
    (hbody : ∀ (l : Nat) (pre : List α) (x : α) (W : World), I pre W → pre ++ [x] <+: X → body.wpIn (Fence.wide.inRound l) (n - 1 - 1) P (fun e _ W2 => endS gd w.heap.size I Ix (pre ++ [x]) W e W2) (a1 x) W)
    (hdone : ∀ (D : Nat) (W : World), w.heap.size ≤ D → I X W → W.heap[D]? = some (.deferred (some [])) → Q .normal { a with defers := { target := .collected D, args := #[] } :: a.defers } W)
    (hstop : ∀ (D : Nat) (pre : List α) (W : World), w.heap.size ≤ D → pre <+: X → Ix pre W → W.heap[D]? = some (.deferred (some [])) → Code.ret.wpIn Fence.wide n P Q { a with defers := { target := .collected D, args := #[] } :: a.defers } W) :
    (Code.rangeFunc g ps assign body).wpIn Fence.wide n P Q a w := by
  refine wpIn_rangeFunc fun fn hfn => ?_
  rw [show Fence.wide.round = none from rfl]
  obtain ⟨r0, hr0⟩ : ∃ r0 : LoopState → Option Code → Loop, r0 = fun st pe => { state := st, pending := pe, fn, tmps := a.tmps, params := ps, assign, body, defers := w.heap.size } := ⟨_, rfl⟩
  obtain ⟨L, hL⟩ : ∃ L, L = w.heap.size + 1 := ⟨_, rfl⟩
  obtain ⟨V, hV⟩ : ∃ V, V = (w.alloc (.deferred (some []))).alloc (.loop (r0 .ready none)) := ⟨_, rfl⟩
  have vs : V.heap.size = L + 1 := by rw [hV, hL]; simp
  have vb : Below w.heap.size w V := by rw [hV]; exact ((Below.refl _ _).alloc (Nat.le_refl _) _).alloc (by simp) _
  have vL : V.heap[L]? = some (.loop (r0 .ready none)) := by
    have := World.alloc_heap_new (w.alloc (.deferred (some []))) (.loop (r0 .ready none))
    rw [World.size_alloc] at this
    rw [hV, hL]
    exact this
  have vD : V.heap[w.heap.size]? = some (.deferred (some [])) := by
    rw [hV]
    exact (Below.heap_alloc _ _ _ (by simp)).trans (World.alloc_heap_new w _)
  have vI : I [] V := by rw [hV]; exact hI.alloc _ (hI.alloc _ h0)
  refine ⟨L, [{ target := .collected w.heap.size, args := #[] }], V, { target := .fn (.func gf) lb, args := #[.func (.yield L) #[] #[]] }, V, gf, #[.func (.yield L) #[] #[]] ++ lb, V, ?_, ?_, ?_, ?_, fun _ => h1, ?_⟩
  · rw [hV, hr0, hL]
    exact run_enterLoop_outer _ _ _ _ _
  · simp only [resolve, hg]
    simp [go_sem]
  · intro f2 hf2
    trivial
  · simp [invoke, go_sem, eg]
  · have turn : ∀ {A B : World} {row : Option Nat} {k : Nat} {o : Obj}, k < V.heap.size → A.heap[k]? = some o → A.grownBy B row → (∀ r, row = some r → V.heap.size ≤ r ∧ ∃ o : Obj, A.heap[r]? = some o ∧ lpy o = true) → B.heap[k]? = some o := fun {A B row k o} hk hA hAB hr =>
      (hAB.block k (Array.getElem?_eq_some_iff.1 hA).1 (fun e => by have := (hr k e.symm).1; omega)).trans hA
    refine (callsIn_wide.2 (hseq L (fun pre W => I pre W ∧ W.heap[L]? = some (.loop (r0 .ready none)) ∧ W.heap[w.heap.size]? = some (.deferred (some []))) (fun pre W => Ix pre W ∧ W.heap[L]? = some (.loop (r0 .done (some .ret))) ∧ W.heap[w.heap.size]? = some (.deferred (some []))) V vb ?_ ?_ ?_ ⟨vI, vL, vD⟩)).mono ?_
    · intro xs A B row hA hAB hr
      exact ⟨hI xs A B row hA.1 hAB (fun r e => by obtain ⟨h1, h2⟩ := hr r e; exact ⟨by omega, h2⟩), turn (by omega) hA.2.1 hAB hr, turn (by omega) hA.2.2 hAB hr⟩
    · intro xs A B row hA hAB hr
      exact ⟨hIx xs A B row hA.1 hAB (fun r e => by obtain ⟨h1, h2⟩ := hr r e; exact ⟨by omega, h2⟩), turn (by omega) hA.2.1 hAB hr, turn (by omega) hA.2.2 hAB hr⟩
    · rintro pre x W ⟨wi, wl, wd⟩ hpx
      have hy := run_yield (P := P) (args := encs x) wl (by rw [hr0]; exact hps x)
      rw [hr0] at hy
      refine ⟨fn, _, assign, body, hy, round_any (m := n - 1 - 1) (roundIn_of_wpIn hfn (hassign L x W _ ?_))⟩
      have busy := run_beginRound (P := P) wl (by rw [hr0])
      refine ⟨_, busy, ?_⟩
      have hlt := (Array.getElem?_eq_some_iff.1 wl).1
      obtain ⟨r1, hr1⟩ : ∃ r1 : Loop, r1 = { r0 .ready none with state := .busy } := ⟨_, rfl⟩
      rw [← hr1]
      have bl : (W.putObj L (.loop r1)).heap[L]? = some (.loop r1) := World.putObj_heap_same hlt
      have bd : (W.putObj L (.loop r1)).heap[w.heap.size]? = some (.deferred (some [])) := (World.putObj_heap_other (by omega)).trans wd
      have oth : ∀ {X2 X3 : World} {o o3 : Obj}, X3 = X2.putObj L o3 → KeepsG gd (W.putObj L (.loop r1)) X2 → ∀ k o, k ≠ L → W.heap[k]? = some o → gd o = true → X3.heap[k]? = some o := fun {X2 X3 o o3} e3 xk k o2 hk ho hg2 => by
        rw [e3]
        exact (World.putObj_heap_other (by omega)).trans (xk.same k o2 ((World.putObj_heap_other (by omega)).trans ho) hg2)
      refine wpIn_mono (hbody L pre x _ (hI.putObj _ wi (by omega) wl rfl) hpx) ?_
      rintro e a3 X2 (⟨rfl, xk, xi⟩ | ⟨rfl, xk, xi⟩)
      · have xl := xk.same _ _ bl (hgd _ rfl)
        have xd := xk.same _ _ bd (hgd _ rfl)
        have fin := run_endRound (P := P) none xl
        have er : ({ r1 with state := (if (none : Option Code).isNone = true then LoopState.ready else LoopState.done), pending := none } : Loop) = r0 .ready none := by rw [hr1, hr0]; rfl
        rw [er] at fin
        refine ⟨_, _, fin, .inl ⟨rfl, ⟨hI.putObj _ xi (by omega) xl rfl, World.putObj_heap_same (Array.getElem?_eq_some_iff.1 xl).1, (World.putObj_heap_other (by omega)).trans xd⟩, ?_⟩⟩
        refine ⟨by have := xk.size; simp at this ⊢; omega, fun k o ho hg2 => ?_⟩
        by_cases ek : k = L
        · subst ek
          rw [wl] at ho
          injection ho with ho
          subst ho
          exact World.putObj_heap_same (Array.getElem?_eq_some_iff.1 xl).1
        · exact oth (o := o) rfl xk k o ek ho hg2
      · have xl := xk.same _ _ (by omega) bl (hgd _ rfl)
        have xd := xk.same _ _ (Nat.le_refl _) bd (hgd _ rfl)
        have fin := run_endRound (P := P) (some .ret) xl
        have er : ({ r1 with state := (if (some Code.ret : Option Code).isNone = true then LoopState.ready else LoopState.done), pending := some Code.ret } : Loop) = r0 .done (some .ret) := by rw [hr1, hr0]; rfl
        rw [er] at fin
        refine ⟨_, _, fin, .inr ⟨rfl, ⟨hIx.putObj _ xi (by omega) xl rfl, World.putObj_heap_same (Array.getElem?_eq_some_iff.1 xl).1, (World.putObj_heap_other (by omega)).trans xd⟩, ?_⟩⟩
        refine ⟨by have := xk.size; simp at this ⊢; omega, fun k o hB ho hg2 => ?_⟩
        exact (World.putObj_heap_other (by omega)).trans (xk.same k o (by omega) ((World.putObj_heap_other (by omega)).trans ho) hg2)
    · rintro e X2 ⟨⟨v, rfl⟩, ⟨xi, xl, xd⟩ | ⟨pre, hp, xi, xl, xd⟩⟩
      · have fin := run_endLoop (P := P) xl (by rw [hr0]; simp)
        have ep : (r0 .ready none).pending = none := by rw [hr0]
        rw [ep] at fin
        exact ⟨none, _, fin, hdone w.heap.size _ (Nat.le_refl _) (hI.putObj _ xi (by omega) xl rfl) ((World.putObj_heap_other (by omega)).trans xd)⟩
      · have fin := run_endLoop (P := P) xl (by rw [hr0]; simp)
        have ep : (r0 .done (some Code.ret)).pending = some .ret := by rw [hr0]
        rw [ep] at fin
        exact ⟨some .ret, _, fin, hstop w.heap.size pre _ (Nat.le_refl _) hp (hIx.putObj _ xi (by omega) xl rfl) ((World.putObj_heap_other (by omega)).trans xd)⟩
def mkD (D : Nat) : Deferred := { target := .collected D, args := #[] }
theorem leaves_all {F : Fence} {n : Nat} {P : Program} {fn : Func} {tmps : Array Value} {R : Ending → World → Prop} {v : Value} {B : Nat} {I : Unit → World → Prop} (hres : ∀ W, I () W → (results fn tmps).run P W = .ok v W) (hI : OwnL B I) (hR : ∀ W, I () W → R (.returned v) W) : ∀ (ds : List Nat) (W : World), I () W → ds.Nodup → (∀ D ∈ ds, B ≤ D ∧ W.heap[D]? = some (.deferred (some []))) → LeavesInM F n P fn tmps R (ds.map mkD) .returning W
  | [], W, hi, _, _ => ⟨v, hres W hi, hR W hi⟩
  | D :: ds, W, hi, hn, hd => by
    rw [List.nodup_cons] at hn
    have hD := hd D (List.mem_cons_self ..)
    refine ⟨by simp, .inl ⟨D, W.putObj D (.deferred none), rfl, run_takeDeferred hD.2, leaves_all hres hI hR ds _ (hI.putObj _ hi hD.1 hD.2 rfl) hn.2 (fun D' h => ?_)⟩⟩
    have h' := hd D' (List.mem_cons_of_mem _ h)
    exact ⟨h'.1, (World.putObj_heap_other (fun e => hn.1 (by first | (rw [← e]; exact h) | (rw [e]; exact h)))).trans h'.2⟩
end Go.Proofs.YtgimeecklmmbjaaDoor
