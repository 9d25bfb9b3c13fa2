import Derived.RangeFuncNested
import Derived.RangeFuncBound
import Derived.RangeFuncCalls
import Derived.RangeFuncLeaves
import Derived.RangeFuncBox
import Derived.RangeFuncWrites
import Derived.Shelf.Abstract
import Derived.OwnWalkIn
import Derived.TacticsInMore
import Derived.LoopNIn
import Derived.LoopIn
import Derived.Test.YtdeibifjiefapaaGreatDoorW05
/- A range over a function whose rounds may end it by a return; the iterator may read between two rounds what the rounds keep. -/
namespace Go.Proofs.YtdeibifjiefapaaGreatDoor
open Go Go.RowKit Go.Shelf
set_option linter.unusedVariables false
/-- the blocks of a range's own book-keeping -/
def lpy : Obj → Bool
  | .loop _ => true
  | .deferred _ => true
  | _ => false
/-- what abides the turn of such a block -/
def OwnL {β : Type} (B : Nat) (I : β → World → Prop) : Prop :=
  ∀ s W W' row, I s W → W.grownBy W' row → (∀ r, row = some r → B ≤ r ∧ ∃ o : Obj, W.heap[r]? = some o ∧ lpy o = true) → I s W'
theorem OwnL.putObj {β : Type} {B : Nat} {I : β → World → Prop} (h : OwnL B I) {s : β} {W : World} {l : Nat} {o : Obj} (o' : Obj) (hs : I s W) (hB : B ≤ l) (hl : W.heap[l]? = some o) (ho : lpy o = true) : I s (W.putObj l o') :=
  h s W _ (some l) hs (grownBy_putObj' W l o') (fun r e => by cases e; exact ⟨hB, o, hl, ho⟩)
theorem OwnL.alloc {β : Type} {B : Nat} {I : β → World → Prop} (h : OwnL B I) {s : β} {W : World} (o : Obj) (hs : I s W) : I s (W.alloc o) :=
  h s W _ none hs (World.grownBy_alloc W o none) (fun r e => by cases e)
theorem OwnL.later {β : Type} {B B' : Nat} {I : β → World → Prop} (h : OwnL B I) (hB : B ≤ B') : OwnL B' I := fun s W W' row hs hg hr => h s W W' row hs hg fun r e => by
  obtain ⟨h1, h2⟩ := hr r e
  exact ⟨Nat.le_trans hB h1, h2⟩
/-- the blocks of a kind stay as they are -/
structure KeepsG (gd : Obj → Bool) (W W' : World) : Prop where
  size : W.heap.size ≤ W'.heap.size
  same : ∀ (k : Nat) (o : Obj), W.heap[k]? = some o → gd o = true → W'.heap[k]? = some o
theorem KeepsG.refl (gd : Obj → Bool) (W : World) : KeepsG gd W W := ⟨Nat.le_refl _, fun _ _ h _ => h⟩
theorem KeepsG.trans {gd : Obj → Bool} {X Y Z : World} (h : KeepsG gd X Y) (k : KeepsG gd Y Z) : KeepsG gd X Z := ⟨Nat.le_trans h.size k.size, fun i o hi ho => k.same i o (h.same i o hi ho) ho⟩
theorem KeepsG.below {gd : Obj → Bool} {X Y : World} (h : Below X.heap.size X Y) : KeepsG gd X Y := ⟨h.size, fun i o hi ho => (h.block i (Array.getElem?_eq_some_iff.1 hi).1).trans hi⟩
/-- the blocks of a kind from B on stay as they are -/
structure KeepsF (gd : Obj → Bool) (B : Nat) (W W' : World) : Prop where
  size : W.heap.size ≤ W'.heap.size
  same : ∀ (k : Nat) (o : Obj), B ≤ k → W.heap[k]? = some o → gd o = true → W'.heap[k]? = some o
theorem KeepsG.from {gd : Obj → Bool} {X Y : World} (h : KeepsG gd X Y) (B : Nat) : KeepsF gd B X Y := ⟨h.size, fun k o _ hk ho => h.same k o hk ho⟩
theorem KeepsF.later {gd : Obj → Bool} {B B' : Nat} {X Y : World} (h : KeepsF gd B X Y) (hB : B ≤ B') : KeepsF gd B' X Y := ⟨h.size, fun k o hb hk ho => h.same k o (Nat.le_trans hB hb) hk ho⟩
/-- the iterator hands out the list X, or a beginning of it where a round says that it is enough -/
def GivesS {α : Type} (gd : Obj → Bool) (P : Program) (gf : Nat) (lb : Array Value) (encs : α → Array Value) (X : List α) (w : World) : Prop :=
  ∀ (l : Nat) (J Jx : List α → World → Prop) (W : World), Below w.heap.size w W → OwnL W.heap.size J → OwnL W.heap.size Jx →
    (∀ pre x W1, J pre W1 → pre ++ [x] <+: X → YieldAt Fence.wide 0 P l (encs x) W1 fun e W2 => (e = .returned (.bool true) ∧ J (pre ++ [x]) W2 ∧ KeepsG gd W1 W2) ∨ (e = .returned (.bool false) ∧ Jx (pre ++ [x]) W2 ∧ KeepsF gd W.heap.size W1 W2)) →
    J [] W → Calls P gf (#[.func (.yield l) #[] #[]] ++ lb) W fun e W2 => (∃ v, e = .returned v) ∧ (J X W2 ∨ ∃ pre, pre <+: X ∧ Jx pre W2)
theorem GivesS.later {α : Type} {gd : Obj → Bool} {P : Program} {gf : Nat} {lb : Array Value} {encs : α → Array Value} {X : List α} {w w' : World} (h : GivesS gd P gf lb encs X w) (hb : Below w.heap.size w w') : GivesS gd P gf lb encs X w' :=
  fun l J Jx W hW hJ hJx hY h0 => h l J Jx W (hb.trans (hW.mono hb.size)) hJ hJx hY h0
theorem round_any {m m' : Nat} {P : Program} {l : Nat} {f : FuncId} {tmps : Array Value} {assign body : Code} {w : World} {R : Ending → World → Prop} (h : RoundIn Fence.wide m P l f tmps assign body w R) : RoundIn Fence.wide m' P l f tmps assign body w R :=
  ⟨h.1, fun c cs _ => h.2 c cs (room_wide _)⟩
theorem yield_any {m m' : Nat} {P : Program} {l : Nat} {args : Array Value} {W : World} {R : Ending → World → Prop} (h : YieldAt Fence.wide m P l args W R) : YieldAt Fence.wide m' P l args W R := by
  obtain ⟨fn, tmps, assign, body, hy, hR⟩ := h
  exact ⟨fn, tmps, assign, body, hy, round_any hR⟩
/-- how a round may end -/
def endS {α : Type} (gd : Obj → Bool) (B : Nat) (I Ix : List α → World → Prop) (xs : List α) (W : World) (e : Exit) (W2 : World) : Prop :=
  (e = .normal ∧ KeepsG gd W W2 ∧ I xs W2) ∨ (e = .ret ∧ KeepsF gd B W W2 ∧ Ix xs W2)
theorem range_st {α : Type} {n : Nat} {P : Program} {g : Operand} {ps : Array Tmp} {assign body : Code} {Q : Exit → Act → World → Prop} {a : Act} {w : World} (gd : Obj → Bool) (hgd : ∀ o, lpy o = true → gd o = true)
    (h1 : 1 ≤ n) {gf : Nat} {lb : Array Value} (hg : a.eval g = .func (.func gf) #[] lb) (eg : ∀ args w, (callFunc gf args).run P w = .ok (.enter gf args) w)
    {encs : α → Array Value} {X : List α} (hseq : GivesS gd P gf lb encs X w) (hps : ∀ x, (encs x).size = ps.size)
    (I Ix : List α → World → Prop) (hI : OwnL w.heap.size I) (hIx : OwnL w.heap.size Ix) (h0 : I [] w) (a1 : α → Act)
    (hassign : ∀ (l : Nat) (x : α) (W : World) (K : Act → World → Prop), K (a1 x) W → assign.wpIn (Fence.wide.inRound l) (n - 1 - 1) P (Exit.then K (fun _ _ _ => False)) { tmps := (ps.zip (encs x)).foldl (fun t (p, v) => t.setIfInBounds p v) a.tmps, defers := [] } W)
    (hbody : ∀ (l : Nat) (pre : List α) (x : α) (W : World), I pre W → pre ++ [x] <+: X → body.wpIn (Fence.wide.inRound l) (n - 1 - 1) P (fun e _ W2 => endS gd w.heap.size I Ix (pre ++ [x]) W e W2) (a1 x) W)
    (hdone : ∀ (D : Nat) (W : World), w.heap.size ≤ D → I X W → W.heap[D]? = some (.deferred (some [])) → Q .normal { a with defers := { target := .collected D, args := #[] } :: a.defers } W)
    (hstop : ∀ (D : Nat) (pre : List α) (W : World), w.heap.size ≤ D → pre <+: X → Ix pre W → W.heap[D]? = some (.deferred (some [])) → Code.ret.wpIn Fence.wide n P Q { a with defers := { target := .collected D, args := #[] } :: a.defers } W) :
    (Code.rangeFunc g ps assign body).wpIn Fence.wide n P Q a w := by
  refine wpIn_rangeFunc fun fn hfn => ?_
  rw [show Fence.wide.round = none from rfl]
  obtain ⟨r0, hr0⟩ : ∃ r0 : LoopState → Option Code → Loop, r0 = fun st pe => { state := st, pending := pe, fn, tmps := a.tmps, params := ps, assign, body, defers := w.heap.size } := ⟨_, rfl⟩
  obtain ⟨L, hL⟩ : ∃ L, L = w.heap.size + 1 := ⟨_, rfl⟩
  obtain ⟨V, hV⟩ : ∃ V, V = (w.alloc (.deferred (some []))).alloc (.loop (r0 .ready none)) := ⟨_, rfl⟩
  have vs : V.heap.size = L + 1 := by rw [hV, hL]; simp
  have vb : Below w.heap.size w V := by rw [hV]; exact ((Below.refl _ _).alloc (Nat.le_refl _) _).alloc (by simp) _
  have vL : V.heap[L]? = some (.loop (r0 .ready none)) := by
    have := World.alloc_heap_new (w.alloc (.deferred (some []))) (.loop (r0 .ready none))
    rw [World.size_alloc] at this
    rw [hV, hL]
    exact this
  have vD : V.heap[w.heap.size]? = some (.deferred (some [])) := by
    rw [hV]
    exact (Below.heap_alloc _ _ _ (by simp)).trans (World.alloc_heap_new w _)
  have vI : I [] V := by rw [hV]; exact hI.alloc _ (hI.alloc _ h0)
  refine ⟨L, [{ target := .collected w.heap.size, args := #[] }], V, { target := .fn (.func gf) lb, args := #[.func (.yield L) #[] #[]] }, V, gf, #[.func (.yield L) #[] #[]] ++ lb, V, ?_, ?_, ?_, ?_, fun _ => h1, ?_⟩
  · rw [hV, hr0, hL]
    exact run_enterLoop_outer _ _ _ _ _
  · simp only [resolve, hg]
    simp [go_sem]
  · intro f2 hf2
    trivial
  · simp [invoke, go_sem, eg]
  · have turn : ∀ {A B : World} {row : Option Nat} {k : Nat} {o : Obj}, k < V.heap.size → A.heap[k]? = some o → A.grownBy B row → (∀ r, row = some r → V.heap.size ≤ r ∧ ∃ o : Obj, A.heap[r]? = some o ∧ lpy o = true) → B.heap[k]? = some o := fun {A B row k o} hk hA hAB hr =>
      (hAB.block k (Array.getElem?_eq_some_iff.1 hA).1 (fun e => by have := (hr k e.symm).1; omega)).trans hA
    refine (callsIn_wide.2 (hseq L (fun pre W => I pre W ∧ W.heap[L]? = some (.loop (r0 .ready none)) ∧ W.heap[w.heap.size]? = some (.deferred (some []))) (fun pre W => Ix pre W ∧ W.heap[L]? = some (.loop (r0 .done (some .ret))) ∧ W.heap[w.heap.size]? = some (.deferred (some []))) V vb ?_ ?_ ?_ ⟨vI, vL, vD⟩)).mono ?_
    · intro xs A B row hA hAB hr
      exact ⟨hI xs A B row hA.1 hAB (fun r e => by obtain ⟨h1, h2⟩ := hr r e; exact ⟨by omega, h2⟩), turn (by omega) hA.2.1 hAB hr, turn (by omega) hA.2.2 hAB hr⟩
    · intro xs A B row hA hAB hr
      exact ⟨hIx xs A B row hA.1 hAB (fun r e => by obtain ⟨h1, h2⟩ := hr r e; exact ⟨by omega, h2⟩), turn (by omega) hA.2.1 hAB hr, turn (by omega) hA.2.2 hAB hr⟩
    · rintro pre x W ⟨wi, wl, wd⟩ hpx
      have hy := run_yield (P := P) (args := encs x) wl (by rw [hr0]; exact hps x)
      rw [hr0] at hy
      refine ⟨fn, _, assign, body, hy, round_any (m := n - 1 - 1) (roundIn_of_wpIn hfn (hassign L x W _ ?_))⟩
      have busy := run_beginRound (P := P) wl (by rw [hr0])
      refine ⟨_, busy, ?_⟩
      have hlt := (Array.getElem?_eq_some_iff.1 wl).1
      obtain ⟨r1, hr1⟩ : ∃ r1 : Loop, r1 = { r0 .ready none with state := .busy } := ⟨_, rfl⟩
      rw [← hr1]
      have bl : (W.putObj L (.loop r1)).heap[L]? = some (.loop r1) := World.putObj_heap_same hlt
      have bd : (W.putObj L (.loop r1)).heap[w.heap.size]? = some (.deferred (some [])) := (World.putObj_heap_other (by omega)).trans wd
      have oth : ∀ {X2 X3 : World} {o o3 : Obj}, X3 = X2.putObj L o3 → KeepsG gd (W.putObj L (.loop r1)) X2 → ∀ k o, k ≠ L → W.heap[k]? = some o → gd o = true → X3.heap[k]? = some o := fun {X2 X3 o o3} e3 xk k o2 hk ho hg2 => by
        rw [e3]
        exact (World.putObj_heap_other (by omega)).trans (xk.same k o2 ((World.putObj_heap_other (by omega)).trans ho) hg2)
      refine wpIn_mono (hbody L pre x _ (hI.putObj _ wi (by omega) wl rfl) hpx) ?_
      rintro e a3 X2 (⟨rfl, xk, xi⟩ | ⟨rfl, xk, xi⟩)
      · have xl := xk.same _ _ bl (hgd _ rfl)
        have xd := xk.same _ _ bd (hgd _ rfl)
        have fin := run_endRound (P := P) none xl
        have er : ({ r1 with state := (if (none : Option Code).isNone = true then LoopState.ready else LoopState.done), pending := none } : Loop) = r0 .ready none := by rw [hr1, hr0]; rfl
        rw [er] at fin
        refine ⟨_, _, fin, .inl ⟨rfl, ⟨hI.putObj _ xi (by omega) xl rfl, World.putObj_heap_same (Array.getElem?_eq_some_iff.1 xl).1, (World.putObj_heap_other (by omega)).trans xd⟩, ?_⟩⟩
        refine ⟨by have := xk.size; simp at this ⊢; omega, fun k o ho hg2 => ?_⟩
        by_cases ek : k = L
        · subst ek
          rw [wl] at ho
          injection ho with ho
          subst ho
          exact World.putObj_heap_same (Array.getElem?_eq_some_iff.1 xl).1
        · exact oth (o := o) rfl xk k o ek ho hg2
      · have xl := xk.same _ _ (by omega) bl (hgd _ rfl)
        have xd := xk.same _ _ (Nat.le_refl _) bd (hgd _ rfl)
        have fin := run_endRound (P := P) (some .ret) xl
        have er : ({ r1 with state := (if (some Code.ret : Option Code).isNone = true then LoopState.ready else LoopState.done), pending := some Code.ret } : Loop) = r0 .done (some .ret) := by rw [hr1, hr0]; rfl
        rw [er] at fin
        refine ⟨_, _, fin, .inr ⟨rfl, ⟨hIx.putObj _ xi (by omega) xl rfl, World.putObj_heap_same (Array.getElem?_eq_some_iff.1 xl).1, (World.putObj_heap_other (by omega)).trans xd⟩, ?_⟩⟩
        refine ⟨by have := xk.size; simp at this ⊢; omega, fun k o hB ho hg2 => ?_⟩
        exact (World.putObj_heap_other (by omega)).trans (xk.same k o (by omega) ((World.putObj_heap_other (by omega)).trans ho) hg2)
    · rintro e X2 ⟨⟨v, rfl⟩, ⟨xi, xl, xd⟩ | ⟨pre, hp, xi, xl, xd⟩⟩
      · have fin := run_endLoop (P := P) xl (by rw [hr0]; simp)
        have ep : (r0 .ready none).pending = none := by rw [hr0]
        rw [ep] at fin
        exact ⟨none, _, fin, hdone w.heap.size _ (Nat.le_refl _) (hI.putObj _ xi (by omega) xl rfl) ((World.putObj_heap_other (by omega)).trans xd)⟩
      · have fin := run_endLoop (P := P) xl (by rw [hr0]; simp)
        have ep : (r0 .done (some Code.ret)).pending = some .ret := by rw [hr0]
        rw [ep] at fin
        exact ⟨some .ret, _, fin, hstop w.heap.size pre _ (Nat.le_refl _) hp (hIx.putObj _ xi (by omega) xl rfl) ((World.putObj_heap_other (by omega)).trans xd)⟩
def mkD (D : Nat) : Deferred := { target := .collected D, args := #[] }
theorem leaves_all {F : Fence} {n : Nat} {P : Program} {fn : Func} {tmps : Array Value} {R : Ending → World → Prop} {v : Value} {B : Nat} {I : Unit → World → Prop} (hres : ∀ W, I () W → (results fn tmps).run P W = .ok v W) (hI : OwnL B I) (hR : ∀ W, I () W → R (.returned v) W) : ∀ (ds : List Nat) (W : World), I () W → ds.Nodup → (∀ D ∈ ds, B ≤ D ∧ W.heap[D]? = some (.deferred (some []))) → LeavesInM F n P fn tmps R (ds.map mkD) .returning W
  | [], W, hi, _, _ => ⟨v, hres W hi, hR W hi⟩
  | D :: ds, W, hi, hn, hd => by
    rw [List.nodup_cons] at hn
    have hD := hd D (List.mem_cons_self ..)
    refine ⟨by simp, .inl ⟨D, W.putObj D (.deferred none), rfl, run_takeDeferred hD.2, leaves_all hres hI hR ds _ (hI.putObj _ hi hD.1 hD.2 rfl) hn.2 (fun D' h => ?_)⟩⟩
    have h' := hd D' (List.mem_cons_of_mem _ h)
    exact ⟨h'.1, (World.putObj_heap_other (fun e => hn.1 (by first | (rw [← e]; exact h) | (rw [e]; exact h)))).trans h'.2⟩
end Go.Proofs.YtdeibifjiefapaaGreatDoor
/- chart: the tree in memory; place (37), slices.Backward (47) and its iterator (69). -/
namespace Go.Proofs.YtdeibifjiefapaaGreatDoor
open Go Go.Shelf Go.ChangeShapes Go.WideShapes Go.ChangeAt Go.RowKit Go.Maps
set_option linter.unusedVariables false
attribute [local go_sem] Oper.semAt_some
/-- where the nodes and their rows lie -/
structure Gh where
  nd : Nm → Nat
  kb : Nm → Option Nat
  kc : Nm → Nat
  ex : Nm → List Value
def ksl (g : Gh) (L : List Ac) (x : Nm) : Value := .slice ((g.kb x).map fun q => ⟨q, 0, none⟩) (kids L x).length (g.kc x)
def top0 : Ac := ⟨[], 0, 0, false⟩
def cellsA (a : Ac) (s : Value) : Array Value := #[.string (txN a.nm), .int .i64 a.ty, .int .i64 a.dy, .bool a.cl, s]
/-- the top, or an account's name -/
def isN (L : List Ac) (x : Nm) : Prop := x = [] ∨ ∃ a ∈ L, a.nm = x
def rowA (g : Gh) (L : List Ac) (x : Nm) : Array Value := ((kids L x).map (fun y => ptr (g.nd y)) ++ g.ex x).toArray
/-- the chart at the block d, its own blocks within S -/
structure ChAt (W : World) (d : Nat) (S : Nat → Prop) (L : List Ac) (g : Gh) : Prop where
  top : g.nd [] = d
  tn : W.heap[d]? = some (.cells (cellsA top0 (ksl g L [])) 70)
  node : ∀ a ∈ L, W.heap[g.nd a.nm]? = some (.cells (cellsA a (ksl g L a.nm)) 68)
  row : ∀ x, isN L x → (kids L x = [] ∧ g.kb x = none ∧ g.kc x = 0) ∨ ∃ q, g.kb x = some q ∧ W.heap[q]? = some (.cells (rowA g L x) 98) ∧ (kids L x).length + (g.ex x).length = g.kc x ∧ kids L x ≠ [] ∧ g.kc x ≤ maxLen
  sd : S d
  sn : ∀ a ∈ L, S (g.nd a.nm)
  sq : ∀ x q, isN L x → g.kb x = some q → S q
theorem ChAt.keep {W W' : World} {d : Nat} {S : Nat → Prop} {L : List Ac} {g : Gh} (h : ChAt W d S L g) (hk : ∀ k, S k → W'.heap[k]? = W.heap[k]?) : ChAt W' d S L g :=
  ⟨h.top, (hk d h.sd).trans h.tn, fun a ha => (hk _ (h.sn a ha)).trans (h.node a ha), fun x hx => by
    rcases h.row x hx with h1 | ⟨q, h1, h2, h3⟩
    · exact .inl h1
    · exact .inr ⟨q, h1, (hk q (h.sq x q hx h1)).trans h2, h3⟩, h.sd, h.sn, h.sq⟩
theorem cell_of {W : World} {b : Nat} {c : Array Value} {t : TypeId} (h : W.heap[b]? = some (.cells c t)) {k : Nat} {v : Value} (hk : c[k]? = some v) : W.cell? ⟨b, k, none⟩ = some v := by
  unfold World.cell?
  simp only [h]
  simpa using hk
theorem froz_of {W : World} {b : Nat} {c : Array Value} {t : TypeId} (h : W.heap[b]? = some (.cells c t)) (k : Nat) : W.frozen? ⟨b, k, none⟩ = false := by
  unfold World.frozen?
  simp [h]
theorem ChAt.name {W : World} {d : Nat} {S : Nat → Prop} {L : List Ac} {g : Gh} (h : ChAt W d S L g) {a : Ac} (ha : a ∈ L) : W.cell? ⟨g.nd a.nm, 0, none⟩ = some (.string (txN a.nm)) := cell_of (h.node a ha) rfl
theorem ChAt.kids4 {W : World} {d : Nat} {S : Nat → Prop} {L : List Ac} {g : Gh} (h : ChAt W d S L g) {x : Nm} (hx : isN L x) : W.cell? ⟨g.nd x, 4, none⟩ = some (ksl g L x) := by
  rcases hx with rfl | ⟨a, ha, rfl⟩
  · rw [h.top]; exact cell_of h.tn rfl
  · exact cell_of (h.node a ha) rfl
theorem ChAt.rowK {W : World} {d : Nat} {S : Nat → Prop} {L : List Ac} {g : Gh} (h : ChAt W d S L g) {x : Nm} (hx : isN L x) : kids L x = [] ∨ ∃ q, ksl g L x = .slice (some ⟨q, 0, none⟩) (kids L x).length (g.kc x) ∧ RowK W q g.nd (kids L x) := by
  rcases h.row x hx with ⟨h1, h2⟩ | ⟨q, h1, h2, h3, h4⟩
  · exact .inl h1
  · refine .inr ⟨q, by rw [ksl, h1]; rfl, fun j hj => cell_of h2 ?_, fun y hy => ?_⟩
    · rw [rowA, List.getElem?_toArray, List.getElem?_append_left (by simpa using hj), List.getElem?_map, List.getElem?_eq_getElem hj]
      rfl
    · obtain ⟨⟨a, ha, rfl⟩, _⟩ := mem_kids.1 hy
      exact h.name ha
theorem kids_len (L : List Ac) (x : Nm) : (kids L x).length ≤ L.length := by
  rw [kids, List.length_map]
  exact List.length_filter_le ..
set_option maxHeartbeats 2000000 in
theorem bsf_none (w : World) (p : Option Addr) (cap : Nat) (t : ByteArray) : Calls Tryz.prog 211 #[.slice p 0 cap, .string t, .func (.func 212) #[] #[]] w fun e w' => e = .returned (.tuple #[.int .i64 (0 : Nat), .bool false]) ∧ w' = w := by
  go_enter Tryz.func211, Tryz.ntmps211
  go_wp2
  refine wp_loop_rounds 1 ?_
  rw [rounds_succ]
  go_wp2
  go_ret2
  exact ⟨rfl, rfl⟩
set_option maxHeartbeats 1000000 in
theorem place_any {W : World} {d : Nat} {S : Nat → Prop} {L : List Ac} {g : Gh} (h : ChAt W d S L g) (hG : Good L) {x : Nm} (hx : isN L x) (t : ByteArray) :
    Calls Tryz.prog 157 #[ptr (g.nd x), .string t] W fun e w' => e = .returned (.tuple #[.int .i64 (posK (kids L x) t.data.toList : Nat), .bool (decide (t.data.toList ∈ kids L x))]) ∧ w' = W := by
  have h4 := h.kids4 hx
  have D : Hid (Calls Tryz.prog 211 #[ksl g L x, .string t, .func (.func 212) #[] #[]] W fun e w' => e = .returned (.tuple #[.int .i64 (posK (kids L x) t.data.toList : Nat), .bool (decide (t.data.toList ∈ kids L x))]) ∧ w' = W) := by
    rcases h.rowK hx with h1 | ⟨q, h1, h2⟩
    · have e1 : ksl g L x = .slice ((g.kb x).map fun q => ⟨q, 0, none⟩) 0 (g.kc x) := by rw [ksl, h1]; rfl
      rw [e1, h1]
      exact bsf_none W _ _ t
    · rw [h1]
      exact bsf_any W q _ _ g.nd _ rfl (Nat.le_trans (kids_len L x) hG.len) t h2 (hG.kids_rise x)
  obtain ⟨b, hb⟩ : ∃ b, b = g.nd x := ⟨_, rfl⟩
  rw [← hb] at h4 ⊢
  obtain ⟨v, hv⟩ : ∃ v, v = ksl g L x := ⟨_, rfl⟩
  rw [← hv] at h4 D
  clear hb hv h hG hx
  go_enter Tryz.func157, Tryz.ntmps157
  go_wp2_with fail
  refine (unhide D).mono ?_
  rintro e w' ⟨rfl, rfl⟩
  go_wp2_with fail
  go_ret2
  exact ⟨rfl, rfl⟩
/-- the blocks that slices.Backward's iterator reads -/
def gdB : Obj → Bool
  | .loop _ => true
  | .deferred _ => true
  | .cells _ t _ => t == 85 || t == 9
  | _ => false
theorem gdB_lpy (o : Obj) (h : lpy o = true) : gdB o = true := by
  cases o <;> simp_all [lpy, gdB]
theorem back_any (p : Option Addr) (n c : Nat) (w : World) : Calls Tryz.prog 160 #[.slice p n c] w fun e w' => e = .returned (.func (.func 218) #[] #[ptr w.heap.size]) ∧ w' = w.alloc (.cells #[.slice p n c] 85) := by
  go_enter Tryz.func160, Tryz.ntmps160
  go_wp2_with fail
  go_ret
  exact ⟨rfl, rfl⟩
theorem enters69 : ∀ args w, (callFunc 218 args).run Tryz.prog w = .ok (.enter 218 args) w := by
  exact enters_of Tryz.func218 (by kernel_rfl) rfl
/-- a list's places and elements, the last first -/
def backL (l : List Nm) : List (Nat × Nm) := ((List.range l.length).map fun j => (j, l.getD j [])).reverse
theorem backL_len (l : List Nm) : (backL l).length = l.length := by simp [backL]
theorem backL_get (l : List Nm) (k : Nat) (hk : k < l.length) : (backL l)[k]'(by rw [backL_len]; exact hk) = (l.length - 1 - k, l.getD (l.length - 1 - k) []) := by
  simp [backL]
def encB (p : Nat × Nm) : Array Value := #[.int .i64 p.1, .string (txN p.2)]
def intOf' : Value → Int
  | .int _ z => z
  | _ => 0
set_option maxRecDepth 100000 in
set_option maxHeartbeats 4000000 in
theorem back_gives (l : List Nm) (hl : l.length ≤ 100) (B q cap : Nat) (f : Array Value) (w : World) (hB : w.heap[B]? = some (.cells #[.slice (some ⟨q, 0, none⟩) l.length cap] 85)) (hq : w.heap[q]? = some (.cells f 9)) (hf : ∀ j (h : j < l.length), f[j]? = some (.string (txN l[j]))) :
    GivesS gdB Tryz.prog 218 #[ptr B] encB (backL l) w := by
  intro L J Jx W hW hJ hJx hY h0
  obtain ⟨n, hn⟩ : ∃ n, n = l.length := ⟨_, rfl⟩
  rw [← hn] at hB hl
  have wB : W.heap[B]? = some (.cells #[.slice (some ⟨q, 0, none⟩) n cap] 85) := (hW.block B (Array.getElem?_eq_some_iff.1 hB).1).trans hB
  have wq : W.heap[q]? = some (.cells f 9) := (hW.block q (Array.getElem?_eq_some_iff.1 hq).1).trans hq
  have hcB := cell_of wB (k := 0) rfl
  have HY := hide hY; have HJ := hide hJ; have HX := hide hJx; have H0 := hide h0; have WB := hide wB; have WQ := hide wq; have HF := hide hf; have HN := hide hn
  clear hY hJ hJx h0 hB hW wB wq hq hf hn
  refine (callsIn_wide (n := 4)).1 ?_
  refine callsIn_of_wp Tryz.func218 rfl trivial ?_ rfl
  simp only [Tryz.ntmps218, List.size_toArray, List.length_cons, List.length_nil, Nat.reduceAdd, Nat.reduceSub, Array.replicate_succ, Array.replicate_zero, List.push_toArray, List.append_toArray, List.nil_append, List.cons_append]
  have hw1 : IntKind.i64.wrap ((n : Int) - 1) = (n : Int) - 1 := by rw [IntKind.wrap_i64]; omega
  gi_wp2_with fail
  gi_loopw [3] (fun v3 wr => ∃ k : Nat, k ≤ n ∧ v3 = .int .i64 ((n : Int) - 1 - k) ∧ Hid (J ((backL l).take k) wr) ∧ Hid (KeepsG gdB W wr)) (fun v3 _ => (intOf' v3 + 1).toNat)
  case atStart => exact ⟨0, Nat.zero_le _, by simp, unhide H0, KeepsG.refl _ _⟩
  case round =>
    obtain ⟨k, hk, rfl, hj, hkp⟩ := hrel
    have r1 := (unhide hkp).same _ _ (unhide WB) rfl
    have c1 := cell_of r1 (k := 0) rfl
    by_cases hlt : k < n
    · obtain ⟨i, hi⟩ : ∃ i : Nat, i = n - 1 - k := ⟨_, rfl⟩
      have e1 : (n : Int) - 1 - k = (i : Int) := by omega
      have hil : i < l.length := by rw [← unhide HN]; omega
      have c2 : wr.cell? ⟨q, i, none⟩ = some (.string (txN l[i])) := cell_of ((unhide hkp).same _ _ (unhide WQ) rfl) (unhide HF i hil)
      have hge : (0 : Int) ≤ (i : Int) := by omega
      obtain ⟨s, hs⟩ : ∃ s, s = l[i] := ⟨_, rfl⟩
      rw [← hs] at c2
      have ex : (backL l)[k]'(by rw [backL_len, ← unhide HN]; exact hlt) = (i, s) := by
        have hL2 := unhide HN
        rw [backL_get l k (by omega), hs, ← hL2, ← hi, List.getD_eq_getElem?_getD, List.getElem?_eq_getElem hil]
        rfl
      have hpre : (backL l).take k ++ [(i, s)] = (backL l).take (k + 1) := by rw [← ex, List.take_append_getElem]
      obtain ⟨fn, tmps, assign, body, hy, hR⟩ := unhide HY ((backL l).take k) (i, s) wr (unhide hj) (by rw [hpre]; exact List.take_prefix ..)
      rw [hpre] at hR
      have HR := hide (round_any (m' := 4 - 1) hR)
      have hw2 : IntKind.i64.wrap ((i : Int) - 1) = (i : Int) - 1 := by rw [IntKind.wrap_i64]; omega
      have hi1 : i < n := by omega
      have HI := hide hi
      rw [e1]
      clear hR hpre ex hs hi hj e1
      unfold encB at hy
      gi_wp2_with fail
      refine (unhide HR).mono ?_
      rintro e W3 (⟨rfl, hJ3, hk3⟩ | ⟨rfl, hx3, _⟩)
      · have J3 := hide hJ3; have K3 := hide hk3
        clear hJ3 hk3
        gi_wp2
        refine ⟨⟨k + 1, by omega, ?_, unhide J3, (unhide hkp).trans (unhide K3)⟩, ?_⟩
        · congr 1
          have := unhide HI
          omega
        · show ((i : Int) - 1 + 1).toNat < ((i : Int) + 1).toNat
          omega
      · have X3 := hide hx3
        clear hx3
        gi_wp2_with fail
        refine bodyPost_ret (results_none rfl _ _ _) rfl ?_
        exact ⟨⟨_, rfl⟩, .inr ⟨_, List.take_prefix .., unhide X3⟩⟩
    · have e1 : (n : Int) - 1 - k = -1 := by omega
      have HX2 : Hid (J (backL l) wr) := by
        have := unhide hj
        rw [List.take_of_length_le (by rw [backL_len, ← unhide HN]; omega)] at this
        exact this
      rw [e1]
      clear hj e1
      gi_wp2
      go_end0
      exact ⟨⟨_, rfl⟩, .inl (unhide HX2)⟩
end Go.Proofs.YtdeibifjiefapaaGreatDoor
