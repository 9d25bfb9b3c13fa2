/- AgedTwins (4): the views side by side. -/
import Derived.Test.YtildpgfhahmgmaaDoorFmA
import Derived.Test.YtildpgfhahmgmaaDoorAcA
namespace Go.Proofs.YtildpgfhahmgmaaDoor
open Go Go.Shelf Go.ChangeShapes Go.WideShapes Go.ChangeAt Go.RowKit Go.Maps
set_option linter.unusedVariables false
def ld53 (x : Value) : Sem Value := Instr.loadAt 53 x
theorem ld53_is (x : Value) : Instr.loadAt 53 x = ld53 x := rfl
theorem size53 : (Tryd.prog.info? 53).map (·.size) = some 15 := by kernel_rfl
theorem run_ld53 {w : World} {b o : Nat} {x : OpV} (h : w.rangeAt b o x.arr.toList) : (ld53 (.pointer (some ⟨b, o, none⟩))).run Tryd.prog w = .ok (.agg x.arr) w :=
  run_loadAt_mid (P := Tryd.prog) w b o 53 x.arr.toList _ h Tryd.underlying53 rfl size53
def OpSl (o : OpV) : Prop := ∃ q1 l1 e1 q2 l2 e2, o.vcs = .slice q1 l1 e1 ∧ o.vas = .slice q2 l2 e2
/-- acts that lie one behind the other -/
def OpsIn (W : World) (p : Option Addr) (L : List OpV) : Prop := ∀ k (hk : k < L.length), ∃ b off, p = some ⟨b, off, none⟩ ∧ b < W.heap.size ∧ W.rangeAt b (off + k * 15) L[k].arr.toList
/-- a view made since W -/
structure Va (W w : World) (d : Nat) (S : Nat → Prop) (C : List Cl) (A : List Al) (g : Int) : Prop where
  bel : Below W.heap.size W w
  vw : Vw w d S C A g
  ge : ∀ b, S b → W.heap.size ≤ b
structure Szs (C : List Cl) (A : List Al) : Prop where
  ck : ∀ c ∈ C, c.key.size ≤ maxLen ∧ c.acc.size ≤ maxLen
  ai : ∀ a ∈ A, a.inv.size ≤ maxLen
theorem Szs.nil : Szs [] [] := ⟨fun c h => (by cases h), fun a h => (by cases h)⟩
theorem Szs.act {C : List Cl} {A : List Al} {o : OpV} (h : Szs C A) (ho : OpOk o) : Szs (actC C o) (actA C A o) := by
  refine ⟨fun c hc => ?_, fun a ha => ?_⟩
  · unfold actC at hc
    split at hc
    · rcases List.mem_append.1 hc with hc | hc
      · exact h.ck c hc
      · rw [List.mem_singleton.1 hc]; exact ⟨ho.k, ho.a⟩
    · exact h.ck c hc
  · unfold actA at ha
    split at ha
    · rcases List.mem_append.1 ha with ha | ha
      · exact h.ai a ha
      · rw [List.mem_singleton.1 ha]; exact ho.i
    · exact h.ai a ha
theorem Va.below {W w w' : World} {d : Nat} {S : Nat → Prop} {C : List Cl} {A : List Al} {g : Int} (h : Va W w d S C A g) (hb : Below w.heap.size w w') : Va W w' d S C A g :=
  ⟨h.bel.trans (hb.mono h.bel.size), h.vw.below hb, h.ge⟩
theorem Va.next {W w w' : World} {d : Nat} {S : Nat → Prop} {C C' : List Cl} {A A' : List Al} {g g' : Int} (h : Va W w d S C A g) (hn : VwNext w w' d S C' A' g') : ∃ S', Va W w' d S' C' A' g' ∧ Fr w w' S ∧ ∀ b, S' b → S b ∨ w.heap.size ≤ b := by
  obtain ⟨S', h1, h2, h3⟩ := hn
  refine ⟨S', ⟨h.bel.trans (h2.below h.bel.size (fun k hk hs => by have := h.ge k hs; omega)), h1, fun b hs => ?_⟩, h2, h3⟩
  rcases h3 b hs with hb | hb
  · exact h.ge b hb
  · exact Nat.le_trans h.bel.size hb
theorem Va.beside {W w w' : World} {d : Nat} {S X : Nat → Prop} {C : List Cl} {A : List Al} {g : Int} (h : Va W w d S C A g) (hf : Fr w w' X) (hx : ∀ b, S b → ¬ X b) (hb : Below W.heap.size W w') : Va W w' d S C A g := ⟨hb, h.vw.fr hf hx, h.ge⟩
theorem Va.made {W w w' : World} {C : List Cl} {A : List Al} {g : Int} (hb : Below W.heap.size W w) (h : Made w w' C A g) : ∃ S, Va W w' w.heap.size S C A g ∧ ∀ b, S b → w.heap.size ≤ b := by
  obtain ⟨S, h1, h2⟩ := h.vw
  exact ⟨S, ⟨hb.trans (h.bel.mono hb.size), h1, fun b hs => Nat.le_trans hb.size (h2 b hs)⟩, h2⟩
/-- the view, and its twin if there is one -/
def Tw (W w : World) (dv : Nat) (v6 : Value) (C : List Cl) (A : List Al) (g : Int) : Prop :=
  ∃ Sv, Va W w dv Sv C A g ∧ Szs C A ∧ ∀ dw, v6 = .pointer (some ⟨dw, 0, none⟩) → ∃ Sw, Va W w dw Sw C A g ∧ ∀ b, Sv b → ¬ Sw b
theorem Tw.below {W w w' : World} {dv : Nat} {v6 : Value} {C : List Cl} {A : List Al} {g : Int} (h : Tw W w dv v6 C A g) (hb : Below w.heap.size w w') : Tw W w' dv v6 C A g := by
  obtain ⟨Sv, h1, h2, h3⟩ := h
  exact ⟨Sv, h1.below hb, h2, fun dw e => (h3 dw e).imp fun Sw hh => ⟨hh.1.below hb, hh.2⟩⟩
/-- the twin is made anew -/
theorem Tw.made {W w w2 w' : World} {dv : Nat} {v6 : Value} {C : List Cl} {A : List Al} {g : Int} (h : Tw W w dv v6 C A g) (hb : Below w.heap.size w w2) (hm : Made w2 w' C A g) : Tw W w' dv (.pointer (some ⟨w2.heap.size, 0, none⟩)) C A g := by
  obtain ⟨Sv, h1, h2, h3⟩ := h
  have h4 := h1.below hb
  obtain ⟨S, h5, h6⟩ := Va.made h4.bel hm
  refine ⟨Sv, h4.below hm.bel, h2, fun dw e => ?_⟩
  have e2 : dw = w2.heap.size := by
    have e3 := Value.pointer.inj e
    have e4 := Option.some.inj e3
    exact (congrArg Addr.block e4).symm
  subst e2
  refine ⟨S, h5, fun b hv hs => ?_⟩
  have := h6 b hs
  have := h4.vw.lt b hv
  omega
/-- behind the act at the first, no twin -/
theorem Tw.act0 {W w w' : World} {dv : Nat} {Sv : Nat → Prop} {C : List Cl} {A : List Al} {g : Int} {o : OpV} (h1 : Va W w dv Sv C A g) (h2 : Szs C A) (ho : OpOk o) (hn : VwNext w w' dv Sv (actC C o) (actA C A o) (actG g o)) : Tw W w' dv (.pointer none) (actC C o) (actA C A o) (actG g o) := by
  obtain ⟨S', h4, _, _⟩ := h1.next hn
  exact ⟨S', h4, h2.act ho, fun dw e => by cases e⟩
theorem VwNext.blk {w w' : World} {d b : Nat} {S : Nat → Prop} {C : List Cl} {A : List Al} {g : Int} {x : Obj} (h : VwNext w w' d S C A g) (hs : ¬ S b) (hb : w.heap[b]? = some x) : w'.heap[b]? = some x := by
  obtain ⟨S', _, h2, _⟩ := h
  rw [h2.block b (heap_lt hb) hs]
  exact hb
theorem blk_below {w w' : World} {b : Nat} {x : Obj} (h : Below w.heap.size w w') (hb : w.heap[b]? = some x) : w'.heap[b]? = some x := (h.block b (heap_lt hb)).trans hb
/-- the first has acted, the twin not yet; a third one may stand beside -/
structure Hlf (W w : World) (dv dw : Nat) (Sv Sw : Nat → Prop) (C C' : List Cl) (A A' : List Al) (g g' : Int) : Prop where
  v : Va W w dv Sv C' A' g'
  u : Va W w dw Sw C A g
  s : Szs C' A'
  ap : ∀ b, Sv b → ¬ Sw b
theorem Hlf.of {W w w' : World} {dv dw : Nat} {Sv Sw : Nat → Prop} {C : List Cl} {A : List Al} {g : Int} {o : OpV} (h1 : Va W w dv Sv C A g) (h2 : Szs C A) (h4 : Va W w dw Sw C A g) (h5 : ∀ b, Sv b → ¬ Sw b) (ho : OpOk o) (hn : VwNext w w' dv Sv (actC C o) (actA C A o) (actG g o)) : ∃ Sv', Hlf W w' dv dw Sv' Sw C (actC C o) A (actA C A o) g (actG g o) := by
  obtain ⟨S', h6, h7, h8⟩ := h1.next hn
  refine ⟨S', h6, h4.beside h7 (fun b hw hv => h5 b hv hw) h6.bel, h2.act ho, fun b hv hw => ?_⟩
  rcases h8 b hv with h | h
  · exact h5 b h hw
  · have := h4.vw.lt b hw
    omega
theorem Hlf.below {W w w' : World} {dv dw : Nat} {Sv Sw : Nat → Prop} {C C' : List Cl} {A A' : List Al} {g g' : Int} (h : Hlf W w dv dw Sv Sw C C' A A' g g') (hb : Below w.heap.size w w') : Hlf W w' dv dw Sv Sw C C' A A' g g' := ⟨h.v.below hb, h.u.below hb, h.s, h.ap⟩
/-- all three tell the same -/
structure Thr (W w : World) (dv dw dx : Nat) (Sv Sw Sx : Nat → Prop) (C : List Cl) (A : List Al) (g : Int) : Prop where
  v : Va W w dv Sv C A g
  u : Va W w dw Sw C A g
  x : Va W w dx Sx C A g
  s : Szs C A
  ap : ∀ b, Sv b → ¬ Sw b
theorem Thr.below {W w w' : World} {dv dw dx : Nat} {Sv Sw Sx : Nat → Prop} {C : List Cl} {A : List Al} {g : Int} (h : Thr W w dv dw dx Sv Sw Sx C A g) (hb : Below w.heap.size w w') : Thr W w' dv dw dx Sv Sw Sx C A g := ⟨h.v.below hb, h.u.below hb, h.x.below hb, h.s, h.ap⟩
theorem Thr.of {W w w2 w3 w' : World} {dv dw : Nat} {Sv Sw : Nat → Prop} {C : List Cl} {A : List Al} {g : Int} {o : OpV} (h : Hlf W w dv dw Sv Sw C (actC C o) A (actA C A o) g (actG g o)) (hb : Below w.heap.size w w2) (hm : Made w2 w3 (actC C o) (actA C A o) (actG g o)) (hn : VwNext w3 w' dw Sw (actC C o) (actA C A o) (actG g o)) : ∃ Sw' Sx, Thr W w' dv dw w2.heap.size Sv Sw' Sx (actC C o) (actA C A o) (actG g o) := by
  have h2 := h.below hb
  obtain ⟨Sx, h5, h6⟩ := Va.made h2.v.bel hm
  have h3 := h2.below hm.bel
  obtain ⟨S', h7, h8, h9⟩ := h3.u.next hn
  refine ⟨S', Sx, h3.v.beside h8 h.ap h7.bel, h7, h5.beside h8 (fun b hx hw => ?_) h7.bel, h.s, fun b hv hw => ?_⟩
  · have := h6 b hx
    have := h2.u.vw.lt b hw
    omega
  · rcases h9 b hw with hh | hh
    · exact h.ap b hv hh
    · have := h3.v.vw.lt b hv
      omega
theorem Thr.tw {W w : World} {dv dw dx : Nat} {Sv Sw Sx : Nat → Prop} {C : List Cl} {A : List Al} {g : Int} (h : Thr W w dv dw dx Sv Sw Sx C A g) : Tw W w dv (.pointer (some ⟨dw, 0, none⟩)) C A g :=
  ⟨Sv, h.v, h.s, fun d e => by
    have e4 := Option.some.inj (Value.pointer.inj e)
    have e5 : dw = d := congrArg Addr.block e4
    subst e5
    exact ⟨Sw, h.u, h.ap⟩⟩
end Go.Proofs.YtildpgfhahmgmaaDoor
