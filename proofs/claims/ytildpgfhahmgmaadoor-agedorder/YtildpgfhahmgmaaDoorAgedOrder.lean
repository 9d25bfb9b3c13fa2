import Derived.Test.YtildpgfhahmgmaaDoorFmA
import Derived.Test.YtildpgfhahmgmaaDoorAcA
import Derived.Deep.Slices
import Derived.SizedLaws
import Derived.Test.YtildpgfhahmgmaaDoorDlC
import Derived.Test.YtildpgfhahmgmaaDoorAkA
import Derived.Test.YtildpgfhahmgmaaDoorStE
import Derived.Test.YtildpgfhahmgmaaDoorDsA
import Derived.Test.YtildpgfhahmgmaaDoorTie
import Derived.Test.YtildpgfhahmgmaaDoorCards
import Derived.ShutString
import Derived.ChangeMaps5
import Derived.ChangeOld
import Derived.Handy
import Derived.Lay
import Derived.Lib.LaidTab
import Derived.Stop.LaidErr
import Derived.SevenTiedAt
import Derived.Deep.DeepHandedRow
import Derived.Deep.DeepWitnessRowRef
/- AgedTwins (4): the views side by side. -/
namespace Go.Proofs.YtildpgfhahmgmaaDoor
open Go Go.Shelf Go.ChangeShapes Go.WideShapes Go.ChangeAt Go.RowKit Go.Maps
set_option linter.unusedVariables false
def ld53 (x : Value) : Sem Value := Instr.loadAt 53 x
theorem ld53_is (x : Value) : Instr.loadAt 53 x = ld53 x := rfl
theorem size53 : (Tryd.prog.info? 53).map (·.size) = some 15 := by kernel_rfl
theorem run_ld53 {w : World} {b o : Nat} {x : OpV} (h : w.rangeAt b o x.arr.toList) : (ld53 (.pointer (some ⟨b, o, none⟩))).run Tryd.prog w = .ok (.agg x.arr) w :=
  run_loadAt_mid (P := Tryd.prog) w b o 53 x.arr.toList _ h Tryd.underlying53 rfl size53
def OpSl (o : OpV) : Prop := ∃ q1 l1 e1 q2 l2 e2, o.vcs = .slice q1 l1 e1 ∧ o.vas = .slice q2 l2 e2
/-- acts that lie one behind the other -/
def OpsIn (W : World) (p : Option Addr) (L : List OpV) : Prop := ∀ k (hk : k < L.length), ∃ b off, p = some ⟨b, off, none⟩ ∧ b < W.heap.size ∧ W.rangeAt b (off + k * 15) L[k].arr.toList
/-- a view made since W -/
structure Va (W w : World) (d : Nat) (S : Nat → Prop) (C : List Cl) (A : List Al) (g : Int) : Prop where
  bel : Below W.heap.size W w
  vw : Vw w d S C A g
  ge : ∀ b, S b → W.heap.size ≤ b
structure Szs (C : List Cl) (A : List Al) : Prop where
  ck : ∀ c ∈ C, c.key.size ≤ maxLen ∧ c.acc.size ≤ maxLen
  ai : ∀ a ∈ A, a.inv.size ≤ maxLen
theorem Szs.nil : Szs [] [] := ⟨fun c h => (by cases h), fun a h => (by cases h)⟩
theorem Szs.act {C : List Cl} {A : List Al} {o : OpV} (h : Szs C A) (ho : OpOk o) : Szs (actC C o) (actA C A o) := by
  refine ⟨fun c hc => ?_, fun a ha => ?_⟩
  · unfold actC at hc
    split at hc
    · rcases List.mem_append.1 hc with hc | hc
      · exact h.ck c hc
      · rw [List.mem_singleton.1 hc]; exact ⟨ho.k, ho.a⟩
    · exact h.ck c hc
  · unfold actA at ha
    split at ha
    · rcases List.mem_append.1 ha with ha | ha
      · exact h.ai a ha
      · rw [List.mem_singleton.1 ha]; exact ho.i
    · exact h.ai a ha
theorem Va.below {W w w' : World} {d : Nat} {S : Nat → Prop} {C : List Cl} {A : List Al} {g : Int} (h : Va W w d S C A g) (hb : Below w.heap.size w w') : Va W w' d S C A g :=
  ⟨h.bel.trans (hb.mono h.bel.size), h.vw.below hb, h.ge⟩
theorem Va.next {W w w' : World} {d : Nat} {S : Nat → Prop} {C C' : List Cl} {A A' : List Al} {g g' : Int} (h : Va W w d S C A g) (hn : VwNext w w' d S C' A' g') : ∃ S', Va W w' d S' C' A' g' ∧ Fr w w' S ∧ ∀ b, S' b → S b ∨ w.heap.size ≤ b := by
  obtain ⟨S', h1, h2, h3⟩ := hn
  refine ⟨S', ⟨h.bel.trans (h2.below h.bel.size (fun k hk hs => by have := h.ge k hs; omega)), h1, fun b hs => ?_⟩, h2, h3⟩
  rcases h3 b hs with hb | hb
  · exact h.ge b hb
  · exact Nat.le_trans h.bel.size hb
theorem Va.beside {W w w' : World} {d : Nat} {S X : Nat → Prop} {C : List Cl} {A : List Al} {g : Int} (h : Va W w d S C A g) (hf : Fr w w' X) (hx : ∀ b, S b → ¬ X b) (hb : Below W.heap.size W w') : Va W w' d S C A g := ⟨hb, h.vw.fr hf hx, h.ge⟩
theorem Va.made {W w w' : World} {C : List Cl} {A : List Al} {g : Int} (hb : Below W.heap.size W w) (h : Made w w' C A g) : ∃ S, Va W w' w.heap.size S C A g ∧ ∀ b, S b → w.heap.size ≤ b := by
  obtain ⟨S, h1, h2⟩ := h.vw
  exact ⟨S, ⟨hb.trans (h.bel.mono hb.size), h1, fun b hs => Nat.le_trans hb.size (h2 b hs)⟩, h2⟩
/-- the view, and its twin if there is one -/
def Tw (W w : World) (dv : Nat) (v6 : Value) (C : List Cl) (A : List Al) (g : Int) : Prop :=
  ∃ Sv, Va W w dv Sv C A g ∧ Szs C A ∧ ∀ dw, v6 = .pointer (some ⟨dw, 0, none⟩) → ∃ Sw, Va W w dw Sw C A g ∧ ∀ b, Sv b → ¬ Sw b
theorem Tw.below {W w w' : World} {dv : Nat} {v6 : Value} {C : List Cl} {A : List Al} {g : Int} (h : Tw W w dv v6 C A g) (hb : Below w.heap.size w w') : Tw W w' dv v6 C A g := by
  obtain ⟨Sv, h1, h2, h3⟩ := h
  exact ⟨Sv, h1.below hb, h2, fun dw e => (h3 dw e).imp fun Sw hh => ⟨hh.1.below hb, hh.2⟩⟩
/-- the twin is made anew -/
theorem Tw.made {W w w2 w' : World} {dv : Nat} {v6 : Value} {C : List Cl} {A : List Al} {g : Int} (h : Tw W w dv v6 C A g) (hb : Below w.heap.size w w2) (hm : Made w2 w' C A g) : Tw W w' dv (.pointer (some ⟨w2.heap.size, 0, none⟩)) C A g := by
  obtain ⟨Sv, h1, h2, h3⟩ := h
  have h4 := h1.below hb
  obtain ⟨S, h5, h6⟩ := Va.made h4.bel hm
  refine ⟨Sv, h4.below hm.bel, h2, fun dw e => ?_⟩
  have e2 : dw = w2.heap.size := by
    have e3 := Value.pointer.inj e
    have e4 := Option.some.inj e3
    exact (congrArg Addr.block e4).symm
  subst e2
  refine ⟨S, h5, fun b hv hs => ?_⟩
  have := h6 b hs
  have := h4.vw.lt b hv
  omega
/-- behind the act at the first, no twin -/
theorem Tw.act0 {W w w' : World} {dv : Nat} {Sv : Nat → Prop} {C : List Cl} {A : List Al} {g : Int} {o : OpV} (h1 : Va W w dv Sv C A g) (h2 : Szs C A) (ho : OpOk o) (hn : VwNext w w' dv Sv (actC C o) (actA C A o) (actG g o)) : Tw W w' dv (.pointer none) (actC C o) (actA C A o) (actG g o) := by
  obtain ⟨S', h4, _, _⟩ := h1.next hn
  exact ⟨S', h4, h2.act ho, fun dw e => by cases e⟩
theorem VwNext.blk {w w' : World} {d b : Nat} {S : Nat → Prop} {C : List Cl} {A : List Al} {g : Int} {x : Obj} (h : VwNext w w' d S C A g) (hs : ¬ S b) (hb : w.heap[b]? = some x) : w'.heap[b]? = some x := by
  obtain ⟨S', _, h2, _⟩ := h
  rw [h2.block b (heap_lt hb) hs]
  exact hb
theorem blk_below {w w' : World} {b : Nat} {x : Obj} (h : Below w.heap.size w w') (hb : w.heap[b]? = some x) : w'.heap[b]? = some x := (h.block b (heap_lt hb)).trans hb
/-- the first has acted, the twin not yet; a third one may stand beside -/
structure Hlf (W w : World) (dv dw : Nat) (Sv Sw : Nat → Prop) (C C' : List Cl) (A A' : List Al) (g g' : Int) : Prop where
  v : Va W w dv Sv C' A' g'
  u : Va W w dw Sw C A g
  s : Szs C' A'
  ap : ∀ b, Sv b → ¬ Sw b
theorem Hlf.of {W w w' : World} {dv dw : Nat} {Sv Sw : Nat → Prop} {C : List Cl} {A : List Al} {g : Int} {o : OpV} (h1 : Va W w dv Sv C A g) (h2 : Szs C A) (h4 : Va W w dw Sw C A g) (h5 : ∀ b, Sv b → ¬ Sw b) (ho : OpOk o) (hn : VwNext w w' dv Sv (actC C o) (actA C A o) (actG g o)) : ∃ Sv', Hlf W w' dv dw Sv' Sw C (actC C o) A (actA C A o) g (actG g o) := by
  obtain ⟨S', h6, h7, h8⟩ := h1.next hn
  refine ⟨S', h6, h4.beside h7 (fun b hw hv => h5 b hv hw) h6.bel, h2.act ho, fun b hv hw => ?_⟩
  rcases h8 b hv with h | h
  · exact h5 b h hw
  · have := h4.vw.lt b hw
    omega
theorem Hlf.below {W w w' : World} {dv dw : Nat} {Sv Sw : Nat → Prop} {C C' : List Cl} {A A' : List Al} {g g' : Int} (h : Hlf W w dv dw Sv Sw C C' A A' g g') (hb : Below w.heap.size w w') : Hlf W w' dv dw Sv Sw C C' A A' g g' := ⟨h.v.below hb, h.u.below hb, h.s, h.ap⟩
/-- all three tell the same -/
structure Thr (W w : World) (dv dw dx : Nat) (Sv Sw Sx : Nat → Prop) (C : List Cl) (A : List Al) (g : Int) : Prop where
  v : Va W w dv Sv C A g
  u : Va W w dw Sw C A g
  x : Va W w dx Sx C A g
  s : Szs C A
  ap : ∀ b, Sv b → ¬ Sw b
theorem Thr.below {W w w' : World} {dv dw dx : Nat} {Sv Sw Sx : Nat → Prop} {C : List Cl} {A : List Al} {g : Int} (h : Thr W w dv dw dx Sv Sw Sx C A g) (hb : Below w.heap.size w w') : Thr W w' dv dw dx Sv Sw Sx C A g := ⟨h.v.below hb, h.u.below hb, h.x.below hb, h.s, h.ap⟩
theorem Thr.of {W w w2 w3 w' : World} {dv dw : Nat} {Sv Sw : Nat → Prop} {C : List Cl} {A : List Al} {g : Int} {o : OpV} (h : Hlf W w dv dw Sv Sw C (actC C o) A (actA C A o) g (actG g o)) (hb : Below w.heap.size w w2) (hm : Made w2 w3 (actC C o) (actA C A o) (actG g o)) (hn : VwNext w3 w' dw Sw (actC C o) (actA C A o) (actG g o)) : ∃ Sw' Sx, Thr W w' dv dw w2.heap.size Sv Sw' Sx (actC C o) (actA C A o) (actG g o) := by
  have h2 := h.below hb
  obtain ⟨Sx, h5, h6⟩ := Va.made h2.v.bel hm
  have h3 := h2.below hm.bel
  obtain ⟨S', h7, h8, h9⟩ := h3.u.next hn
  refine ⟨S', Sx, h3.v.beside h8 h.ap h7.bel, h7, h5.beside h8 (fun b hx hw => ?_) h7.bel, h.s, fun b hv hw => ?_⟩
  · have := h6 b hx
    have := h2.u.vw.lt b hw
    omega
  · rcases h9 b hw with hh | hh
    · exact h.ap b hv hh
    · have := h3.v.vw.lt b hv
      omega
theorem Thr.tw {W w : World} {dv dw dx : Nat} {Sv Sw Sx : Nat → Prop} {C : List Cl} {A : List Al} {g : Int} (h : Thr W w dv dw dx Sv Sw Sx C A g) : Tw W w dv (.pointer (some ⟨dw, 0, none⟩)) C A g :=
  ⟨Sv, h.v, h.s, fun d e => by
    have e4 := Option.some.inj (Value.pointer.inj e)
    have e5 : dw = d := congrArg Addr.block e4
    subst e5
    exact ⟨Sw, h.u, h.ap⟩⟩
end Go.Proofs.YtildpgfhahmgmaaDoor
/- A list of acts as an argument, opened. -/
namespace Go.Proofs.YtildpgfhahmgmaaDoor
open Go Go.Shelf Go.ChangeShapes Go.WideShapes Go.ChangeAt Go.RowKit Go.Maps Go.Sort Go.Deep
set_option linter.unusedVariables false
theorem cells53 : Tryd.prog.cellsOf 53 = 15 := by kernel_rfl
theorem cells37 : Tryd.prog.cellsOf 37 = 5 := by kernel_rfl
theorem cells51 : Tryd.prog.cellsOf 51 = 4 := by kernel_rfl
theorem cells3 : Tryd.prog.cellsOf 3 = 1 := by kernel_rfl
theorem cells9 : Tryd.prog.cellsOf 9 = 1 := by kernel_rfl
theorem cells23 : Tryd.prog.cellsOf 23 = 1 := by kernel_rfl
theorem cells25 : Tryd.prog.cellsOf 25 = 1 := by kernel_rfl
theorem list15 {α : Type} {cs : List α} (h : cs.length = 15) : ∃ c0 c1 c2 c3 c4 c5 c6 c7 c8 c9 c10 c11 c12 c13 c14, cs = [c0, c1, c2, c3, c4, c5, c6, c7, c8, c9, c10, c11, c12, c13, c14] := by
  match cs, h with
  | [c0, c1, c2, c3, c4, c5, c6, c7, c8, c9, c10, c11, c12, c13, c14], _ => exact ⟨c0, c1, c2, c3, c4, c5, c6, c7, c8, c9, c10, c11, c12, c13, c14, rfl⟩
theorem weights_all_mem {H : Type} {P : Program} {e : TypeId} {d : DataW H} : ∀ {l : List (DataW H)}, d ∈ l → ∀ n ∈ d.weights P e, n ∈ DataW.weightsAll P e l
  | [], h, _, _ => by cases h
  | x :: r, h, n, hn => by
    simp only [DataW.weightsAll, List.mem_append]
    rcases List.mem_cons.1 h with rfl | h
    · exact .inl hn
    · exact .inr (weights_all_mem h n hn)
section
variable {H : Type} {enc : TypeId × Value → H} {W : World}
theorem trod_struct8 {P : Program} {w : World} {base : Nat} {spare : Nat → Bool} {held : Bool} {t : TypeId} {f0 f1 f2 f3 f4 f5 f6 f7 : Field} {fuel : Nat} {cs : List Value} {x : DataW H × List MemPlace} (ht : P.underlying t = some (.struct #[f0, f1, f2, f3, f4, f5, f6, f7])) (h : DataW.trod enc P w base spare held fuel t cs = some x) :
    ∃ (y0 y1 y2 y3 y4 y5 y6 y7 : DataW H × List MemPlace) (n : Nat), x.1 = .agg [y0.1, y1.1, y2.1, y3.1, y4.1, y5.1, y6.1, y7.1] ∧ cs.length = P.cellsOf t ∧
      DataW.trod enc P w base spare held n f0.type ((cs.drop f0.offset).take (P.cellsOf f0.type)) = some y0 ∧
      DataW.trod enc P w base spare held n f1.type ((cs.drop f1.offset).take (P.cellsOf f1.type)) = some y1 ∧
      DataW.trod enc P w base spare held n f2.type ((cs.drop f2.offset).take (P.cellsOf f2.type)) = some y2 ∧
      DataW.trod enc P w base spare held n f3.type ((cs.drop f3.offset).take (P.cellsOf f3.type)) = some y3 ∧
      DataW.trod enc P w base spare held n f4.type ((cs.drop f4.offset).take (P.cellsOf f4.type)) = some y4 ∧
      DataW.trod enc P w base spare held n f5.type ((cs.drop f5.offset).take (P.cellsOf f5.type)) = some y5 ∧
      DataW.trod enc P w base spare held n f6.type ((cs.drop f6.offset).take (P.cellsOf f6.type)) = some y6 ∧
      DataW.trod enc P w base spare held n f7.type ((cs.drop f7.offset).take (P.cellsOf f7.type)) = some y7 := by
  obtain ⟨xs, n, _, rfl, hl, hlen, hf⟩ := DataW.trod_struct ht h
  match xs, hlen with
  | [y0, y1, y2, y3, y4, y5, y6, y7], _ => exact ⟨y0, y1, y2, y3, y4, y5, y6, y7, n, by simp, hl, by simpa using hf 0 f0 rfl, by simpa using hf 1 f1 rfl, by simpa using hf 2 f2 rfl, by simpa using hf 3 f3 rfl, by simpa using hf 4 f4 rfl, by simpa using hf 5 f5 rfl, by simpa using hf 6 f6 rfl, by simpa using hf 7 f7 rfl⟩
theorem trod_five {P : Program} {w : World} {base : Nat} {spare : Nat → Bool} {held : Bool} {t : TypeId} {f0 f1 f2 f3 f4 : Field} {fuel : Nat} {cs : List Value} {x : DataW H × List MemPlace} (ht : P.underlying t = some (.struct #[f0, f1, f2, f3, f4])) (h : DataW.trod enc P w base spare held fuel t cs = some x) :
    ∃ (y0 y1 y2 y3 y4 : DataW H × List MemPlace) (n : Nat), x.1 = .agg [y0.1, y1.1, y2.1, y3.1, y4.1] ∧ DataW.trod enc P w base spare held n f0.type ((cs.drop f0.offset).take (P.cellsOf f0.type)) = some y0 ∧
      DataW.trod enc P w base spare held n f1.type ((cs.drop f1.offset).take (P.cellsOf f1.type)) = some y1 ∧ DataW.trod enc P w base spare held n f2.type ((cs.drop f2.offset).take (P.cellsOf f2.type)) = some y2 ∧
      DataW.trod enc P w base spare held n f3.type ((cs.drop f3.offset).take (P.cellsOf f3.type)) = some y3 ∧ DataW.trod enc P w base spare held n f4.type ((cs.drop f4.offset).take (P.cellsOf f4.type)) = some y4 := by
  obtain ⟨xs, n, _, rfl, hl, hlen, hf⟩ := DataW.trod_struct ht h
  match xs, hlen with
  | [y0, y1, y2, y3, y4], _ => exact ⟨y0, y1, y2, y3, y4, n, by simp, by simpa using hf 0 f0 rfl, by simpa using hf 1 f1 rfl, by simpa using hf 2 f2 rfl, by simpa using hf 3 f3 rfl, by simpa using hf 4 f4 rfl⟩
theorem trod_four {P : Program} {w : World} {base : Nat} {spare : Nat → Bool} {held : Bool} {t : TypeId} {f0 f1 f2 f3 : Field} {fuel : Nat} {cs : List Value} {x : DataW H × List MemPlace} (ht : P.underlying t = some (.struct #[f0, f1, f2, f3])) (h : DataW.trod enc P w base spare held fuel t cs = some x) :
    ∃ (y0 y1 y2 y3 : DataW H × List MemPlace) (n : Nat), x.1 = .agg [y0.1, y1.1, y2.1, y3.1] ∧ DataW.trod enc P w base spare held n f0.type ((cs.drop f0.offset).take (P.cellsOf f0.type)) = some y0 ∧
      DataW.trod enc P w base spare held n f1.type ((cs.drop f1.offset).take (P.cellsOf f1.type)) = some y1 ∧ DataW.trod enc P w base spare held n f2.type ((cs.drop f2.offset).take (P.cellsOf f2.type)) = some y2 ∧
      DataW.trod enc P w base spare held n f3.type ((cs.drop f3.offset).take (P.cellsOf f3.type)) = some y3 := by
  obtain ⟨xs, n, _, rfl, hl, hlen, hf⟩ := DataW.trod_struct ht h
  match xs, hlen with
  | [y0, y1, y2, y3], _ => exact ⟨y0, y1, y2, y3, n, by simp, by simpa using hf 0 f0 rfl, by simpa using hf 1 f1 rfl, by simpa using hf 2 f2 rfl, by simpa using hf 3 f3 rfl⟩
theorem size_str {s : ByteArray} {y : DataW H} (e : y = .lit (.string s.data.toList)) (hw : ∀ m ∈ y.weights Tryd.prog 9, m ≤ reachBytes) : s.size ≤ maxLen :=
  Nat.le_trans (hw s.size (by rw [e]; simp [DataW.weights])) (by decide)
set_option maxRecDepth 100000 in
theorem open_op {fuel : Nat} {cs : List Value} {x : DataW H × List MemPlace} (h : DataW.trod enc Tryd.prog W 0 (fun _ => true) true fuel 53 cs = some x) (hw : ∀ n ∈ x.1.weights Tryd.prog 53, n ≤ reachBytes) :
    ∃ o : OpV, cs = o.arr.toList ∧ OpOk o ∧ OpSl o := by
  obtain ⟨y0, y1, y2, y3, y4, y5, y6, y7, n, hx, hl, g0, g1, g2, g3, g4, g5, g6, g7⟩ := trod_struct8 Tryd.underlying53 h
  rw [cells53] at hl
  obtain ⟨c0, c1, c2, c3, c4, c5, c6, c7, c8, c9, c10, c11, c12, c13, c14, rfl⟩ := list15 hl
  clear h hl
  simp only [cells3, cells9, cells37, cells51, cells23, cells25, List.drop_zero, List.drop_succ_cons, List.take_succ_cons, List.take_zero] at g0 g1 g2 g3 g4 g5 g6 g7
  obtain ⟨n0, e0, _, _⟩ := DataW.trod_int Tryd.underlying3 g0
  obtain ⟨n1, e1, _, _⟩ := DataW.trod_int Tryd.underlying3 g1
  obtain ⟨n2, e2, _, _⟩ := DataW.trod_int Tryd.underlying3 g2
  obtain ⟨s12, e12, x12, z12⟩ := DataW.trod_string Tryd.underlying9 g5
  have w3 : ∀ m ∈ y3.1.weights Tryd.prog 37, m ≤ reachBytes := fun m hm => hw m (by
    rw [hx]
    simp only [DataW.weights, Tryd.underlying53]
    exact DataW.weights_mem_each (j := 3) (t := 37) rfl rfl m hm)
  have w4 : ∀ m ∈ y4.1.weights Tryd.prog 51, m ≤ reachBytes := fun m hm => hw m (by
    rw [hx]
    simp only [DataW.weights, Tryd.underlying53]
    exact DataW.weights_mem_each (j := 4) (t := 51) rfl rfl m hm)
  have w5 : ∀ m ∈ y5.1.weights Tryd.prog 9, m ≤ reachBytes := fun m hm => hw m (by
    rw [hx]
    simp only [DataW.weights, Tryd.underlying53]
    exact DataW.weights_mem_each (j := 5) (t := 9) rfl rfl m hm)
  obtain ⟨u0, u1, u2, u3, u4, m, hu, k0, k1, k2, k3, k4⟩ := trod_five Tryd.underlying37 g3
  obtain ⟨v0, v1, v2, v3, m', hv, l0, l1, l2, l3⟩ := trod_four Tryd.underlying51 g4
  simp only [cells3, cells9, cells2, List.drop_zero, List.drop_succ_cons, List.take_succ_cons, List.take_zero] at k0 k1 k2 k3 k4 l0 l1 l2 l3
  obtain ⟨s3, e3, x3, z3⟩ := DataW.trod_string Tryd.underlying9 k0
  obtain ⟨s4, e4, x4, z4⟩ := DataW.trod_string Tryd.underlying9 k1
  obtain ⟨n5, e5, _, _⟩ := DataW.trod_int Tryd.underlying3 k2
  obtain ⟨n6, e6, _, _⟩ := DataW.trod_int Tryd.underlying3 k3
  obtain ⟨n7, e7, hh7, hb7⟩ := DataW.trod_int Tryd.underlying2 k4
  obtain ⟨s8, e8, x8, z8⟩ := DataW.trod_string Tryd.underlying9 l0
  obtain ⟨s9, e9, x9, z9⟩ := DataW.trod_string Tryd.underlying9 l1
  obtain ⟨n10, e10, _, _⟩ := DataW.trod_int Tryd.underlying3 l2
  obtain ⟨n11, e11, _, _⟩ := DataW.trod_int Tryd.underlying2 l3
  have q0 : ∀ m ∈ u0.1.weights Tryd.prog 9, m ≤ reachBytes := fun m hm => w3 m (by
    rw [hu]
    simp only [DataW.weights, Tryd.underlying37]
    exact DataW.weights_mem_each (j := 0) (t := 9) rfl rfl m hm)
  have q1 : ∀ m ∈ u1.1.weights Tryd.prog 9, m ≤ reachBytes := fun m hm => w3 m (by
    rw [hu]
    simp only [DataW.weights, Tryd.underlying37]
    exact DataW.weights_mem_each (j := 1) (t := 9) rfl rfl m hm)
  have q2 : ∀ m ∈ v1.1.weights Tryd.prog 9, m ≤ reachBytes := fun m hm => w4 m (by
    rw [hv]
    simp only [DataW.weights, Tryd.underlying51]
    exact DataW.weights_mem_each (j := 1) (t := 9) rfl rfl m hm)
  obtain ⟨r1, m1, t1, e13⟩ : ∃ a l c, [c13] = [Value.slice a l c] := by
    rcases open_slice Tryd.underlying23 g6 with ⟨hcs, _⟩ | ⟨a', len', cap', _, _, _, _, hcs, _⟩
    · exact ⟨_, _, _, hcs⟩
    · exact ⟨_, _, _, hcs⟩
  obtain ⟨r2, m2, t2, e14⟩ : ∃ a l c, [c14] = [Value.slice a l c] := by
    rcases open_slice Tryd.underlying25 g7 with ⟨hcs, _⟩ | ⟨a', len', cap', _, _, _, _, hcs, _⟩
    · exact ⟨_, _, _, hcs⟩
    · exact ⟨_, _, _, hcs⟩
  simp only [List.cons.injEq, and_true] at e13 e14 e0 e1 e2 e3 e4 e5 e6 e7 e8 e9 e10 e11 e12
  refine ⟨⟨n0, n1, n2, ⟨s3, s4, n5, n6, n7⟩, ⟨s8, s9, n10, n11⟩, s12, c13, c14⟩, ?_, ⟨size_str (congrArg Prod.fst x3) q0, size_str (congrArg Prod.fst x4) q1, size_str (congrArg Prod.fst x9) q2, size_str (congrArg Prod.fst x12) w5, ?_⟩, ⟨r1, m1, t1, r2, m2, t2, e13, e14⟩⟩
  · rw [e0, e1, e2, e3, e4, e5, e6, e7, e8, e9, e10, e11, e12]
    rfl
  · show n7 ≤ 9223372036854775807
    simp [Lit.wf, IntKind.min, IntKind.max, IntKind.signed, IntKind.bits] at hb7
    omega
set_option maxRecDepth 100000 in
theorem spot_none {base t e : Nat} {x : Addr} {len cap : Nat} (ht : Tryd.prog.underlying t = some (.slice e)) (hok : Value.okWide Tryd.prog W .any base t (.slice (some x) len cap)) : x.spot = none := by
  have h1 : Cell.okWide Tryd.prog W .any base t (.slice (some x) len cap) := by
    have h2 := hok
    unfold Value.okWide at h2
    rw [ht] at h2
    exact h2
  unfold Cell.okWide at h1
  rw [ht] at h1
  simp only [Cell.ok, ht, World.has] at h1
  exact h1.2.2.2.1
instance : Inhabited OpV := ⟨⟨0, 0, 0, ⟨⟨#[]⟩, ⟨#[]⟩, 0, 0, 0⟩, ⟨⟨#[]⟩, ⟨#[]⟩, 0, 0⟩, ⟨#[]⟩, .bool false, .bool false⟩⟩
set_option maxRecDepth 100000 in
theorem open_ops {base : Nat} {v : Value} {d : DataW H} {p : List MemPlace} (hok : Value.okWide Tryd.prog W .any base 44 v) (h : ∃ fuel, DataW.trod enc Tryd.prog W 0 (fun _ => true) true fuel 44 v.cells.toList = some (d, p)) (hw : ∀ n ∈ d.weights Tryd.prog 44, n ≤ reachBytes) :
    ∃ (pu : Option Addr) (cu : Nat) (L : List OpV), v = .slice pu L.length cu ∧ L.length ≤ maxLen ∧ OpsIn W pu L ∧ ∀ o ∈ L, OpOk o ∧ OpSl o := by
  obtain ⟨a0, len0, cap0, rfl⟩ := okWide_slice Tryd.underlying44 hok
  obtain ⟨fuel, hf⟩ := h
  rcases open_slice Tryd.underlying44 hf with ⟨hcs, _⟩ | ⟨a, len, cap, m, n, D, Pl, hcs, hb, hl, hm, hmm, hx, hall⟩
  · simp [Value.cells] at hcs
    obtain ⟨rfl, rfl, rfl⟩ := hcs
    exact ⟨none, 0, [], rfl, Nat.zero_le _, fun k hk => by simp at hk, fun o ho => by cases ho⟩
  · simp [Value.cells] at hcs
    obtain ⟨rfl, rfl, rfl⟩ := hcs
    have hmm' : m = cap0 := by simpa using hmm
    have hspot := spot_none Tryd.underlying44 hok
    obtain ⟨b, off, sp⟩ := a
    simp only at hspot
    subst hspot
    have hd : d = .slice ((List.range len0).map D) ((List.range (m - len0)).map fun j => D (len0 + j)) := (Prod.mk.inj hx).1
    have hq : ∀ i, i < len0 → ∃ o : OpV, W.rangeAt b (off + i * 15) o.arr.toList ∧ OpOk o ∧ OpSl o := fun i hi => by
      obtain ⟨cs', h1, h2⟩ := hall i (by omega)
      obtain ⟨o, hX, hO⟩ := open_op h2 (fun n hn => hw n (by
        rw [hd]
        simp only [DataW.weights, Tryd.underlying44, List.mem_cons, List.mem_append]
        exact .inr (.inl (weights_all_mem (List.mem_map.2 ⟨i, List.mem_range.2 hi, rfl⟩) n hn))))
      refine ⟨o, fun j u hj => ?_, hO⟩
      rw [cells53] at h1
      obtain ⟨_, hlen, hc⟩ := World.cells?_some h1
      rw [← hX] at hj
      have hj' : j < 15 := by
        have := (List.getElem?_eq_some_iff.1 hj).1
        omega
      have h3 := hc j hj'
      rw [hj, add_add, Addr.add_mid] at h3
      rw [Nat.add_assoc]
      exact h3
    obtain ⟨X, hX⟩ := choose_lt (α := OpV) hq
    have hlen : ((List.range len0).map X).length = len0 := by simp
    refine ⟨some ⟨b, off, none⟩, cap0, (List.range len0).map X, by rw [hlen], by rw [hlen]; omega, fun k hk => ?_, fun o ho => ?_⟩
    · have hk' : k < len0 := by rw [hlen] at hk; exact hk
      refine ⟨b, off, rfl, ?_, ?_⟩
      · have := (hX k hk').1 0 _ rfl
        exact World.block_lt_of_cell? W _ this
      · have e : ((List.range len0).map X)[k] = X k := by simp
        rw [e]
        exact (hX k hk').1
    · obtain ⟨i, hi, rfl⟩ := List.mem_map.1 ho
      exact (hX i (List.mem_range.1 hi)).2
end
end Go.Proofs.YtildpgfhahmgmaaDoor
/- A list of deals as an argument, opened. -/
namespace Go.Proofs.YtildpgfhahmgmaaDoor
open Go Go.Shelf Go.ChangeShapes Go.WideShapes Go.ChangeAt Go.RowKit Go.Maps Go.Sort Go.Deep
set_option linter.unusedVariables false
theorem cells65 : Tryd.prog.cellsOf 65 = 5 := by kernel_rfl
theorem cells76 : Tryd.prog.cellsOf 76 = 2 := by kernel_rfl
theorem cells63 : Tryd.prog.cellsOf 63 = 1 := by kernel_rfl
theorem list5 {α : Type} {cs : List α} (h : cs.length = 5) : ∃ c0 c1 c2 c3 c4, cs = [c0, c1, c2, c3, c4] := by
  match cs, h with
  | [c0, c1, c2, c3, c4], _ => exact ⟨c0, c1, c2, c3, c4, rfl⟩
theorem list2 {α : Type} {cs : List α} (h : cs.length = 2) : ∃ c0 c1, cs = [c0, c1] := by
  match cs, h with
  | [c0, c1], _ => exact ⟨c0, c1, rfl⟩
section
variable {H : Type} {enc : TypeId × Value → H} {W : World}
theorem trod_two {P : Program} {w : World} {base : Nat} {spare : Nat → Bool} {held : Bool} {t : TypeId} {f0 f1 : Field} {fuel : Nat} {cs : List Value} {x : DataW H × List MemPlace} (ht : P.underlying t = some (.struct #[f0, f1])) (h : DataW.trod enc P w base spare held fuel t cs = some x) :
    ∃ (y0 y1 : DataW H × List MemPlace) (n : Nat), cs.length = P.cellsOf t ∧ DataW.trod enc P w base spare held n f0.type ((cs.drop f0.offset).take (P.cellsOf f0.type)) = some y0 ∧ DataW.trod enc P w base spare held n f1.type ((cs.drop f1.offset).take (P.cellsOf f1.type)) = some y1 := by
  obtain ⟨xs, n, _, rfl, hl, hlen, hf⟩ := DataW.trod_struct ht h
  match xs, hlen with
  | [y0, y1], _ => exact ⟨y0, y1, n, hl, by simpa using hf 0 f0 rfl, by simpa using hf 1 f1 rfl⟩
theorem trod_len {P : Program} {w : World} {base : Nat} {spare : Nat → Bool} {held : Bool} {t : TypeId} {fs : Array Field} {fuel : Nat} {cs : List Value} {x : DataW H × List MemPlace} (ht : P.underlying t = some (.struct fs)) (h : DataW.trod enc P w base spare held fuel t cs = some x) : cs.length = P.cellsOf t := by
  obtain ⟨xs, n, _, rfl, hl, hlen, hf⟩ := DataW.trod_struct ht h
  exact hl
theorem open_part {fuel : Nat} {cs : List Value} {x : DataW H × List MemPlace} (h : DataW.trod enc Tryd.prog W 0 (fun _ => true) true fuel 76 cs = some x) : ∃ q : Int × Int, cs = [.int .i64 q.1, .int .i64 q.2] := by
  obtain ⟨y0, y1, n, hl, g0, g1⟩ := trod_two Tryd.underlying76 h
  rw [cells76] at hl
  obtain ⟨c0, c1, rfl⟩ := list2 hl
  simp only [cells3, cells2, List.drop_zero, List.drop_succ_cons, List.take_succ_cons, List.take_zero] at g0 g1
  obtain ⟨n0, e0, _, _⟩ := DataW.trod_int Tryd.underlying3 g0
  obtain ⟨n1, e1, _, _⟩ := DataW.trod_int Tryd.underlying2 g1
  simp only [List.cons.injEq, and_true] at e0 e1
  exact ⟨(n0, n1), by rw [e0, e1]⟩
/-- the parts -/
theorem open_parts {fuel : Nat} {v : Value} {x : DataW H × List MemPlace} (h : DataW.trod enc Tryd.prog W 0 (fun _ => true) true fuel 63 [v] = some x) :
    ∃ (pp : Option Addr) (cp : Nat) (P : List (Int × Int)), v = .slice pp P.length cp ∧ P.length ≤ maxLen ∧ ∀ k (hk : k < P.length), ∃ b off, pp = some ⟨b, off, none⟩ ∧ b < W.heap.size ∧ W.rangeAt b (off + k * 2) [.int .i64 P[k].1, .int .i64 P[k].2] := by
  rcases open_slice Tryd.underlying63 h with ⟨hcs, _⟩ | ⟨a, len, cap, m, n, D, Pl, hcs, hb, hl, hm, hmm, hx, hall⟩
  · simp only [List.cons.injEq, and_true] at hcs
    exact ⟨none, 0, [], hcs, Nat.zero_le _, fun k hk => by simp at hk⟩
  · simp only [List.cons.injEq, and_true] at hcs
    have hq : ∀ i, i < len → ∃ q : Int × Int, W.cell? (a.add (i * 2 + 0)) = some (.int .i64 q.1) ∧ W.cell? (a.add (i * 2 + 1)) = some (.int .i64 q.2) := fun i hi => by
      obtain ⟨cs', h1, h2⟩ := hall i (by have : m = cap := by simpa using hmm
                                         omega)
      obtain ⟨q, hX⟩ := open_part h2
      rw [cells76] at h1
      obtain ⟨_, hlen, hc⟩ := World.cells?_some h1
      have g0 := hc 0 (by omega)
      have g1 := hc 1 (by omega)
      rw [hX, add_add] at g0 g1
      exact ⟨q, g0, g1⟩
    obtain ⟨X, hX⟩ := @choose_lt (Int × Int) ⟨(0, 0)⟩ _ _ hq
    have hlen : ((List.range len).map X).length = len := by simp
    refine ⟨some a, cap, (List.range len).map X, by rw [hlen]; exact hcs, by rw [hlen]; omega, fun k hk => ?_⟩
    have hk' : k < len := by rw [hlen] at hk; exact hk
    have e : ((List.range len).map X)[k] = X k := by simp
    obtain ⟨g0, g1⟩ := hX k hk'
    have hz := (hX 0 (by omega)).1
    have ha0 : a.add (0 * 2 + 0) = a := by simp [Addr.add]
    rw [ha0] at hz
    have hsp := World.cell?_spot hz
    obtain ⟨b, off, sp⟩ := a
    have hs2 : sp = none := hsp
    subst hs2
    refine ⟨b, off, rfl, (by have h9 := World.block_lt_of_cell? W _ g0; rw [Addr.add_mid] at h9; exact h9), fun j u hj => ?_⟩
    rw [e] at hj
    have hj2 : j < 2 := (List.getElem?_eq_some_iff.1 hj).1
    have : j = 0 ∨ j = 1 := by omega
    rcases this with rfl | rfl
    · rw [Addr.add_mid] at g0
      rw [Nat.add_assoc]
      simp only [List.getElem?_cons_zero, Option.some.injEq] at hj
      rw [← hj]
      exact g0
    · rw [Addr.add_mid] at g1
      rw [Nat.add_assoc]
      simp only [List.getElem?_cons_succ, List.getElem?_cons_zero, Option.some.injEq] at hj
      rw [← hj]
      exact g1
set_option maxRecDepth 100000 in
theorem open_deal {fuel : Nat} {cs : List Value} {x : DataW H × List MemPlace} (h : DataW.trod enc Tryd.prog W 0 (fun _ => true) true fuel 65 cs = some x) (hw : ∀ n ∈ x.1.weights Tryd.prog 65, n ≤ reachBytes) :
    ∃ d : Dl, cs = d.vals ∧ d.acc.size ≤ maxLen ∧ PtsIn W d ∧ d.np ≤ maxLen := by
  have hl := trod_len Tryd.underlying65 h
  obtain ⟨u0, u1, u2, u3, u4, m, hu, k0, k1, k2, k3, k4⟩ := trod_five Tryd.underlying65 h
  rw [cells65] at hl
  obtain ⟨c0, c1, c2, c3, c4, rfl⟩ := list5 hl
  simp only [cells3, cells9, cells2, cells63, List.drop_zero, List.drop_succ_cons, List.take_succ_cons, List.take_zero] at k0 k1 k2 k3 k4
  obtain ⟨s0, e0, x0, z0⟩ := DataW.trod_string Tryd.underlying9 k0
  obtain ⟨n1, e1, _, _⟩ := DataW.trod_int Tryd.underlying3 k1
  obtain ⟨n2, e2, _, _⟩ := DataW.trod_int Tryd.underlying3 k2
  obtain ⟨n3, e3, _, _⟩ := DataW.trod_int Tryd.underlying2 k3
  obtain ⟨pp, cp, P, e4, hP, hin⟩ := open_parts k4
  have q0 : ∀ m ∈ u0.1.weights Tryd.prog 9, m ≤ reachBytes := fun m hm => hw m (by
    rw [hu]
    simp only [DataW.weights, Tryd.underlying65]
    exact DataW.weights_mem_each (j := 0) (t := 9) rfl rfl m hm)
  simp only [List.cons.injEq, and_true] at e0 e1 e2 e3
  refine ⟨⟨s0, n1, n2, n3, pp, P.length, cp, P⟩, ?_, size_str (congrArg Prod.fst x0) q0, ⟨rfl, hin⟩, hP⟩
  rw [e0, e1, e2, e3, e4]
  rfl
set_option maxRecDepth 100000 in
theorem open_deals {base : Nat} {v : Value} {d : DataW H} {p : List MemPlace} (hok : Value.okWide Tryd.prog W .any base 22 v) (h : ∃ fuel, DataW.trod enc Tryd.prog W 0 (fun _ => true) true fuel 22 v.cells.toList = some (d, p)) (hw : ∀ n ∈ d.weights Tryd.prog 22, n ≤ reachBytes) :
    ∃ (pu : Option Addr) (cu : Nat) (L : List Dl), v = .slice pu L.length cu ∧ L.length ≤ maxLen ∧ DlsIn W pu L ∧ (∀ d ∈ L, d.acc.size ≤ maxLen) ∧ ∀ d ∈ L, PtsIn W d ∧ d.np ≤ maxLen := by
  obtain ⟨a0, len0, cap0, rfl⟩ := okWide_slice Tryd.underlying22 hok
  obtain ⟨fuel, hf⟩ := h
  rcases open_slice Tryd.underlying22 hf with ⟨hcs, _⟩ | ⟨a, len, cap, m, n, D, Pl, hcs, hb, hl, hm, hmm, hx, hall⟩
  · simp [Value.cells] at hcs
    obtain ⟨rfl, rfl, rfl⟩ := hcs
    exact ⟨none, 0, [], rfl, Nat.zero_le _, fun k hk => (by simp at hk), fun o ho => (by cases ho), fun o ho => (by cases ho)⟩
  · simp [Value.cells] at hcs
    obtain ⟨rfl, rfl, rfl⟩ := hcs
    have hmm' : m = cap0 := by simpa using hmm
    have hspot := spot_none Tryd.underlying22 hok
    obtain ⟨b, off, sp⟩ := a
    simp only at hspot
    subst hspot
    have hd : d = .slice ((List.range len0).map D) ((List.range (m - len0)).map fun j => D (len0 + j)) := (Prod.mk.inj hx).1
    have hq : ∀ i, i < len0 → ∃ o : Dl, W.rangeAt b (off + i * 5) o.vals ∧ o.acc.size ≤ maxLen ∧ PtsIn W o ∧ o.np ≤ maxLen := fun i hi => by
      obtain ⟨cs', h1, h2⟩ := hall i (by omega)
      obtain ⟨o, hX, hO⟩ := open_deal h2 (fun n hn => hw n (by
        rw [hd]
        simp only [DataW.weights, Tryd.underlying22, List.mem_cons, List.mem_append]
        exact .inr (.inl (weights_all_mem (List.mem_map.2 ⟨i, List.mem_range.2 hi, rfl⟩) n hn))))
      refine ⟨o, fun j u hj => ?_, hO⟩
      rw [cells65] at h1
      obtain ⟨_, hlen, hc⟩ := World.cells?_some h1
      rw [← hX] at hj
      have hj' : j < 5 := by
        have := (List.getElem?_eq_some_iff.1 hj).1
        omega
      have h3 := hc j hj'
      rw [hj, add_add, Addr.add_mid] at h3
      rw [Nat.add_assoc]
      exact h3
    obtain ⟨X, hX⟩ := @choose_lt Dl ⟨dl0⟩ _ _ hq
    have hlen : ((List.range len0).map X).length = len0 := by simp
    refine ⟨some ⟨b, off, none⟩, cap0, (List.range len0).map X, by rw [hlen], by rw [hlen]; omega, fun k hk => ?_, fun o ho => ?_, fun o ho => ?_⟩
    · have hk' : k < len0 := by rw [hlen] at hk; exact hk
      refine ⟨b, off, rfl, World.block_lt_of_cell? W _ ((hX k hk').1 0 _ rfl), ?_⟩
      have e : ((List.range len0).map X)[k] = X k := by simp
      rw [e]
      exact (hX k hk').1
    · obtain ⟨i, hi, rfl⟩ := List.mem_map.1 ho
      exact (hX i (List.mem_range.1 hi)).2.1
    · obtain ⟨i, hi, rfl⟩ := List.mem_map.1 ho
      exact (hX i (List.mem_range.1 hi)).2.2
end
end Go.Proofs.YtildpgfhahmgmaaDoor
/- A list of numbers as an argument, opened. -/
namespace Go.Proofs.YtildpgfhahmgmaaDoor
open Go Go.Shelf Go.ChangeShapes Go.WideShapes Go.ChangeAt Go.RowKit Go.Maps Go.Sort Go.Deep
set_option linter.unusedVariables false
theorem bytes3 : Tryd.prog.bytesOf 3 = 8 := by kernel_rfl
section
variable {H : Type} {enc : TypeId × Value → H} {W : World}
set_option maxRecDepth 100000 in
theorem open_nums {base : Nat} {v : Value} {d : DataW H} {p : List MemPlace} (hok : Value.okWide Tryd.prog W .any base 57 v) (h : ∃ fuel, DataW.trod enc Tryd.prog W 0 (fun _ => true) true fuel 57 v.cells.toList = some (d, p)) (hw : ∀ n ∈ d.weights Tryd.prog 57, n ≤ reachBytes) :
    ∃ (pm : Option Addr) (c : Nat) (M : List Int), v = .slice pm M.length c ∧ M.length ≤ 17592186043904 ∧ Lies kI W pm M ∧ (pm = none → c = 0) := by
  obtain ⟨a0, len0, cap0, rfl⟩ := okWide_slice Tryd.underlying57 hok
  obtain ⟨fuel, hf⟩ := h
  rcases open_ints Tryd.underlying57 Tryd.underlying3 cells3 hf with ⟨hcs, _⟩ | ⟨a, len, cap, zs, hcs, hb, hl, hm, hz, hx, hcell, hwz⟩
  · simp [Value.cells] at hcs
    obtain ⟨rfl, rfl, rfl⟩ := hcs
    exact ⟨none, 0, [], rfl, by simp, Lies.nil _ _, fun _ => rfl⟩
  · simp [Value.cells] at hcs
    obtain ⟨rfl, rfl, rfl⟩ := hcs
    have hz' : zs.length = cap0 := by simpa using hz
    have hd : d = .slice (lits .i64 (zs.take len0)) (lits .i64 (zs.drop len0)) := (Prod.mk.inj hx).1
    have hlen : (zs.take len0).length = len0 := by rw [List.length_take]; omega
    have hle : len0 ≤ 17592186043904 := by
      have h1 := hw (((lits (H := H) .i64 (zs.take len0)).length + (lits (H := H) .i64 (zs.drop len0)).length) * Tryd.prog.bytesOf 3) (by
        rw [hd]
        simp only [DataW.weights, Tryd.underlying57]
        exact List.mem_cons_self)
      rw [bytes3] at h1
      unfold reachBytes at h1
      have h2 : (lits (H := H) .i64 (zs.take len0)).length = len0 := by simp only [lits, List.length_map]; exact hlen
      omega
    refine ⟨some a, cap0, zs.take len0, by rw [hlen], by rw [hlen]; exact hle, ⟨fun h => (by cases h), fun k hk => ?_⟩, fun h => (by cases h)⟩
    rw [hlen] at hk
    have hs : a.spot = none := by simpa [Addr.add] using World.cell?_spot (hcell 0 (by omega))
    obtain ⟨b, off, sp⟩ := a
    simp only at hs
    subst hs
    have hck := hcell k (by omega)
    rw [Addr.add_mid] at hck
    refine ⟨b, off, rfl, World.block_lt_of_cell? W _ hck, fun j u hu => ?_⟩
    have hj : j = 0 := by
      have := (List.getElem?_eq_some_iff.1 hu).1
      simp [kI] at this
      exact this
    subst hj
    have e1 : off + k * kI.s + 0 = off + k := by show off + k * 1 + 0 = _; omega
    rw [e1, hck]
    have e2 : zs.getD k 0 = (zs.take len0)[k]'(by omega) := by
      rw [List.getElem_take, List.getD_eq_getElem?_getD, List.getElem?_eq_getElem (by omega)]
      rfl
    rw [e2]
    exact hu
end
end Go.Proofs.YtildpgfhahmgmaaDoor
/- The laws' like (28) at two views that tell the same. -/
namespace Go.Proofs.YtildpgfhahmgmaaDoor
open Go Go.Shelf Go.ChangeShapes Go.WideShapes Go.ChangeAt Go.RowKit Go.Maps
set_option linter.unusedVariables false
/-- two states that tell the same -/
structure Alk (C C' : List Cl) (A A' : List Al) : Prop where
  ages : ∀ k t, atS C A k t = atS C' A' k t
  opens : ∀ k t R R', OpenIs C A k t R → OpenIs C' A' k t R' → R = R'
/-- two views, and the lists -/
structure Pr (X w : World) (dv dw : Nat) (Sv Sw : Nat → Prop) (C C' : List Cl) (A A' : List Al) (g g' : Int) (pc pd : Option Addr) (Q : List Cl) (D : List Int) : Prop where
  v : Vw w dv Sv C A g
  u : Vw w dw Sw C' A' g'
  bel : Below X.heap.size X w
  st : Stp w
  c : Lies kC w pc Q
  d : Lies kI w pd D
theorem Pr.below {X w w' : World} {dv dw : Nat} {Sv Sw : Nat → Prop} {C C' : List Cl} {A A' : List Al} {g g' : Int} {pc pd : Option Addr} {Q : List Cl} {D : List Int} (h : Pr X w dv dw Sv Sw C C' A A' g g' pc pd Q D) (hb : Below w.heap.size w w') : Pr X w' dv dw Sv Sw C C' A A' g g' pc pd Q D :=
  ⟨h.v.below hb, h.u.below hb, h.bel.trans (hb.mono h.bel.size), h.st.below hb, h.c.below hb, h.d.below hb⟩
theorem Lies.num {w : World} {b off : Nat} {D : List Int} (h : Lies kI w (some ⟨b, off, none⟩) D) {k : Nat} (hk : k < D.length) : w.cell? ⟨b, off + k, none⟩ = some (.int .i64 D[k]) := by
  obtain ⟨b', off', e, _, hr⟩ := h.2 k hk
  cases e
  have := hr 0 _ rfl
  have e2 : off + k * kI.s + 0 = off + k := by show off + k * 1 + 0 = _; omega
  rw [e2] at this
  exact this
set_option maxRecDepth 100000 in
set_option maxHeartbeats 16000000 in
theorem like_any {W : World} {dv dw : Nat} {Sv Sw : Nat → Prop} {C C' : List Cl} {A A' : List Al} {g g' : Int} (hA : Alk C C' A A') {pc pd : Option Addr} {n N cc cd : Nat} {Q : List Cl} {D : List Int} (hP : Pr W W dv dw Sv Sw C C' A A' g g' pc pd Q D) (hn : Q.length = n) (hn2 : n ≤ 1000) (hq : ∀ c ∈ Q, c.acc.size ≤ maxLen) (hN : D.length = N) (hN2 : N ≤ 17592186050000) :
    Calls Tryd.prog 28 #[ptr dv, ptr dw, .slice pc n cc, .slice pd N cd] W fun e w' => e = .returned (.bool true) ∧ Below W.heap.size W w' := by
  have HA := hide hA; have HP := hide hP; have HN := hide hn; have HQ := hide hq; have HD := hide hN
  have hst := arr39; have heg := eg39; have heq := eq39_same
  have hNb : N ≤ 9223372036854775807 := by omega
  unfold ptr
  clear hA hP hn hq hN
  go_enter Tryd.func28, Tryd.ntmps28
  go_wp2_with fail
  go_loopw [9] (fun v9 wr => ∃ (i : Nat), v9 = .int .i64 i ∧ i ≤ n ∧ Hid (Pr W wr dv dw Sv Sw C C' A A' g g' pc pd Q D)) (fun v9 _ => n - (intOf v9).toNat)
  case atStart => exact ⟨0, rfl, by omega, unhide HP⟩
  case round =>
    obtain ⟨i, rfl, hi, hrel⟩ := hrel
    by_cases hlt : i < n
    · have hiQ : i < Q.length := by rw [unhide HN]; exact hlt
      obtain ⟨b, off, e, hbl, hr⟩ := (unhide hrel).c.2 i hiQ
      obtain ⟨s, hs⟩ : ∃ s, s = Q[i].acc := ⟨_, rfl⟩
      have k1 : wr.cell? ⟨b, off + i * 5 + 1, none⟩ = some (.string s) := by rw [hs]; exact hr 1 _ rfl
      have hsm : s.size ≤ maxLen := by rw [hs]; exact unhide HQ _ (List.getElem_mem hiQ)
      have HSM := hide hsm
      have HR0 := hide (unhide hrel)
      subst e
      clear hr hs hbl hiQ hsm hrel
      go_wp2_with fail
      go_loopw [11] (fun v11 wr => ∃ (k : Nat), v11 = .int .i64 k ∧ k ≤ N ∧ k ≤ 60 ∧ Hid (Pr W wr dv dw Sv Sw C C' A A' g g' (some ⟨b, off, none⟩) pd Q D)) (fun v11 _ => N - (intOf v11).toNat)
      case atStart => exact ⟨0, rfl, by omega, by omega, unhide HR0⟩
      case round =>
        obtain ⟨k, rfl, hk, hk6, hrel⟩ := hrel
        by_cases hlk : k < N ∧ k < 60
        · obtain ⟨hlk, hl6⟩ := hlk
          have hkD : k < D.length := by rw [unhide HD]; exact hlk
          obtain ⟨bd, od, ed⟩ : ∃ bd od, pd = some ⟨bd, od, none⟩ := by obtain ⟨bd, od, ed, _⟩ := (unhide hrel).d.2 k hkD; exact ⟨bd, od, ed⟩
          obtain ⟨t, ht⟩ : ∃ t, t = D[k] := ⟨_, rfl⟩
          subst ed
          have HT0 := hide (unhide hrel)
          have HCE : Hid (∀ w', Pr W w' dv dw Sv Sw C C' A A' g g' (some ⟨b, off, none⟩) (some ⟨bd, od, none⟩) Q D → w'.cell? ⟨bd, od + k, none⟩ = some (.int .i64 t)) := fun w' hp => by rw [ht]; exact hp.d.num hkD
          clear ht hkD hrel k1 HR0
          have HT0d : Hid (Pr W wr.drew dv dw Sv Sw C C' A A' g g' (some ⟨b, off, none⟩) (some ⟨bd, od, none⟩) Q D) := (unhide HT0).below (below_drew wr)
          go_upto_region 8 with fail
          refine wp_region_last (n := 33) (S := fun W' => W'.cell? ⟨bd, od + k, none⟩ = some (.int .i64 t)) (by kernel_rfl) (by exact unhide HCE _ (unhide HT0d)) (fun hHeld => ?_)
          refine tkW 0 ?_; refine tkW 1 ?_; refine tkW 2 ?_; refine tkW 3 ?_; refine tkW 4 ?_; refine tkN 5 ?_
          refine tkW 7 ?_; refine tkW 8 ?_; refine tkW 9 ?_; refine tkW 10 ?_; refine tkW 11 ?_; refine tkN 12 ?_
          have dC := hide (at_vw (unhide HT0d).v (unhide HT0d).st (unhide HSM) t)
          unfold ptr at dC
          refine wpAnyL_one (i := 6) (by kernel_rfl) rfl (fun KK hK => ?_)
          go_simp
          go_wp2_with (first | (go_at_call 17; refine (unhide dC).mono ?_; rintro e w2 ⟨rfl, hb2⟩))
          have HT1 := hide ((unhide HT0d).below hb2)
          clear hb2
          refine hK.out _ _ (by exact unhide HCE _ (unhide HT1)) (fun hHeld => ?_)
          clear hK KK dC
          have dC := hide (at_vw (unhide HT1).u (unhide HT1).st (unhide HSM) t)
          rw [← (unhide HA).ages] at dC
          unfold ptr at dC
          refine wpAnyL_one (i := 13) (by kernel_rfl) rfl (fun KK hK => ?_)
          go_simp
          go_wp2_with (first | (go_at_call 17; refine (unhide dC).mono ?_; rintro e w3 ⟨rfl, hb3⟩))
          have HT2 := hide ((unhide HT1).below hb3)
          clear hb3
          refine hK.out _ _ (by exact unhide HCE _ (unhide HT2)) (fun hHeld => ?_)
          clear hK KK dC
          unfold ag5
          refine tkW 14 ?_; refine tkW 15 ?_
          refine tkW 16 ?_; refine tkW 17 ?_; refine tkW 18 ?_; refine tkW 19 ?_; refine tkW 20 ?_; refine tkN 21 ?_
          refine tkW 23 ?_; refine tkW 24 ?_; refine tkW 25 ?_; refine tkW 26 ?_; refine tkW 27 ?_; refine tkN 28 ?_
          have dC := hide (open_vw (unhide HT2).v (unhide HT2).st (unhide HSM) t)
          unfold ptr at dC
          refine wpAnyL_one (i := 22) (by kernel_rfl) rfl (fun KK hK => ?_)
          go_simp
          go_wp2_with (first | (go_at_call 30; refine (unhide dC).mono ?_; rintro e w6 ⟨p6, c6, R6, rfl, hop6, hL6, hb6, hn6⟩))
          have HT3 := hide ((unhide HT2).below hb6)
          have HL6 := hide hL6; have HO6 := hide hop6; have HN6 := hide hn6
          clear hb6 hL6 hop6 hn6
          refine hK.out _ _ (by exact unhide HCE _ (unhide HT3)) (fun hHeld => ?_)
          clear hK KK dC
          have dC := hide (open_vw (unhide HT3).u (unhide HT3).st (unhide HSM) t)
          unfold ptr at dC
          refine wpAnyL_one (i := 29) (by kernel_rfl) rfl (fun KK hK => ?_)
          go_simp
          go_wp2_with (first | (go_at_call 30; refine (unhide dC).mono ?_; rintro e w7 ⟨p7, c7, R7, rfl, hop7, hL7, hb7, hn7⟩))
          have HT4 := hide ((unhide HT3).below hb7)
          have HL67 := hide ((unhide HL6).below hb7)
          have hRR := (unhide HA).opens _ _ _ _ (unhide HO6) hop7
          subst hRR
          have HL7 := hide hL7
          clear hb7 hL7 hop7 hn7
          refine hK.out _ _ (by exact unhide HCE _ (unhide HT4)) (fun hHeld => ?_)
          clear hK KK dC
          have dC := hide (sameC_any (W := w7) (p1 := p6) (p2 := p7) (c1 := c6) (c2 := c7) rfl (by have := unhide HN6; omega) (unhide HL67) (unhide HL7))
          unfold ptr at dC
          refine wpAnyL_one (i := 30) (by kernel_rfl) rfl (fun KK hK => ?_)
          go_simp
          go_wp2_with (first | (go_at_call 29; refine (unhide dC).mono ?_; rintro e w8 ⟨rfl, hw8⟩; have HW8 := hide hw8; clear hw8))
          have HT5 := hide ((unhide HT4).below (w' := w8) (by obtain ⟨m8, hw8⟩ := unhide HW8; rw [hw8]; exact below_drewN _ _))
          refine hK.out _ _ (by exact unhide HCE _ (unhide HT5)) (fun hHeld => ?_)
          clear hK KK dC
          refine tkW 31 ?_; refine tkW 32 ?_
          refine wpAnyL_done (by kernel_rfl) ?_
          clear hHeld
          go_wp2_with fail
          go_round
          case rel => exact ⟨k + 1, by push_cast; rfl, by omega, by omega, unhide HT5⟩
          case measure => simp only [intOf]; omega
        · have HF := hide (unhide hrel)
          clear hrel
          by_cases hkN : k < N
          · have hk60 : ¬ (k < 60) := by omega
            go_wp2_with fail
            go_round
            case rel => exact ⟨i + 1, by push_cast; rfl, by omega, unhide HF⟩
            case measure => simp only [intOf]; omega
          · go_wp2_with fail
            go_round
            case rel => exact ⟨i + 1, by push_cast; rfl, by omega, unhide HF⟩
            case measure => simp only [intOf]; omega
    · go_wp2_with fail
      go_ret
      exact ⟨rfl, (unhide hrel).bel⟩
end Go.Proofs.YtildpgfhahmgmaaDoor
/- AgedOrder: the same invoices and allotments in another order, in plain words. -/
namespace Go.Proofs.YtildpgfhahmgmaaDoor
open Go Go.Shelf Go.ChangeShapes Go.WideShapes Go.ChangeAt Go.RowKit Go.Maps
set_option linter.unusedVariables false
theorem sumTo_perm {P P' : Pts} (h : P.Perm P') (t : Int) : sumTo P t = sumTo P' t := by
  induction h with
  | nil => rfl
  | cons x _ ih => rw [sumTo_cons, sumTo_cons, ih]
  | swap x y l => simp only [sumTo_cons]; omega
  | trans _ _ h1 h2 => exact h1.trans h2
theorem sumAll_cons (p : Int × Int) (P : Pts) : sumAll (p :: P) = p.2 + sumAll P := rfl
theorem sumAll_perm {P P' : Pts} (h : P.Perm P') : sumAll P = sumAll P' := by
  induction h with
  | nil => rfl
  | cons x _ ih => rw [sumAll_cons, sumAll_cons, ih]
  | swap x y l => simp only [sumAll_cons]; omega
  | trans _ _ h1 h2 => exact h1.trans h2
theorem shr_perm {P P' : Pts} (h : P.Perm P') (c : Cl) (t : Int) : shr c P t = shr c P' t := by
  unfold shr
  rw [sumTo_perm h]
def Same (C : List Cl) (A A' : List Al) : Prop := ∀ c ∈ C, (ptsOf A c.key.data.toList).Perm (ptsOf A' c.key.data.toList)
theorem fold_perm (f : Cl → Int) {L L' : List Cl} (h : L.Perm L') : L.foldr (fun c x => f c + x) 0 = L'.foldr (fun c x => f c + x) 0 := by
  induction h with
  | nil => rfl
  | cons x _ ih => rw [List.foldr_cons, List.foldr_cons, ih]
  | swap x y l => simp only [List.foldr_cons]; omega
  | trans _ _ h1 h2 => exact h1.trans h2
theorem fold_congr {f f' : Cl → Int} {L : List Cl} (h : ∀ c ∈ L, f c = f' c) : L.foldr (fun c x => f c + x) 0 = L.foldr (fun c x => f' c + x) 0 := by
  induction L with
  | nil => rfl
  | cons c L ih => rw [List.foldr_cons, List.foldr_cons, ih (fun x hx => h x (List.mem_cons_of_mem _ hx)), h c List.mem_cons_self]
theorem ageS_same {C C' : List Cl} {A A' : List Al} (hC : C.Perm C') (hA : Same C A A') (k : List UInt8) (t : Int) (j : Nat) : ageS C A k t j = ageS C' A' k t j := by
  unfold ageS
  have hp : (ofC C k).Perm (ofC C' k) := hC.filter _
  rw [← fold_perm (fun c => con (shr c (ptsOf A' c.key.data.toList) t) j) hp]
  exact fold_congr fun c hc => by
    have hc' : c ∈ C := (List.mem_filter.1 hc).1
    rw [shr_perm (hA c hc')]
theorem opn_same {C C' : List Cl} {A A' : List Al} (hC : C.Perm C') (hA : Same C A A') (k : List UInt8) (t : Int) : (opn C A k t).Perm (opn C' A' k t) := by
  unfold opn
  split
  · have e : (ofC C k).filterMap (tel A t) = (ofC C k).filterMap (tel A' t) := filterMap_congr' (fun c hc => by
      unfold tel
      rw [shr_perm (hA c (List.mem_filter.1 hc).1)])
    rw [e]
    exact List.Perm.filterMap _ (hC.filter _)
  · exact .nil
theorem alk_of {C C' : List Cl} {A A' : List Al} {g : Int} (hG : Good C A g) (hC : C.Perm C') (hA : Same C A A') : Alk C C' A A' :=
  ⟨fun k t => funext fun j => by
    unfold atS
    rw [ageS_same hC hA], fun k t R R' h h' => hG.open_same h ⟨h'.perm.trans (opn_same hC hA k t).symm, h'.sort⟩⟩
theorem sumC_perm {C C' : List Cl} (h : C.Perm C') : sumC C = sumC C' := fold_perm (fun c => c.amt) h
theorem Good.perm {C C' : List Cl} {A : List Al} {g : Int} (h : Good C A g) (hp : C.Perm C') : Good C' A g :=
  ⟨fun c hc => h.ok c (hp.mem_iff.2 hc), (hp.map _).nodup_iff.1 h.key, by rw [← hp.length_eq]; exact h.l1, h.l2, by rw [← sumC_perm hp]; exact h.tot, fun a ha => by
    obtain ⟨h1, h2, c, hc, h3⟩ := h.al a ha
    exact ⟨h1, h2, c, hp.mem_iff.1 hc, h3⟩, fun c hc => h.sum c (hp.mem_iff.2 hc), h.g⟩
/-- a list turned -/
def trnC (C : List Cl) (t : Nat) : List Cl := C.drop (t % C.length) ++ C.take (t % C.length)
theorem trnC_perm (C : List Cl) (t : Nat) : C.Perm (trnC C t) := by
  have h : (C.drop (t % C.length) ++ C.take (t % C.length)).Perm (C.take (t % C.length) ++ C.drop (t % C.length)) := List.perm_append_comm
  rw [List.take_append_drop] at h
  exact h.symm
theorem trnC_get (C : List Cl) (t n : Nat) (hn : C.length = n) (j : Nat) (h : j < (trnC C t).length) (h2 : (j + t) % n < C.length) : (trnC C t)[j] = C[(j + t) % n] := by
  subst hn
  have hl : (trnC C t).length = C.length := (trnC_perm C t).length_eq.symm
  have hj : j < C.length := by omega
  have hr : t % C.length < C.length := Nat.mod_lt _ (by omega)
  have e1 : (j + t) % C.length = (j + t % C.length) % C.length := by rw [Nat.add_mod_mod]
  have hld : (C.drop (t % C.length)).length = C.length - t % C.length := List.length_drop
  have key : ∀ r (hr' : r < C.length), t % C.length = r → (trnC C t)[j]? = C[(j + r) % C.length]? := fun r hr' e => by
    unfold trnC
    rw [e] at hld ⊢
    by_cases hlt : j < C.length - r
    · rw [List.getElem?_append_left (by omega), List.getElem?_drop, Nat.mod_eq_of_lt (by omega), Nat.add_comm]
    · rw [List.getElem?_append_right (by omega), hld, List.getElem?_take_of_lt (by omega)]
      congr 1
      rw [Nat.mod_eq_sub_mod (by omega), Nat.mod_eq_of_lt (by omega)]
      omega
  have h3 := key _ hr rfl
  rw [← e1, List.getElem?_eq_getElem h, List.getElem?_eq_getElem h2] at h3
  exact Option.some.inj h3
/-- the allotments of one key -/
def fK (A : List Al) (s : List UInt8) : List Al := A.filter fun a => a.inv.data.toList = s
theorem fK_len (A : List Al) (s : List UInt8) : (fK A s).length ≤ A.length := List.length_filter_le _ _
theorem fK_drop {A : List Al} {s : List UInt8} {k : Nat} (h : k < A.length) : fK (A.drop k) s = if A[k].inv.data.toList = s then A[k] :: fK (A.drop (k + 1)) s else fK (A.drop (k + 1)) s := by
  unfold fK
  rw [List.drop_eq_getElem_cons h, List.filter_cons]
  by_cases e : A[k].inv.data.toList = s
  · rw [if_pos (by simpa using e), if_pos e]
  · rw [if_neg (by simpa using e), if_neg e]
/-- the allotments of some invoices, those of each the last one first -/
def awS (A : List Al) (L : List Cl) : List Al := L.flatMap fun c => (fK A c.key.data.toList).reverse
theorem awS_succ (A : List Al) {L : List Cl} {i : Nat} (h : i < L.length) : awS A (L.take (i + 1)) = awS A (L.take i) ++ (fK A L[i].key.data.toList).reverse := by
  unfold awS
  rw [List.take_succ_eq_append_getElem h, List.flatMap_append]
  simp
theorem pts_rev (A : List Al) (s : List UInt8) : ptsOf A.reverse s = (ptsOf A s).reverse := by
  unfold ptsOf
  rw [List.filter_reverse, List.map_reverse]
theorem pts_fK (A : List Al) (s : List UInt8) : ptsOf (fK A s) s = ptsOf A s := by
  unfold ptsOf fK
  rw [List.filter_filter]
  simp
theorem pts_else (A : List Al) {s s' : List UInt8} (h : s ≠ s') : ptsOf (fK A s) s' = [] := by
  unfold ptsOf fK
  rw [List.filter_filter, List.map_eq_nil_iff, List.filter_eq_nil_iff]
  intro a _ hx
  simp at hx
  exact h (hx.2.symm.trans hx.1)
theorem aw_none (A : List Al) {L : List Cl} {s : List UInt8} (h : ∀ c ∈ L, c.key.data.toList ≠ s) : ptsOf (awS A L) s = [] := by
  induction L with
  | nil => rfl
  | cons c L ih =>
    have e : awS A (c :: L) = (fK A c.key.data.toList).reverse ++ awS A L := by simp [awS]
    rw [e, ptsOf_append, pts_rev, pts_else A (h c List.mem_cons_self), ih (fun x hx => h x (List.mem_cons_of_mem _ hx))]
    rfl
theorem aw_pts (A : List Al) {L : List Cl} (hn : (L.map fun c => c.key.data.toList).Nodup) {c : Cl} (hc : c ∈ L) : ptsOf (awS A L) c.key.data.toList = (ptsOf A c.key.data.toList).reverse := by
  induction L with
  | nil => cases hc
  | cons x L ih =>
    have e : awS A (x :: L) = (fK A x.key.data.toList).reverse ++ awS A L := by simp [awS]
    rw [List.map_cons, List.nodup_cons] at hn
    rw [e, ptsOf_append, pts_rev]
    rcases List.mem_cons.1 hc with rfl | hc
    · rw [pts_fK, aw_none A (fun y hy h => hn.1 (List.mem_map.2 ⟨y, hy, h⟩)), List.append_nil]
    · have hne : x.key.data.toList ≠ c.key.data.toList := fun h => hn.1 (List.mem_map.2 ⟨c, hc, h.symm⟩)
      rw [pts_else A hne, ih hn.2 hc]
      rfl
theorem fil_len (A : List Al) (p : Al → Bool) : (A.filter p).length + (A.filter fun a => !p a).length = A.length := by
  induction A with
  | nil => rfl
  | cons a A ih =>
    rw [List.filter_cons, List.filter_cons, List.length_cons]
    cases p a <;> simp <;> omega
theorem aw_len (A : List Al) {L : List Cl} (hn : (L.map fun c => c.key.data.toList).Nodup) : (awS A L).length ≤ A.length := by
  induction L generalizing A with
  | nil => exact Nat.zero_le _
  | cons x L ih =>
    have e : awS A (x :: L) = (fK A x.key.data.toList).reverse ++ awS A L := by simp [awS]
    rw [List.map_cons, List.nodup_cons] at hn
    have e2 : awS A L = awS (A.filter fun a => !decide (a.inv.data.toList = x.key.data.toList)) L := by
      unfold awS
      have hc : ∀ c ∈ L, (fK A c.key.data.toList).reverse = (fK (A.filter fun a => !decide (a.inv.data.toList = x.key.data.toList)) c.key.data.toList).reverse := fun c hc => by
        congr 1
        unfold fK
        rw [List.filter_filter]
        refine List.filter_congr fun a _ => ?_
        by_cases h : a.inv.data.toList = c.key.data.toList
        · have hne : a.inv.data.toList ≠ x.key.data.toList := fun h2 => hn.1 (List.mem_map.2 ⟨c, hc, h.symm.trans h2⟩)
          simp [h]
          exact fun h2 => hne (h.trans (by rw [h2]))
        · simp [h]
      rw [List.flatMap_def, List.flatMap_def, List.map_congr_left hc]
    have h1 := ih (A.filter fun a => !decide (a.inv.data.toList = x.key.data.toList)) hn.2
    have h2 := fil_len A (fun a => decide (a.inv.data.toList = x.key.data.toList))
    rw [e, List.length_append, List.length_reverse, e2]
    have h3 : (fK A x.key.data.toList).length = (A.filter fun a => decide (a.inv.data.toList = x.key.data.toList)).length := rfl
    omega
theorem or_all0 {C Cx : List Cl} {A Aw : List Al} {g0 g : Int} (hG : Good C A g0) (hGx : Good Cx Aw g) {x : Cl} (hx : x ∈ Cx) (hxC : x ∈ C) {k : Nat} (hk : k < A.length) (hs : A[k].inv.data.toList = x.key.data.toList) (hl : Aw.length < 1000) (hp : ptsOf Aw x.key.data.toList = (ptsOf (A.drop (k + 1)) x.key.data.toList).reverse) : allS Cx Aw A[k] = 0 := by
  obtain ⟨h1, h2, c, hc, h3, h4⟩ := hG.al A[k] (List.getElem_mem hk)
  have hcx : c = x := by
    have e1 := hG.find hc
    rw [h3, hs, hG.find hxC] at e1
    exact (Option.some.inj e1).symm
  subst hcx
  have hd := (hG.ok c hc).d1
  unfold allS
  rw [if_neg (fun hx => hx ⟨dayB_of (by omega) h2, by omega⟩), if_neg (by omega), ← h3, hGx.find hx]
  show (if A[k].day < c.day then (66 : Int) else if A[k].amt > c.amt - sumAll (ptsOf Aw c.key.data.toList) then 75 else 0) = 0
  have e : A = A.take k ++ ([A[k]] ++ A.drop (k + 1)) := by
    rw [List.singleton_append, ← List.drop_eq_getElem_cons hk, List.take_append_drop]
  have h5 : ptsOf A c.key.data.toList = ptsOf (A.take k) c.key.data.toList ++ (ptsOf [A[k]] c.key.data.toList ++ ptsOf (A.drop (k + 1)) c.key.data.toList) := by
    conv => lhs; rw [e]
    rw [ptsOf_append, ptsOf_append]
  have h6 : ptsOf [A[k]] c.key.data.toList = [(A[k].day, A[k].amt)] := by rw [ptsOf_one, if_pos hs]
  have h7 : 0 ≤ sumAll (ptsOf (A.take k) c.key.data.toList) := sumAll_nonneg fun x hx => by
    unfold ptsOf at hx
    obtain ⟨a, ha, rfl⟩ := List.mem_map.1 hx
    exact (hG.al a (List.mem_of_mem_take (List.mem_filter.1 ha).1)).1
  have h8 := hG.sum c hc
  rw [h5, h6, sumAll_append, sumAll_append, sumAll_one] at h8
  have h9 : sumAll (ptsOf Aw c.key.data.toList) = sumAll (ptsOf (A.drop (k + 1)) c.key.data.toList) := by rw [hp]; exact sumAll_perm (List.reverse_perm _)
  have h10 : ((A[k].day, A[k].amt) : Int × Int).2 = A[k].amt := rfl
  rw [h10] at h8
  rw [if_neg (by omega), if_neg (by omega)]
end Go.Proofs.YtildpgfhahmgmaaDoor
/- AgedOrder: the view that is made the other way round; three views side by side. -/
namespace Go.Proofs.YtildpgfhahmgmaaDoor
open Go Go.Shelf Go.ChangeShapes Go.WideShapes Go.ChangeAt Go.RowKit Go.Maps
set_option linter.unusedVariables false
def clO (x : Cl) : Obj := .cells #[.string x.key, .string x.acc, .int .i64 x.day, .int .i64 x.due, .int .i64 x.amt] 37 (0, 0)
def clZ : Obj := .cells #[.string ⟨#[]⟩, .string ⟨#[]⟩, .int .i64 0, .int .i64 0, .int .i64 0] 37 (0, 0)
theorem thereZ {w : World} {b : Nat} (h : w.heap[b]? = some clZ) : w.there b 0 5 := fun j hj => by
  unfold clZ at h
  have : j = 0 ∨ j = 1 ∨ j = 2 ∨ j = 3 ∨ j = 4 := by omega
  rcases this with rfl | rfl | rfl | rfl | rfl <;> simp [World.cell?, World.frozen?, h]
theorem setO {w : World} {b : Nat} (h : w.heap[b]? = some clZ) (x : Cl) : (w.setCells b 0 x.vals).heap[b]? = some (clO x) := by
  unfold clZ at h
  show (((((w.setCell ⟨b, 0, none⟩ _).setCell ⟨b, 0 + 1, none⟩ _).setCell ⟨b, 0 + 1 + 1, none⟩ _).setCell ⟨b, 0 + 1 + 1 + 1, none⟩ _).setCell ⟨b, 0 + 1 + 1 + 1 + 1, none⟩ _).heap[b]? = _
  rw [Go.heap_setCell_same _ _ _ _ _ _ (Go.heap_setCell_same _ _ _ _ _ _ (Go.heap_setCell_same _ _ _ _ _ _ (Go.heap_setCell_same _ _ _ _ _ _ (Go.heap_setCell_same _ _ _ _ _ _ h))))]
  rfl
theorem ldO {w : World} {b : Nat} {x : Cl} (h : w.heap[b]? = some (clO x)) : (ld37 (.pointer (some ⟨b, 0, none⟩))).run Tryd.prog w = .ok (.agg #[.string x.key, .string x.acc, .int .i64 x.day, .int .i64 x.due, .int .i64 x.amt]) w :=
  run_ld37 (c := x) (fun i v hv => by
    unfold clO at h
    rw [Nat.zero_add, cell_at h]; simpa [Cl.vals] using hv)
/-- the view that is being made, and a claim's block beside it -/
structure Mx (w0 w : World) (bx : Nat) (x : Cl) (C : List Cl) (A : List Al) (g : Int) : Prop where
  ex : ∃ S, Vw w w0.heap.size S C A g ∧ (∀ b, S b → w0.heap.size ≤ b) ∧ ¬ S bx
  bel : Below w0.heap.size w0 w
  box : w.heap[bx]? = some (clO x)
theorem Mx.made {w0 w : World} {bx : Nat} {x : Cl} {C : List Cl} {A : List Al} {g : Int} (h : Mx w0 w bx x C A g) : Made w0 w C A g := by
  obtain ⟨S, h1, h2, _⟩ := h.ex
  exact ⟨⟨S, h1, h2⟩, h.bel⟩
theorem Mx.of {w0 w Y : World} {bx : Nat} {x : Cl} {C : List Cl} {A : List Al} {g : Int} (h : Made w0 w C A g) (hb : Below w.heap.size w Y) (hx : w.heap.size ≤ bx) (hY : Y.heap[bx]? = some (clO x)) : Mx w0 Y bx x C A g := by
  obtain ⟨S, h1, h2⟩ := h.vw
  exact ⟨⟨S, h1.below hb, h2, fun hs => by have := h1.lt bx hs; omega⟩, h.bel.trans (hb.mono h.bel.size), hY⟩
theorem Mx.below {w0 w w' : World} {bx : Nat} {x : Cl} {C : List Cl} {A : List Al} {g : Int} (h : Mx w0 w bx x C A g) (hb : Below w.heap.size w w') : Mx w0 w' bx x C A g := by
  obtain ⟨S, h1, h2, h3⟩ := h.ex
  exact ⟨⟨S, h1.below hb, h2, h3⟩, h.bel.trans (hb.mono h.bel.size), blk_below hb h.box⟩
theorem Mx.next {w0 w w' : World} {bx : Nat} {x : Cl} {C C' : List Cl} {A A' : List Al} {g g' : Int} {S : Nat → Prop} (h : Mx w0 w bx x C A g) (hS : ∀ b, S b → w0.heap.size ≤ b) (hx : ¬ S bx) (hn : VwNext w w' w0.heap.size S C' A' g') : Mx w0 w' bx x C' A' g' := by
  have hbx := hn.blk hx h.box
  obtain ⟨S', h1, h2, h3⟩ := hn
  refine ⟨⟨S', h1, fun b hs => ?_, fun hs => ?_⟩, h.bel.trans (h2.below h.bel.size (fun k hk hs => by have := hS k hs; omega)), hbx⟩
  · rcases h3 b hs with h4 | h4
    · exact hS b h4
    · exact Nat.le_trans h.bel.size h4
  · rcases h3 bx hs with h4 | h4
    · exact hx h4
    · have := heap_lt h.box
      omega
theorem Mx.inv {w0 w : World} {bx : Nat} {x : Cl} {C : List Cl} {A : List Al} {g : Int} (h : Mx w0 w bx x C A g) (hS : Stp w0) (hi : invS C x = 0) (hk : x.key.size ≤ maxLen) (ha : x.acc.size ≤ maxLen) (hm : x.amt ≤ 9223372036854775807) :
    Calls Tryd.prog 25 #[ptr w0.heap.size, .agg #[.string x.key, .string x.acc, .int .i64 x.day, .int .i64 x.due, .int .i64 x.amt]] w fun e w' => e = .returned (.int .i64 0) ∧ Mx w0 w' bx x (C ++ [x]) A g := by
  obtain ⟨S, h1, h2, h3⟩ := h.ex
  refine (invoice_any h1 (hS.below h.bel) hk ha hm).mono ?_
  rintro e w' ⟨rfl, ho⟩
  exact ⟨by rw [hi], h.next h2 h3 (ho.2 hi)⟩
theorem Mx.all {w0 w : World} {bx : Nat} {x : Cl} {C : List Cl} {A : List Al} {g : Int} {a : Al} (h : Mx w0 w bx x C A g) (hS : Stp w0) (hi : allS C A a = 0) (hk : a.inv.size ≤ maxLen) :
    Calls Tryd.prog 26 #[ptr w0.heap.size, .agg #[.string a.pay, .string a.inv, .int .i64 a.day, .int .i64 a.amt]] w fun e w' => e = .returned (.int .i64 0) ∧ Mx w0 w' bx x C (A ++ [a]) g := by
  obtain ⟨S, h1, h2, h3⟩ := h.ex
  refine (allot_any h1 (hS.below h.bel) hk).mono ?_
  rintro e w' ⟨rfl, ho⟩
  exact ⟨by rw [hi], h.next h2 h3 (ho.2 hi)⟩
theorem Mx.adv {w0 w : World} {bx : Nat} {x : Cl} {C : List Cl} {A : List Al} {g t : Int} (h : Mx w0 w bx x C A g) (hS : Stp w0) (h1 : 1 ≤ t) (h2 : t ≤ 3652059) (h3 : 1 + g ≤ t) :
    Calls Tryd.prog 14 #[ptr w0.heap.size, .int .i64 t] w fun e w' => e = .returned (.int .i64 0) ∧ Mx w0 w' bx x C A (t - 1) := by
  obtain ⟨S, k1, k2, k3⟩ := h.ex
  refine (advance_any k1 (hS.below h.bel) t).mono ?_
  rintro e w' ⟨rfl, ho⟩
  have e0 := adv_ok h1 h2 h3
  exact ⟨by rw [e0], h.next k2 k3 (ho.2 e0)⟩
theorem Mx.asOf {w0 w : World} {bx : Nat} {x : Cl} {C : List Cl} {A : List Al} {g : Int} (h : Mx w0 w bx x C A g) : Calls Tryd.prog 15 #[ptr w0.heap.size] w fun e w' => e = .returned (.int .i64 (1 + g)) ∧ w' = w := by
  obtain ⟨S, k1, _⟩ := h.ex
  exact asOf_vw k1
theorem Mx.gb {w0 w : World} {bx : Nat} {x : Cl} {C : List Cl} {A : List Al} {g : Int} (h : Mx w0 w bx x C A g) : 0 ≤ g ∧ g ≤ 3652058 := by
  obtain ⟨S, k1, _⟩ := h.ex
  exact k1.good.g
/-- three views, and the lists -/
structure O3 (W w : World) (Sv Sw Su : Nat → Prop) (dv dw du : Nat) (pc pd : Option Addr) (C Cw R : List Cl) (A Aw : List Al) (D : List Int) (gv gw gu : Int) : Prop where
  v : Vw w dv Sv C A gv
  u : Vw w dw Sw Cw Aw gw
  x : Vw w du Su R A gu
  vw : ∀ b, Sv b → ¬ Sw b
  vx : ∀ b, Sv b → ¬ Su b
  wx : ∀ b, Su b → ¬ Sw b
  bel : Below W.heap.size W w
  gev : ∀ b, Sv b → W.heap.size ≤ b
  gex : ∀ b, Su b → W.heap.size ≤ b
  c : Lies kC w pc C
  d : Lies kI w pd D
  nc : ∀ b off, pc = some ⟨b, off, none⟩ → C ≠ [] → ¬ Sv b ∧ ¬ Su b
  nd : ∀ b off, pd = some ⟨b, off, none⟩ → D ≠ [] → ¬ Sv b ∧ ¬ Su b
theorem Lies.fr2 {α : Type} {K : Kd α} {w w' : World} {p : Option Addr} {L : List α} {X : Nat → Prop} (h : Lies K w p L) (hf : Fr w w' X) (hx : ∀ b off, p = some ⟨b, off, none⟩ → L ≠ [] → ¬ X b) : Lies K w' p L :=
  ⟨h.1, fun k hk => by
    obtain ⟨b, off, e, hl, hr⟩ := h.2 k hk
    exact ⟨b, off, e, Nat.lt_of_lt_of_le hl hf.size, fun j u hu => (World.cell?_of_block (a := ⟨b, off + k * K.s + j, none⟩) (hf.block b hl (hx b off e (fun h0 => by rw [h0] at hk; simp at hk)))).trans (hr j u hu)⟩⟩
theorem O3.below {W w w' : World} {Sv Sw Su : Nat → Prop} {dv dw du : Nat} {pc pd : Option Addr} {C Cw R : List Cl} {A Aw : List Al} {D : List Int} {gv gw gu : Int} (h : O3 W w Sv Sw Su dv dw du pc pd C Cw R A Aw D gv gw gu) (hb : Below w.heap.size w w') : O3 W w' Sv Sw Su dv dw du pc pd C Cw R A Aw D gv gw gu :=
  ⟨h.v.below hb, h.u.below hb, h.x.below hb, h.vw, h.vx, h.wx, h.bel.trans (hb.mono h.bel.size), h.gev, h.gex, h.c.below hb, h.d.below hb, h.nc, h.nd⟩
theorem lies_lt {α : Type} {K : Kd α} {w : World} {p : Option Addr} {L : List α} (h : Lies K w p L) {b off : Nat} (e : p = some ⟨b, off, none⟩) (h0 : L ≠ []) : b < w.heap.size := by
  obtain ⟨b', off', e', hl, _⟩ := h.2 0 (List.length_pos_iff.2 h0)
  rw [e] at e'
  cases e'
  exact hl
theorem O3.advV {W w : World} {Sv Sw Su : Nat → Prop} {dv dw du : Nat} {pc pd : Option Addr} {C Cw R : List Cl} {A Aw : List Al} {D : List Int} {gv gw gu t : Int} (h : O3 W w Sv Sw Su dv dw du pc pd C Cw R A Aw D gv gw gu) (hS : Stp W) (h1 : 1 ≤ t) (h2 : t ≤ 3652059) (h3 : 1 + gv ≤ t) :
    Calls Tryd.prog 14 #[ptr dv, .int .i64 t] w fun e w' => e = .returned (.int .i64 0) ∧ ∃ Sv', O3 W w' Sv' Sw Su dv dw du pc pd C Cw R A Aw D (t - 1) gw gu := by
  refine (advance_any h.v (hS.below h.bel) t).mono ?_
  rintro e w' ⟨rfl, ho⟩
  have e0 := adv_ok h1 h2 h3
  obtain ⟨S', k1, k2, k3⟩ := ho.2 e0
  refine ⟨by rw [e0], S', k1, h.u.fr k2 (fun b hw hv => h.vw b hv hw), h.x.fr k2 (fun b hw hv => h.vx b hv hw), fun b hs hw => ?_, fun b hs hw => ?_, h.wx, h.bel.trans (k2.below h.bel.size (fun k hk hs => by have := h.gev k hs; omega)), fun b hs => ?_, h.gex, h.c.fr2 k2 (fun b off e h0 => (h.nc b off e h0).1), h.d.fr2 k2 (fun b off e h0 => (h.nd b off e h0).1), fun b off e h0 => ⟨fun hs => ?_, (h.nc b off e h0).2⟩, fun b off e h0 => ⟨fun hs => ?_, (h.nd b off e h0).2⟩⟩
  · rcases k3 b hs with h4 | h4
    · exact h.vw b h4 hw
    · have := h.u.lt b hw; omega
  · rcases k3 b hs with h4 | h4
    · exact h.vx b h4 hw
    · have := h.x.lt b hw; omega
  · rcases k3 b hs with h4 | h4
    · exact h.gev b h4
    · exact Nat.le_trans h.bel.size h4
  · rcases k3 b hs with h4 | h4
    · exact (h.nc b off e h0).1 h4
    · have := lies_lt h.c e h0; omega
  · rcases k3 b hs with h4 | h4
    · exact (h.nd b off e h0).1 h4
    · have := lies_lt h.d e h0; omega
theorem O3.advX {W w : World} {Sv Sw Su : Nat → Prop} {dv dw du : Nat} {pc pd : Option Addr} {C Cw R : List Cl} {A Aw : List Al} {D : List Int} {gv gw gu t : Int} (h : O3 W w Sv Sw Su dv dw du pc pd C Cw R A Aw D gv gw gu) (hS : Stp W) (h1 : 1 ≤ t) (h2 : t ≤ 3652059) (h3 : 1 + gu ≤ t) :
    Calls Tryd.prog 14 #[ptr du, .int .i64 t] w fun e w' => e = .returned (.int .i64 0) ∧ ∃ Su', O3 W w' Sv Sw Su' dv dw du pc pd C Cw R A Aw D gv gw (t - 1) := by
  refine (advance_any h.x (hS.below h.bel) t).mono ?_
  rintro e w' ⟨rfl, ho⟩
  have e0 := adv_ok h1 h2 h3
  obtain ⟨S', k1, k2, k3⟩ := ho.2 e0
  refine ⟨by rw [e0], S', h.v.fr k2 (fun b hv hx => h.vx b hv hx), h.u.fr k2 (fun b hw hx => h.wx b hx hw), k1, h.vw, fun b hv hs => ?_, fun b hs hw => ?_, h.bel.trans (k2.below h.bel.size (fun k hk hs => by have := h.gex k hs; omega)), h.gev, fun b hs => ?_, h.c.fr2 k2 (fun b off e h0 => (h.nc b off e h0).2), h.d.fr2 k2 (fun b off e h0 => (h.nd b off e h0).2), fun b off e h0 => ⟨(h.nc b off e h0).1, fun hs => ?_⟩, fun b off e h0 => ⟨(h.nd b off e h0).1, fun hs => ?_⟩⟩
  · rcases k3 b hs with h4 | h4
    · exact h.vx b hv h4
    · have := h.v.lt b hv; omega
  · rcases k3 b hs with h4 | h4
    · exact h.wx b h4 hw
    · have := h.u.lt b hw; omega
  · rcases k3 b hs with h4 | h4
    · exact h.gex b h4
    · exact Nat.le_trans h.bel.size h4
  · rcases k3 b hs with h4 | h4
    · exact (h.nc b off e h0).2 h4
    · have := lies_lt h.c e h0; omega
  · rcases k3 b hs with h4 | h4
    · exact (h.nd b off e h0).2 h4
    · have := lies_lt h.d e h0; omega
theorem O3.of {W w0 wr w5 w6 w7 : World} {dv : Nat} {pc pa pd : Option Addr} {C Cw R : List Cl} {A Aw : List Al} {D : List Int} {gw : Int} (hsv : Sv W w0 dv pc pa C A 0) (hM : Made w0 wr Cw Aw gw) (h5 : Below wr.heap.size wr w5) (hD : Lies kI w5 pd D) (hDn : ∀ a, pd = some a → wr.heap.size ≤ a.block) (h6 : Below w5.heap.size w5 w6) (hU : Made w6 w7 R A 0) :
    ∃ Sv Sw Su, O3 W w7 Sv Sw Su dv w0.heap.size w6.heap.size pc pd C Cw R A Aw D 0 gw 0 := by
  obtain ⟨Sv, v1, v2⟩ := hsv.ex
  obtain ⟨Sw, u1, u2⟩ := hM.vw
  obtain ⟨Su, x1, x2⟩ := hU.vw
  have hb6 : Below wr.heap.size wr w6 := h5.trans (h6.mono h5.size)
  have hb7 : Below wr.heap.size wr w7 := hb6.trans (hU.bel.mono hb6.size)
  have hb0 : Below w0.heap.size w0 w7 := hM.bel.trans (hb7.mono hM.bel.size)
  have s1 := hM.bel.size; have s2 := h5.size; have s3 := h6.size; have s4 := hsv.bel.size
  refine ⟨Sv, Sw, Su, v1.below hb0, u1.below hb7, x1, fun b hv hw => ?_, fun b hv hx => ?_, fun b hx hw => ?_, hsv.bel.trans (hb0.mono s4), fun b hv => ?_, fun b hx => ?_, hsv.lies.1.below hb0, (hD.below h6).below hU.bel, fun b off e h0 => ⟨fun hv => ?_, fun hx => ?_⟩, fun b off e h0 => ⟨fun hv => ?_, fun hx => ?_⟩⟩
  · have := v1.lt b hv; have := u2 b hw; omega
  · have := v1.lt b hv; have := x2 b hx; omega
  · have := u1.lt b hw; have := x2 b hx; omega
  · have := v2 b hv; have := hsv.ge; omega
  · have := x2 b hx; omega
  · obtain ⟨b', off', e', hl, _⟩ := hsv.c 0 (List.length_pos_iff.2 h0)
    rw [e] at e'
    cases e'
    have := v2 b hv
    omega
  · have := lies_lt hsv.lies.1 e h0; have := x2 b hx; omega
  · have := hDn _ e; have := v1.lt b hv; simp only at *; omega
  · have := lies_lt hD e h0; have := x2 b hx; omega
end Go.Proofs.YtildpgfhahmgmaaDoor
/- AgedOrder (5): the walk. -/
namespace Go.Proofs.YtildpgfhahmgmaaDoor
open Go Go.Shelf Go.ChangeShapes Go.WideShapes Go.ChangeAt Go.RowKit Go.Maps
set_option linter.unusedVariables false
theorem Mkd.m3 {W w : World} {pc pa : Option Addr} {n m : Nat} {C : List Cl} {A : List Al} (h : Mkd W w pc pa n m C A) : m ≤ 300 := by
  obtain ⟨L, h1, h2, h3⟩ := h.ux
  have h4 := alP_len (C := C) (L := L) (fun c hc => by have := (h.c9 c hc).1.1; omega) n (by rw [h.cn]; exact Nat.le_refl _) h1
  rw [← h3, h.am] at h4
  have := h.n5
  omega
theorem Mkd.dsC' {W w : World} {pc pa : Option Addr} {n m : Nat} {C : List Cl} {A : List Al} (h : Mkd W w pc pa n m C A) : ∀ c ∈ C, (0 ≤ c.day ∧ c.day ≤ 1000000000) ∧ (0 ≤ c.due ∧ c.due ≤ 1000000000) := fun c hc => by
  have h1 := h.good.ok c hc
  have := h1.d1; have := h1.d2; have := h1.d3
  omega
theorem Mkd.dsA' {W w : World} {pc pa : Option Addr} {n m : Nat} {C : List Cl} {A : List Al} (h : Mkd W w pc pa n m C A) : ∀ a ∈ A, 0 ≤ a.day ∧ a.day ≤ 1000000000 := fun a ha => by
  obtain ⟨_, h2, c, hc, _, h4⟩ := h.good.al a ha
  have := (h.good.ok c hc).d1
  omega
/-- the allotments of the invoice that was told last, so far -/
def awI (A : List Al) (L : List Cl) (x : Cl) (k : Nat) : List Al := awS A L ++ (fK (A.drop k) x.key.data.toList).reverse
theorem awI_none (A : List Al) (L : List Cl) (x : Cl) {k : Nat} (h : A.length ≤ k) : awI A L x k = awS A L := by
  unfold awI
  rw [List.drop_of_length_le h]
  simp [fK]
theorem awI_all (A : List Al) {L : List Cl} {i : Nat} (h : i < L.length) : awI A (L.take i) L[i] 0 = awS A (L.take (i + 1)) := by
  unfold awI
  rw [awS_succ A h, List.drop_zero]
theorem awI_pts {C : List Cl} {A : List Al} (hn : (C.map fun c => c.key.data.toList).Nodup) {i : Nat} (hi : i < C.length) (k : Nat) : ptsOf (awI A (C.take i) C[i] k) C[i].key.data.toList = (ptsOf (A.drop k) C[i].key.data.toList).reverse := by
  unfold awI
  rw [ptsOf_append, pts_rev, pts_fK, aw_none, List.nil_append]
  intro c hc e
  obtain ⟨j, hj, ej⟩ := List.mem_iff_getElem.1 hc
  rw [List.length_take] at hj
  rw [List.nodup_iff_pairwise_ne, List.pairwise_map, List.pairwise_iff_getElem] at hn
  rw [List.getElem_take] at ej
  exact hn j i (by omega) hi (by omega) (by rw [ej]; exact e)
theorem awI_len {C : List Cl} {A : List Al} (hn : (C.map fun c => c.key.data.toList).Nodup) (h3 : A.length ≤ 300) (i k : Nat) (x : Cl) : (awI A (C.take i) x k).length < 1000 := by
  unfold awI
  have h1 := aw_len A (L := C.take i) (hn.sublist ((List.take_sublist i C).map _))
  have h2 := fK_len (A.drop k) x.key.data.toList
  rw [List.length_drop] at h2
  rw [List.length_append, List.length_reverse]
  omega
attribute [local go_sem ↓] ld37_is st37_is ld51_is
set_option maxRecDepth 100000 in
set_option maxHeartbeats 32000000 in
theorem walk_AgedOrder {W : World} (hS : Stp W) {pu : Option Addr} {K cu : Nat} {L : List Dl} (hK : L.length = K) (hm : K ≤ maxLen) (hL : DlsIn W pu L) (ha : ∀ d ∈ L, d.acc.size ≤ maxLen) (hP : ∀ d ∈ L, PtsIn W d ∧ d.np ≤ maxLen) {pm : Option Addr} {kM cm : Nat} {M : List Int} (hM : Lies kI W pm M) (hkn : M.length = kM) (hcm : pm = none → cm = 0) (hk1 : kM ≤ 17592186043904) (at0 : Int) :
    Calls Tryd.prog 5 #[.slice pu K cu, .slice pm kM cm, .int .i64 at0] W fun e w' => e = .returned (.bool true) ∧ Below W.heap.size W w' := by
  have dC := hide (claims_any (cu := cu) hK hL hm)
  have dI := hide into_any; have dM := hide num_any
  have HS := hide hS; have HL := hide hL; have HK := hide hK; have HM := hide hm; have HA := hide ha; have HP := hide hP; have HMM := hide hM; have HKN := hide hkn; have HCM := hide hcm; have HK1 := hide hk1
  have hst := arr39; have heg := eg39; have heq := eq39_same
  obtain ⟨N, hN⟩ : ∃ N, N = min K 50 := ⟨_, rfl⟩
  rw [← hN] at dC
  have hNK : N ≤ K := by omega
  have hN5 : N ≤ 50 := by omega
  have hkMb : kM ≤ 9223372036854775807 := by omega
  obtain ⟨T, hT⟩ : ∃ T : Nat, (T : Int) = intoS at0 0 49 := ⟨(intoS at0 0 49).toNat, Int.toNat_of_nonneg (into_bounds at0 (by omega)).1⟩
  have hTb := (into_bounds at0 (lo := 0) (hi := 49) (by omega)).2
  rw [← hT] at hTb
  have hT9 : T ≤ 49 := by omega
  have HT := hide hT
  clear hS hL hK hm ha hP hN hM hkn hcm hk1 hT hTb
  go_enter Tryd.func5, Tryd.ntmps5
  go_wp2_with fail
  refine (unhide dC).mono ?_
  rintro e w1 ⟨p1, c1, rfl, hr1⟩
  have HR1 := hide hr1
  have dC := hide (allots_any (cu := cu) (cc := c1) (unhide HK) ((unhide HL).below hr1.bel) (fun d hd => ⟨(unhide HP d hd).1.below hr1.bel, (unhide HP d hd).2⟩) hr1.len hNK hN5 (unhide HM) (own_lies kC_ok hr1.len hr1.row) (fun c hc => clP_mem hc))
  clear hr1
  go_wp2_with fail
  refine (unhide dC).mono ?_
  rintro e w2 ⟨p2, m, c2, rfl, hr2⟩
  have hmk := Mkd.of (by rw [unhide HK]; exact hNK) hN5 (unhide HA) (unhide HR1) hr2
  obtain ⟨A, hA⟩ : ∃ A, A = alP (clP L N) L N := ⟨_, rfl⟩
  rw [← hA] at hmk
  obtain ⟨C, hC⟩ : ∃ C, C = clP L N := ⟨_, rfl⟩
  rw [← hC] at hmk
  have HMK := hide hmk
  have hm3 := hmk.m3
  have dC := hide (Mkd.taken (cc := c1) (ca := c2) hmk (unhide HS))
  obtain ⟨d, hd⟩ : ∃ d, d = w2.heap.size := ⟨_, rfl⟩
  rw [← hd] at dC
  unfold ptr at dC
  clear hmk hr2 HR1 hA hC hd HL HP HA HM HK
  go_wp2_with fail
  refine (unhide dI _ _ _ _).mono ?_
  rintro e w3 ⟨rfl, hw⟩
  rw [hw, ← unhide HT]
  clear hw w3 HT dI
  go_wp2_with fail
  refine (unhide dC).mono ?_
  rintro e w3 ⟨rfl, hsv⟩
  have dC := hide (hsv.first (unhide HS))
  clear hsv
  go_wp2_with fail
  refine (unhide dC).mono ?_
  rintro e w0 ⟨rfl, hsv⟩
  have HV := hide hsv
  have dN := hide (new_vw (W := w0) ((unhide HS).below hsv.bel).lt)
  have hS0 := (unhide HS).below hsv.bel
  have HS0 := hide hS0
  unfold ptr at dN
  clear hsv dC hS0
  go_wp2_with fail
  refine (unhide dN).mono ?_
  rintro e w5 ⟨rfl, hv1, hb1⟩
  have HM0 : Hid (Made w0 w5 [] [] 0) := ⟨⟨_, hv1, fun b hb => by rw [hb]; exact Nat.le_refl _⟩, hb1⟩
  have hGr : Good C.reverse A 0 := (unhide HMK).good.perm (List.reverse_perm C).symm
  have HGR := hide hGr
  have hCn : C.length = N := (unhide HMK).cn
  have HCN := hide hCn
  clear hv1 hb1 dN hGr hCn
  go_wp2_with fail
  go_loopw [12] (fun v12 wr => ∃ (i : Nat), v12 = .int .i64 i ∧ i ≤ N ∧ Hid (∃ gw, Made w0 wr (C.reverse.take i) (awS A (C.reverse.take i)) gw)) (fun v12 _ => N - (intOf v12).toNat)
  case atStart => exact ⟨0, rfl, by omega, 0, unhide HM0⟩
  case round =>
    obtain ⟨i, rfl, hi, hrel⟩ := hrel
    by_cases hlt : i < N
    · obtain ⟨gw, hMd⟩ := unhide hrel
      obtain ⟨q, hq⟩ : ∃ q, q = N - 1 - i := ⟨_, rfl⟩
      have hqi : (N : Int) - 1 - (i : Int) = (q : Int) := by omega
      have hqN : q < N := by omega
      have hqC : q < C.length := by rw [unhide HCN]; exact hqN
      have hir : i < C.reverse.length := by rw [List.length_reverse, unhide HCN]; exact hlt
      obtain ⟨x, hx⟩ : ∃ x, x = C[q] := ⟨_, rfl⟩
      have hxr : C.reverse[i] = x := by
        rw [List.getElem_reverse, hx]
        congr 1
        rw [unhide HCN]
        exact hq.symm
      have hxC : x ∈ C := by rw [hx]; exact List.getElem_mem hqC
      have hsvr := (unhide HV).below hMd.bel
      obtain ⟨b, off, e, hbl, hr⟩ := hsvr.c q hqC
      rw [← hx] at hr
      have hld := run_ld37 (w := wr) (b := b) (o := off + q * 5) (c := x) (fun i v hv => hr i v hv)
      have hr0 : (wr.alloc clZ).heap[wr.heap.size]? = some clZ := heap_new _ _
      have hst7 := run_st37 (thereZ hr0) x
      have hs5 := setO hr0 x
      have hb5 := below5 (B := wr.heap.size) (b := wr.heap.size) (w := wr.alloc clZ) (Nat.le_refl _) x.vals 0 wr (wr.alloc clZ) ((Below.refl _ _).alloc (Nat.le_refl _) _)
      obtain ⟨Y, hY⟩ : ∃ Y, Y = (wr.alloc clZ).setCells wr.heap.size 0 x.vals := ⟨_, rfl⟩
      rw [← hY] at hst7 hs5 hb5
      obtain ⟨bx, hbx⟩ : ∃ bx, bx = wr.heap.size := ⟨_, rfl⟩
      rw [← hbx] at hs5
      have hmx : Mx w0 Y bx x (C.reverse.take i) (awS A (C.reverse.take i)) gw := Mx.of hMd hb5 (by rw [hbx]; exact Nat.le_refl _) hs5
      have hld2 := ldO hs5
      rw [hbx] at hld2
      have hv0 := (unhide HGR).inv0 i hir
      rw [hxr] at hv0
      have dV := hide (hmx.inv (unhide HS0) hv0 ((unhide HMK).ck x hxC).1 ((unhide HMK).ck x hxC).2 ((unhide HMK).good.ok x hxC).a2)
      have ht1 : C.reverse.take i ++ [x] = C.reverse.take (i + 1) := by rw [List.take_succ_eq_append_getElem hir, hxr]
      rw [ht1] at dV
      have HXR : Hid (∃ h : i < C.reverse.length, C.reverse[i]'h = x) := ⟨hir, hxr⟩
      have HXC := hide hxC
      unfold ptr at dV
      unfold clZ at hst7
      have HBX := hide hbx
      subst e
      clear hbl hr hr0 hs5 hb5 hY hbx hmx hv0 ht1 hx hxr hxC hir hqC hq hsvr hMd hrel
      go_wp2_with fail
      refine (unhide dV).mono ?_
      rintro e x1 ⟨rfl, hmx⟩
      have HMX := hide hmx
      clear hmx dV hld hld2 hst7
      go_wp2_with fail
      refine (unhide dM _ _).mono ?_
      rintro e x2 ⟨rfl, hw⟩
      rw [hw, ← unhide HBX]
      clear hw x2 HBX
      go_upto_region 16 with fail
      go_cut [90] (fun v90 wx => v90 = .bool false ∧ Hid (∃ gw, Mx w0 wx bx x (C.reverse.take (i + 1)) (awS A (C.reverse.take i)) gw))
      case first =>
        by_cases hik : i < kM
        · have hiM : i < M.length := by rw [unhide HKN]; exact hik
          obtain ⟨bm, om, em⟩ : ∃ bm om, pm = some ⟨bm, om, none⟩ := by obtain ⟨bm, om, em, _⟩ := (unhide HMM).2 i hiM; exact ⟨bm, om, em⟩
          subst em
          obtain ⟨t, ht⟩ : ∃ t, t = M[i] := ⟨_, rfl⟩
          have HCT : Hid (∀ w', Below w0.heap.size w0 w' → w'.cell? ⟨bm, om + i, none⟩ = some (.int .i64 t)) := fun w' hb => by
            rw [ht]
            exact Lies.num (((unhide HMM).below (unhide HV).bel).below hb) hiM
          have HMD : Hid (Mx w0 x1.drew bx x (C.reverse.take (i + 1)) (awS A (C.reverse.take i)) gw) := (unhide HMX).below (below_drew x1)
          have hgb := (unhide HMX).gb
          obtain ⟨G, hG⟩ : ∃ G, G = 1 + gw := ⟨_, rfl⟩
          have dA := hide ((unhide HMD).asOf)
          rw [← hG] at dA
          unfold ptr at dA
          have hG1 : 1 ≤ G := by omega
          have HG := hide hG
          clear ht hiM hgb hG
          by_cases hge : G ≤ t
          · have g1 : decide (G ≤ t) = true := decide_eq_true hge
            have g2 : decide (t ≥ G) = true := decide_eq_true hge
            by_cases hle : t ≤ 3652059
            · have g3 : decide (t ≤ 3652059) = true := decide_eq_true hle
              have dV := hide ((unhide HMD).adv (unhide HS0) (t := t) (by omega) hle (by rw [← unhide HG]; exact hge))
              unfold ptr at dV
              refine wp_region_last (n := 30) (S := fun W' => W'.cell? ⟨bm, om + i, none⟩ = some (.int .i64 t)) (by kernel_rfl) (by exact unhide HCT _ (unhide HMD).bel) (fun hHeld => ?_)
              refine tkW 0 ?_; refine tkW 1 ?_; refine tkW 2 ?_; refine tkW 3 ?_; refine tkW 4 ?_; refine tkW 5 ?_; refine tkW 6 ?_; refine tkW 7 ?_; refine tkN 8 ?_; refine tkW 9 ?_
              refine wpAnyL_one (i := 10) (by kernel_rfl) rfl (fun KK hK => ?_)
              go_simp
              go_wp2_with (first | (go_at_call 15; refine (unhide dA).mono ?_; rintro e w7 ⟨rfl, hw⟩; rw [hw]; clear hw w7))
              refine hK.out _ _ (by exact unhide HCT _ (unhide HMD).bel) (fun hHeld => ?_)
              clear hK KK
              refine tkW 11 ?_; refine tkW 12 ?_; refine tkW 13 ?_; refine tkW 14 ?_; refine tkW 15 ?_; refine tkW 16 ?_; refine tkN 17 ?_; refine tkW 18 ?_; refine tkW 19 ?_; refine tkW 20 ?_; refine tkW 21 ?_; refine tkW 22 ?_; refine tkW 23 ?_; refine tkW 24 ?_; refine tkN 25 ?_
              refine wpAnyL_one (i := 26) (by kernel_rfl) rfl (fun KK hK => ?_)
              go_simp
              go_wp2_with (first | (go_at_call 14; refine (unhide dV).mono ?_; rintro e w7 ⟨rfl, hmx⟩; have HM7 := hide hmx; clear hmx))
              refine hK.out _ _ (by exact unhide HCT _ (unhide HM7).bel) (fun hHeld => ?_)
              clear hK KK
              refine wpAnyL_one (i := 27) (by kernel_rfl) rfl (fun KK hK => ?_)
              go_simp
              go_wp2_with (first | (go_at_call 13; refine (unhide dM _ _).mono ?_; rintro e w8 ⟨rfl, hw⟩; rw [hw]; clear hw w8))
              refine hK.out _ _ (by exact unhide HCT _ (unhide HM7).bel) (fun hHeld => ?_)
              clear hK KK
              refine tkW 28 ?_; refine tkW 29 ?_
              refine wpAnyL_done (by kernel_rfl) ?_
              clear hHeld
              go_wp2_with fail
              go_meet
              exact ⟨rfl, _, unhide HM7⟩
            · have g3 : decide (t ≤ 3652059) = false := decide_eq_false hle
              refine wp_region_last (n := 30) (S := fun W' => W'.cell? ⟨bm, om + i, none⟩ = some (.int .i64 t)) (by kernel_rfl) (by exact unhide HCT _ (unhide HMD).bel) (fun hHeld => ?_)
              refine tkW 0 ?_; refine tkW 1 ?_; refine tkW 2 ?_; refine tkW 3 ?_; refine tkW 4 ?_; refine tkW 5 ?_; refine tkW 6 ?_; refine tkW 7 ?_; refine tkN 8 ?_; refine tkW 9 ?_
              refine wpAnyL_one (i := 10) (by kernel_rfl) rfl (fun KK hK => ?_)
              go_simp
              go_wp2_with (first | (go_at_call 15; refine (unhide dA).mono ?_; rintro e w7 ⟨rfl, hw⟩; rw [hw]; clear hw w7))
              refine hK.out _ _ (by exact unhide HCT _ (unhide HMD).bel) (fun hHeld => ?_)
              clear hK KK
              refine tkW 11 ?_; refine tkW 12 ?_; refine tkW 13 ?_; refine tkW 14 ?_; refine tkW 15 ?_; refine tkW 16 ?_; refine tkN 17 ?_; refine tkW 18 ?_; refine tkW 19 ?_; refine tkW 20 ?_; refine tkX 21 ?_; refine tkX 22 ?_; refine tkX 23 ?_; refine tkX 24 ?_; refine tkX 25 ?_; refine tkX 26 ?_; refine tkX 27 ?_; refine tkX 28 ?_; refine tkW 29 ?_
              refine wpAnyL_done (by kernel_rfl) ?_
              clear hHeld
              go_wp2_with fail
              go_meet
              exact ⟨rfl, _, unhide HMD⟩
          · have g1 : decide (G ≤ t) = false := decide_eq_false hge
            have g2 : decide (t ≥ G) = false := decide_eq_false hge
            refine wp_region_last (n := 30) (S := fun W' => W'.cell? ⟨bm, om + i, none⟩ = some (.int .i64 t)) (by kernel_rfl) (by exact unhide HCT _ (unhide HMD).bel) (fun hHeld => ?_)
            refine tkW 0 ?_; refine tkW 1 ?_; refine tkW 2 ?_; refine tkW 3 ?_; refine tkW 4 ?_; refine tkW 5 ?_; refine tkW 6 ?_; refine tkW 7 ?_; refine tkN 8 ?_; refine tkW 9 ?_
            refine wpAnyL_one (i := 10) (by kernel_rfl) rfl (fun KK hK => ?_)
            go_simp
            go_wp2_with (first | (go_at_call 15; refine (unhide dA).mono ?_; rintro e w7 ⟨rfl, hw⟩; rw [hw]; clear hw w7))
            refine hK.out _ _ (by exact unhide HCT _ (unhide HMD).bel) (fun hHeld => ?_)
            clear hK KK
            refine tkW 11 ?_; refine tkW 12 ?_; refine tkW 13 ?_; refine tkX 14 ?_; refine tkX 15 ?_; refine tkX 16 ?_; refine tkX 17 ?_; refine tkX 18 ?_; refine tkW 19 ?_; refine tkW 20 ?_; refine tkX 21 ?_; refine tkX 22 ?_; refine tkX 23 ?_; refine tkX 24 ?_; refine tkX 25 ?_; refine tkX 26 ?_; refine tkX 27 ?_; refine tkX 28 ?_; refine tkW 29 ?_
            refine wpAnyL_done (by kernel_rfl) ?_
            clear hHeld
            go_wp2_with fail
            go_meet
            exact ⟨rfl, _, unhide HMD⟩
        · have HMD : Hid (Mx w0 x1.drew bx x (C.reverse.take (i + 1)) (awS A (C.reverse.take i)) gw) := (unhide HMX).below (below_drew x1)
          have hikd : decide ((i : Int) < kM) = false := decide_eq_false (by omega)
          refine wp_region_last (n := 30) (S := fun _ => True) (by kernel_rfl) trivial (fun hHeld => ?_)
          refine tkW 0 ?_; refine tkW 1 ?_; refine tkW 2 ?_; refine tkW 3 ?_; refine tkW 4 ?_; refine tkX 5 ?_; refine tkX 6 ?_; refine tkX 7 ?_; refine tkX 8 ?_; refine tkX 9 ?_; refine tkX 10 ?_; refine tkX 11 ?_; refine tkW 12 ?_; refine tkW 13 ?_; refine tkX 14 ?_; refine tkX 15 ?_; refine tkX 16 ?_; refine tkX 17 ?_; refine tkX 18 ?_; refine tkW 19 ?_; refine tkW 20 ?_; refine tkX 21 ?_; refine tkX 22 ?_; refine tkX 23 ?_; refine tkX 24 ?_; refine tkX 25 ?_; refine tkX 26 ?_; refine tkX 27 ?_; refine tkX 28 ?_; refine tkW 29 ?_
          refine wpAnyL_done (by kernel_rfl) ?_
          clear hHeld
          go_wp2_with fail
          go_meet
          exact ⟨rfl, _, unhide HMD⟩
      obtain ⟨rfl, HMX2⟩ := hcut
      clear HMX
      go_wp2_with fail
      go_loopw [14] (fun v14 wr => ∃ (z : Int), v14 = .int .i64 z ∧ (-1 ≤ z ∧ z < m) ∧ Hid (∃ gw, Mx w0 wr bx x (C.reverse.take (i + 1)) (awI A (C.reverse.take i) x (z + 1).toNat) gw)) (fun v14 _ => (intOf v14 + 1).toNat)
      case atStart => exact ⟨(m : Int) - 1, rfl, by omega, by
        obtain ⟨gx, hx⟩ := unhide HMX2
        have e : ((m : Int) - 1 + 1).toNat = m := by omega
        rw [e, awI_none A _ x (by rw [(unhide HMK).am]; exact Nat.le_refl _)]
        exact ⟨gx, hx⟩⟩
      case round =>
        obtain ⟨z, rfl, ⟨hz1, hz2⟩, hrel⟩ := hrel
        by_cases hz : 0 ≤ z
        · obtain ⟨k, rfl⟩ : ∃ k : Nat, z = k := ⟨z.toNat, by omega⟩
          have hkm : k < m := by omega
          obtain ⟨gx, hmx⟩ := unhide hrel
          have e1 : ((k : Int) + 1).toNat = k + 1 := by omega
          rw [e1] at hmx
          have hkA : k < A.length := by rw [(unhide HMK).am]; exact hkm
          obtain ⟨a, hac⟩ : ∃ a, a = A[k] := ⟨_, rfl⟩
          obtain ⟨hir, hxr⟩ := unhide HXR
          have hmd := hmx.below (below_drew wr)
          obtain ⟨ba, oa, ea, hba, hra⟩ := ((unhide HV).below hmd.bel).a k hkA
          have HCA : Hid (∀ w', Below w0.heap.size w0 w' → w'.rangeAt ba (oa + k * 4) (kA.enc a)) := fun w' hb => by
            obtain ⟨b', o', e', _, hr'⟩ := ((unhide HV).below hb).a k hkA
            rw [ea] at e'
            cases e'
            rw [hac]
            exact hr'
          have q1 : ∀ w', Below w0.heap.size w0 w' → w'.cell? ⟨ba, oa + k * 4 + 1, none⟩ = some (.string a.inv) := fun w' hb => unhide HCA w' hb 1 _ rfl
          have q2 : ∀ w', Below w0.heap.size w0 w' → (ld51 (.pointer (some ⟨ba, oa + k * 4, none⟩))).run Tryd.prog w' = .ok (.agg #[.string a.pay, .string a.inv, .int .i64 a.day, .int .i64 a.amt]) w' := fun w' hb => run_ld51 (x := a) (fun i v hv => unhide HCA w' hb i v hv)
          have q3 : ∀ w' C A g, Mx w0 w' bx x C A g → w'.cell? ⟨bx, 0, none⟩ = some (.string x.key) := fun w' C A g h => by
            have := h.box
            unfold clO at this
            rw [cell_at this]
            rfl
          have hfk := fK_drop (s := x.key.data.toList) hkA
          rw [← hac] at hfk
          have hal : a.inv.data.toList = x.key.data.toList → allS (C.reverse.take (i + 1)) (awI A (C.reverse.take i) x (k + 1)) a = 0 := fun hs => by
            have hG := hmx.made.vw
            obtain ⟨S, hvw, _⟩ := hG
            rw [hac]
            refine or_all0 (unhide HMK).good hvw.good (x := x) ?_ (unhide HXC) hkA (by rw [← hac]; exact hs) ?_ ?_
            · rw [List.take_succ_eq_append_getElem hir, hxr]
              exact List.mem_append_right _ List.mem_cons_self
            · exact awI_len (unhide HGR).key (by rw [(unhide HMK).am]; exact hm3) i (k + 1) x
            · rw [← hxr]
              exact awI_pts (unhide HGR).key hir (k + 1)
          have haz : a.inv.size ≤ maxLen := (unhide HMK).ai a (by rw [hac]; exact List.getElem_mem hkA)
          have hai : awI A (C.reverse.take i) x k = if a.inv.data.toList = x.key.data.toList then awI A (C.reverse.take i) x (k + 1) ++ [a] else awI A (C.reverse.take i) x (k + 1) := by
            unfold awI
            rw [hfk]
            split
            · rw [List.reverse_cons, List.append_assoc]
            · rfl
          have HAI := hide hai; have HAL := hide hal; have HQ1 := hide q1; have HQ2 := hide q2; have HQ3 := hide q3; have HMD := hide hmd
          subst ea
          clear hac hmx hkA hfk hal hai hba hra hrel q1 q2 q3 hmd e1 hxr hir
          have HKE : Hid ((k : Int) - 1 + 1 = (k : Int)) := by show _ = _; omega
          by_cases hin : a.inv = x.key
          · have hbt : (x.key.toList == x.key.toList) = true := by simp
            have dV := hide ((unhide HMD).all (unhide HS0) (unhide HAL (by rw [hin])) haz)
            unfold ptr at dV
            have l1 := unhide HQ2 _ (unhide HMD).bel
            have l2 := unhide HQ1 _ (unhide HMD).bel
            have l3 := unhide HQ3 _ _ _ _ (unhide HMD)
            rw [hin] at l1 l2 dV
            have HF7 : Hid (∀ w', Mx w0 w' bx x (C.reverse.take (i + 1)) (awI A (C.reverse.take i) x (k + 1) ++ [a]) gx → w'.cell? ⟨ba, oa + k * 4 + 1, none⟩ = some (.string x.key) ∧ w'.cell? ⟨bx, 0, none⟩ = some (.string x.key) ∧ (ld51 (.pointer (some ⟨ba, oa + k * 4, none⟩))).run Tryd.prog w' = .ok (.agg #[.string a.pay, .string x.key, .int .i64 a.day, .int .i64 a.amt]) w') := fun w' h => by
              have h1 := unhide HQ1 _ h.bel
              have h2 := unhide HQ2 _ h.bel
              rw [hin] at h1 h2
              exact ⟨h1, unhide HQ3 _ _ _ _ h, h2⟩
            go_upto_region 21 with fail
            go_cut [115] (fun v115 wx => v115 = .bool false ∧ Hid (Mx w0 wx bx x (C.reverse.take (i + 1)) (awI A (C.reverse.take i) x k) gx))
            case first =>
              refine wp_region_last (n := 18) (S := fun W' => W'.cell? ⟨ba, oa + k * 4 + 1, none⟩ = some (.string x.key) ∧ W'.cell? ⟨bx, 0, none⟩ = some (.string x.key) ∧ (ld51 (.pointer (some ⟨ba, oa + k * 4, none⟩))).run Tryd.prog W' = .ok (.agg #[.string a.pay, .string x.key, .int .i64 a.day, .int .i64 a.amt]) W') (by kernel_rfl) (by exact ⟨l2, l3, l1⟩) (fun hHeld => ?_)
              refine tkW 0 ?_; refine tkW 1 ?_; refine tkW 2 ?_; refine tkW 3 ?_; refine tkN 4 ?_; refine tkW 5 ?_; refine tkN 6 ?_; refine tkW 7 ?_; refine tkW 8 ?_; refine tkW 9 ?_; refine tkW 10 ?_; refine tkW 11 ?_; refine tkW 12 ?_; refine tkN 13 ?_
              refine wpAnyL_one (i := 14) (by kernel_rfl) rfl (fun KK hK => ?_)
              go_simp
              go_wp2_with (first | (go_at_call 26; refine (unhide dV).mono ?_; rintro e w7 ⟨rfl, hmx⟩; have HM7 := hide hmx; clear hmx))
              refine hK.out _ _ (by exact unhide HF7 _ (unhide HM7)) (fun hHeld => ?_)
              clear hK KK
              refine wpAnyL_one (i := 15) (by kernel_rfl) rfl (fun KK hK => ?_)
              go_simp
              go_wp2_with (first | (go_at_call 13; refine (unhide dM _ _).mono ?_; rintro e w8 ⟨rfl, hw⟩; rw [hw]; clear hw w8))
              refine hK.out _ _ (by exact unhide HF7 _ (unhide HM7)) (fun hHeld => ?_)
              clear hK KK
              refine tkW 16 ?_; refine tkW 17 ?_
              refine wpAnyL_done (by kernel_rfl) ?_
              clear hHeld
              go_wp2_with fail
              go_meet
              refine ⟨rfl, ?_⟩
              rw [unhide HAI, if_pos (by rw [hin])]
              exact unhide HM7
            obtain ⟨rfl, HM8⟩ := hcut
            clear l1 l2 l3 dV HMD HF7 HAI HAL HQ1 HQ2 HQ3
            go_wp2_with fail
            go_round
            case rel => exact ⟨(k : Int) - 1, rfl, by omega, gx, by
              have e2 : ((k : Int) - 1 + 1).toNat = k := by omega
              rw [e2]
              exact unhide HM8⟩
            case measure => simp only [intOf]; omega
          · have hne := str_ne hin
            have l2 := unhide HQ1 _ (unhide HMD).bel
            have l3 := unhide HQ3 _ _ _ _ (unhide HMD)
            have HM8 : Hid (Mx w0 wr.drew bx x (C.reverse.take (i + 1)) (awI A (C.reverse.take i) x k) gx) := by
              show Mx _ _ _ _ _ _ _
              rw [unhide HAI, if_neg (fun h => hin (str_inj h))]
              exact unhide HMD
            go_upto_region 21 with fail
            refine wp_region_last (n := 18) (S := fun W' => W'.cell? ⟨ba, oa + k * 4 + 1, none⟩ = some (.string a.inv) ∧ W'.cell? ⟨bx, 0, none⟩ = some (.string x.key)) (by kernel_rfl) (by exact ⟨l2, l3⟩) (fun hHeld => ?_)
            refine tkW 0 ?_; refine tkW 1 ?_; refine tkW 2 ?_; refine tkW 3 ?_; refine tkN 4 ?_; refine tkW 5 ?_; refine tkN 6 ?_; refine tkW 7 ?_; refine tkW 8 ?_; refine tkX 9 ?_; refine tkX 10 ?_; refine tkX 11 ?_; refine tkX 12 ?_; refine tkX 13 ?_; refine tkX 14 ?_; refine tkX 15 ?_; refine tkX 16 ?_; refine tkW 17 ?_
            refine wpAnyL_done (by kernel_rfl) ?_
            clear hHeld l2 l3 HMD HAI HAL HQ1 HQ2 HQ3
            go_wp2_with fail
            go_round
            case rel => exact ⟨(k : Int) - 1, rfl, by omega, gx, by
              have e2 : ((k : Int) - 1 + 1).toNat = k := by omega
              rw [e2]
              exact unhide HM8⟩
            case measure => simp only [intOf]; omega
        · have hzd : decide (0 ≤ z) = false := decide_eq_false hz
          have hzd2 : decide (z ≥ 0) = false := decide_eq_false hz
          have HFIN : Hid (∃ gw, Made w0 wr (C.reverse.take (i + 1)) (awS A (C.reverse.take (i + 1))) gw) := by
            obtain ⟨gx, hmx⟩ := unhide hrel
            obtain ⟨hir, hxr⟩ := unhide HXR
            have e1 : (z + 1).toNat = 0 := by omega
            rw [e1, ← hxr, awI_all A hir] at hmx
            exact ⟨gx, hmx.made⟩
          clear hrel
          go_wp2_with fail
          go_round
          case rel => exact ⟨i + 1, by push_cast; rfl, by omega, unhide HFIN⟩
          case measure => simp only [intOf]; omega
    · have hiN : i = N := by omega
      obtain ⟨gw, hMd⟩ := unhide hrel
      have eT : C.reverse.take i = C.reverse := List.take_of_length_le (by rw [List.length_reverse, unhide HCN]; omega)
      rw [eT] at hMd
      have hsvr := (unhide HV).below hMd.bel
      have dD := hide (days_any (cc := c1) (ca := c2) (cm := cm) (unhide HMK).cn (unhide HMK).am (unhide HKN) hsvr.lies.1 hsvr.lies.2 ((unhide HMM).below hsvr.bel) (unhide HCM) (by omega) (by omega) (unhide HK1) (unhide HMK).dsC' (unhide HMK).dsA')
      have HMD := hide hMd; have HSV := hide hsvr
      clear hiN eT hMd hsvr hrel
      go_wp2_with fail
      refine (unhide dD).mono ?_
      rintro e w5 ⟨pd, cd, ND, D, rfl, hDn, hDb, hlD, hb5, hDnew⟩
      obtain ⟨Sv, hv, _⟩ := (unhide HSV).ex
      obtain ⟨Sw, hw, _⟩ := (unhide HMD).vw
      have hPr : Pr w5 w5 d w0.heap.size Sv Sw C C.reverse A (awS A C.reverse) 0 gw p1 pd C D := ⟨hv.below hb5, hw.below hb5, Below.refl _ _, ((unhide HS).below (unhide HSV).bel).below hb5, (unhide HSV).lies.1.below hb5, hlD⟩
      have hsame : Same C A (awS A C.reverse) := fun c hc => by
        rw [aw_pts A (unhide HGR).key (List.mem_reverse.2 hc)]
        exact (List.reverse_perm _).symm
      have hAlk := alk_of (unhide HMK).good (List.reverse_perm C).symm hsame
      have dL := hide (like_any (cc := c1) (cd := cd) hAlk hPr (unhide HMK).cn (by omega) (fun c hc => ((unhide HMK).ck c hc).2) hDn hDb)
      have HSAME := hide hsame; have HB5 := hide hb5; have HLD := hide hlD; have HDN := hide hDn; have HDW := hide hDnew
      unfold ptr at dL
      clear hv hw hPr hAlk hsame hb5 hlD hDn hDnew dD
      go_wp2_with fail
      refine (unhide dL).mono ?_
      rintro e w6 ⟨rfl, hb6⟩
      have hsv6 := ((unhide HSV).below (unhide HB5)).below hb6
      have hpm := trnC_perm C T
      obtain ⟨R, hR⟩ : ∃ R, R = trnC C T := ⟨_, rfl⟩
      have dT := hide (taken_any (W := w6) (C := C) (R := R) (A := A) (t := T) (cc := c1) (ca := c2) hT9 (by rw [hR]; exact (unhide HMK).good.perm hpm) (fun c hc => (unhide HMK).ck c (hpm.mem_iff.2 (by rw [← hR]; exact hc))) (unhide HMK).ai ((unhide HS).below hsv6.bel) (unhide HMK).cn (by rw [hR, ← hpm.length_eq]; exact (unhide HMK).cn) (fun j h h2 => by subst hR; exact trnC_get C T N (unhide HCN) j h h2) (unhide HMK).am hsv6.lies.1 hsv6.lies.2)
      rw [← hR] at hpm
      have HPM := hide hpm; have HB6 := hide hb6
      unfold ptr at dT
      clear hsv6 hpm hR hb6 dL
      go_wp2_with fail
      refine (unhide dT).mono ?_
      rintro e w7 ⟨rfl, hmd⟩
      obtain ⟨S1, S2, S3, ho⟩ := O3.of (unhide HV) (unhide HMD) (unhide HB5) (unhide HLD) (unhide HDW) (unhide HB6) hmd
      have hgb := ho.u.good.g
      obtain ⟨du, hdu⟩ : ∃ du, du = w6.heap.size := ⟨_, rfl⟩
      rw [← hdu] at ho ⊢
      obtain ⟨G, hG⟩ : ∃ G, G = 1 + gw := ⟨_, rfl⟩
      have dA := hide (asOf_vw ho.u)
      rw [← hG] at dA
      have dV := hide (ho.advV (unhide HS) (t := G) (by omega) (by omega) (by omega))
      have e1 : G - 1 = gw := by omega
      rw [e1] at dV
      have hG1 : 1 ≤ G := by omega
      have hG2 : G ≤ 3652059 := by omega
      have HG := hide hG
      unfold ptr at dA dV
      clear hmd ho hgb hdu hG e1 dT
      go_wp2_with fail
      refine (unhide dA).mono ?_
      rintro e w8 ⟨rfl, hw⟩
      rw [hw]
      clear hw w8 dA
      go_wp2_with fail
      refine (unhide dV).mono ?_
      rintro e w8 ⟨rfl, S1', ho⟩
      have dX := hide (ho.advX (unhide HS) (t := G) (by omega) (by omega) (by omega))
      have e1 : G - 1 = gw := by rw [unhide HG]; omega
      rw [e1] at dX
      unfold ptr at dX
      clear ho e1 dV
      go_wp2_with fail
      refine (unhide dM _ _).mono ?_
      rintro e w9 ⟨rfl, hw⟩
      rw [hw]
      clear hw w9
      go_wp2_with fail
      refine (unhide dX).mono ?_
      rintro e w9 ⟨rfl, S3', ho⟩
      have hPr : Pr w9 w9 du d S3' S1' R C A A gw gw p1 pd C D := ⟨ho.x, ho.v, Below.refl _ _, (unhide HS).below ho.bel, ho.c, ho.d⟩
      have hAlk : Alk R C A A := alk_of ((unhide HMK).good.perm (unhide HPM)) (unhide HPM).symm (fun c hc => List.Perm.refl _)
      have dL := hide (like_any (cc := c1) (cd := cd) hAlk hPr (unhide HMK).cn (by omega) (fun c hc => ((unhide HMK).ck c hc).2) (unhide HDN) hDb)
      have HO9 := hide ho
      unfold ptr at dL
      clear ho hPr hAlk dX
      go_wp2_with fail
      refine (unhide dM _ _).mono ?_
      rintro e w10 ⟨rfl, hw⟩
      rw [hw]
      clear hw w10
      go_wp2_with fail
      refine (unhide dL).mono ?_
      rintro e w10 ⟨rfl, hb10⟩
      have HO := hide ((unhide HO9).below hb10)
      clear hb10 HO9 dL
      go_wp2_with fail
      go_loopw [18] (fun v18 wr => ∃ (i : Nat), v18 = .int .i64 i ∧ i ≤ N ∧ Hid (O3 W wr S1' S2 S3' d w0.heap.size du p1 pd C C.reverse R A (awS A C.reverse) D gw gw gw)) (fun v18 _ => N - (intOf v18).toNat)
      case atStart => exact ⟨0, rfl, by omega, unhide HO⟩
      case round =>
        obtain ⟨j, rfl, hj, hrel⟩ := hrel
        by_cases hlj : j < N
        · have hjC : j < C.length := by rw [unhide HCN]; exact hlj
          obtain ⟨b, off, e, hbl, hr⟩ := (unhide hrel).c.2 j hjC
          obtain ⟨s, hs⟩ : ∃ s, s = C[j].acc := ⟨_, rfl⟩
          have k1 : wr.cell? ⟨b, off + j * 5 + 1, none⟩ = some (.string s) := by rw [hs]; exact hr 1 _ rfl
          have hsm : s.size ≤ maxLen := by rw [hs]; exact ((unhide HMK).ck _ (List.getElem_mem hjC)).2
          obtain ⟨f, hf⟩ : ∃ f, f = ageS C A s.data.toList (1 + gw) := ⟨_, rfl⟩
          have f2 : ageS C.reverse (awS A C.reverse) s.data.toList (1 + gw) = f := by
            rw [hf]
            exact funext fun q => (ageS_same (List.reverse_perm C).symm (unhide HSAME) _ _ q).symm
          have f3 : ageS R A s.data.toList (1 + gw) = f := by
            rw [hf]
            exact funext fun q => (ageS_same (unhide HPM) (fun c hc => List.Perm.refl _) _ _ q).symm
          have f4 : atS C A s.data.toList G = f := by
            rw [hf]
            exact funext fun q => by
              unfold atS
              rw [if_pos (dayB_of hG1 hG2), unhide HG]
          have HF1 := hide hf.symm; have HF2 := hide f2; have HF3 := hide f3; have HF4 := hide f4; have HSM := hide hsm
          have HO0 := hide (unhide hrel)
          have dN := hide (now_vw (unhide HO0).v hsm)
          rw [← hf] at dN
          subst e
          unfold ptr ag5 at dN
          clear hr hs hbl hjC hsm hrel hf f2 f3 f4
          go_wp2_with fail
          refine (unhide dN).mono ?_
          rintro e y1 ⟨rfl, hb1⟩
          have HO1 := hide ((unhide HO0).below hb1)
          have dN := hide (now_vw (unhide HO1).u (unhide HSM))
          rw [unhide HF2] at dN
          unfold ptr ag5 at dN
          clear hb1
          go_wp2_with fail
          refine (unhide dN).mono ?_
          rintro e y2 ⟨rfl, hb1⟩
          have HO2 := hide ((unhide HO1).below hb1)
          have dN := hide (now_vw (unhide HO2).x (unhide HSM))
          rw [unhide HF3] at dN
          unfold ptr ag5 at dN
          clear hb1
          go_wp2_with fail
          refine (unhide dN).mono ?_
          rintro e y3 ⟨rfl, hb1⟩
          have HO3 := hide ((unhide HO2).below hb1)
          have dN := hide (now_vw (unhide HO3).u (unhide HSM))
          rw [unhide HF2] at dN
          unfold ptr ag5 at dN
          clear hb1
          go_wp2_with fail
          refine (unhide dN).mono ?_
          rintro e y4 ⟨rfl, hb1⟩
          have HO4 := hide ((unhide HO3).below hb1)
          have dN := hide (now_vw (unhide HO4).v (unhide HSM))
          rw [unhide HF1] at dN
          unfold ptr ag5 at dN
          clear hb1
          go_wp2_with fail
          refine (unhide dN).mono ?_
          rintro e y5 ⟨rfl, hb1⟩
          have HO5 := hide ((unhide HO4).below hb1)
          have dN := hide (at_vw (unhide HO5).v ((unhide HS).below (unhide HO5).bel) (unhide HSM) G)
          rw [unhide HF4] at dN
          unfold ptr ag5 at dN
          clear hb1
          go_wp2_with fail
          refine (unhide dN).mono ?_
          rintro e y6 ⟨rfl, hb1⟩
          have HO6 := hide ((unhide HO5).below hb1)
          clear hb1
          go_wp2_with fail
          go_round
          case rel => exact ⟨j + 1, by push_cast; rfl, by omega, unhide HO6⟩
          case measure => simp only [intOf]; omega
        · go_wp2_with fail
          go_ret
          exact ⟨rfl, (unhide hrel).bel⟩
end Go.Proofs.YtildpgfhahmgmaaDoor
namespace Go.Proofs.YtildpgfhahmgmaaDoor.agedOrder
open Go.ChangeShapes Go.WideShapes Go.ChangeAt Go.RowKit
set_option linter.unusedVariables false

theorem own : ownKnob Tryd.prog.godebug = none := by kernel_rfl
theorem laidOut : laidOutB Tryd.prog = true := by kernel_rfl
theorem plainMet {W : World} (h : laidMetH Tryd.prog Rows.agedOrderRow.laid W) : laidMet Tryd.prog Rows.agedOrderRow.laid W := by
  rw [MakeChecks.laidMetH_plain _ _ _ (by kernel_rfl)] at h
  exact h
theorem tab_same : (Rows.laid_daybook_aged_steps : DataW Unit) = Lib.tabData .i64 stepsL := by kernel_rfl
theorem tab {W : World} (h : laidMetH Tryd.prog Rows.agedOrderRow.laid W) : Stp W := by
  have h1 : laidMet Tryd.prog (("daybook/aged.steps", Rows.laid_daybook_aged_steps) :: []) W := plainMet h
  rw [tab_same] at h1
  exact Lib.tabIs_of_head (g := 0) (t := 115) (e := 3) (n := 4) (by kernel_rfl) (by kernel_rfl) Tryd.underlying115 Tryd.underlying3 (by kernel_rfl) (by kernel_rfl) h1

set_option maxRecDepth 100000 in
theorem contract (H : Type) (enc : TypeId × Value → H) (W : World) (base : Nat) (args : Array Value) (ds gs : List (DataW H)) (before : List MemPlace)
    (hval0 : ∀ (j : Nat) t v, Tryd.f5.params[j]? = some t → args[j]? = some v → Value.okWide Tryd.prog W .any base t v)
    (hW : DataW.Whole enc Tryd.prog Tryd.f5.params.toList Rows.agedOrderSpec.vars false W args.toList ds gs before)
    (hsz0 : (DataW.weightsEach Tryd.prog (Tryd.f5.params.toList ++ Rows.agedOrderSpec.plain.varTypes Tryd.prog) (ds ++ gs)).all (· ≤ reachBytes) = true) (hL : laidMetH Tryd.prog Rows.agedOrderRow.laid W) :
    Calls Tryd.prog 5 args W fun e W' => ∃ v, e = .returned v ∧ Rows.agedOrderSpec.post enc Tryd.prog Tryd.f5 false true false false W args v W' := by
  have hval : ∀ (j : Nat) t v, Tryd.f5.params[j]? = some t → args[j]? = some v → Value.okWide Tryd.prog W .any base t v := hval0
  have hsz := hsz0
  have hW' := hW
  obtain ⟨p, q, hA0, hV, rfl, hfz, hnd⟩ := hW
  have hA : DataW.TrodAll enc Tryd.prog W 0 (fun _ => true) true Tryd.f5.params.toList args.toList ds p := hA0
  rw [Tryd.params5] at hA hval hsz
  obtain ⟨v0, vs0, d0, ds0, p0, q0, hargs, rfl, rfl, h0, r0⟩ := trodAll_cons hA
  obtain ⟨v1, vs1, d1, ds1, p1, q1, hargs1, rfl, rfl, h1, r1⟩ := trodAll_cons r0
  obtain ⟨v2, vs2, d2, ds2, p2, q2, hargs2, rfl, rfl, h2, r2⟩ := trodAll_cons r1
  obtain ⟨rfl, rfl, rfl⟩ := trodAll_nil r2
  obtain rfl : args = #[v0, v1, v2] := by cases args; simp_all
  obtain ⟨rfl, rfl⟩ := trodVars_none hV
  have lt0 : ∀ x ∈ p0, x.block < W.heap.size := by obtain ⟨m, hm⟩ := h0; exact DataW.trod_lt m _ _ _ hm
  have hw0 : ∀ n ∈ d0.weights Tryd.prog 22, n ≤ reachBytes := fun n hn => by
    have := List.all_eq_true.1 hsz n (DataW.weights_mem_each (j := 0) (t := 22) (d := d0) rfl rfl n hn)
    simpa using this
  obtain ⟨pu, cu, L, e0, hK, hops, hacc, hpts⟩ := open_deals (hval 0 22 v0 rfl rfl) h0 hw0
  have lt1 : ∀ x ∈ p1, x.block < W.heap.size := by obtain ⟨m, hm⟩ := h1; exact DataW.trod_lt m _ _ _ hm
  have hw1 : ∀ n ∈ d1.weights Tryd.prog 57, n ≤ reachBytes := fun n hn => by
    have := List.all_eq_true.1 hsz n (DataW.weights_mem_each (j := 1) (t := 57) (d := d1) rfl rfl n hn)
    simpa using this
  obtain ⟨pm, cm, M, e1, hM1, hM2, hM3⟩ := open_nums (hval 1 57 v1 rfl rfl) h1 hw1
  obtain ⟨a2, rfl, rfl, rfl, w2⟩ := open_int Tryd.underlying3 (hval 2 3 v2 rfl rfl) h2
  clear hA0 hval0
  subst e0
  subst e1
  refine (walk_AgedOrder (cu := cu) (cm := cm) (tab hL) rfl hK hops hacc hpts hM2 rfl hM3 hM1 a2).mono fun e W' ⟨he, bel⟩ => ?_
  subst he
  exact ⟨_, rfl, _, _, _, [], _, [], hW', trodAll_mk1 (shut_bool Tryd.underlying4 _), (trodAll_cons_mk (Below.trod laidOut (by kernel_rfl) (of_decide_eq_true (by kernel_rfl)) h0 bel lt0) (trodAll_cons_mk (Below.trod laidOut (by kernel_rfl) (of_decide_eq_true (by kernel_rfl)) h1 bel lt1) (trodAll_cons_mk (shut_int Tryd.underlying3 w2) trodAll_mk0))), rfl, bel.frame _, fun h => by cases h⟩

theorem laid_met (os : Os) : laidMetH Tryd.prog Rows.agedOrderRow.laid ((World.laidAll Tryd.prog os Rows.agedOrderRow.laid).forCall (fun _ _ => 0) ⟨#[], #[.slice none 0 0, .slice none 0 0, .int .i64 0], []⟩).memory := by
  rw [MakeChecks.laidMetH_plain _ _ _ (by kernel_rfl)]
  exact laidMet_laidAll _ (by kernel_rfl) (by kernel_rfl)
theorem reads (os : Os) {H : Type} (enc : TypeId × Value → H) : ∃ places, DataW.whole enc Tryd.prog ((World.laidAll Tryd.prog os Rows.agedOrderRow.laid).forCall (fun _ _ => 0) ⟨#[], #[.slice none 0 0, .slice none 0 0, .int .i64 0], []⟩).memory Tryd.f5.params.toList Rows.agedOrderSpec.vars false #[Value.slice none 0 0, .slice none 0 0, .int .i64 0].toList 8 = some ([.nil, .nil, .lit (.int .i64 0)], [], places) :=
  ⟨[], by kernel_rfl⟩

set_option maxRecDepth 100000 in
theorem lifted (os : Os) (started : os.Started) (H : Type) (enc : TypeId × Value → H) (F : Stop.Interp) :
    ReturnsInHanded {} Tryd.checked os 5 .any ((OpenSpec.ofChange Rows.agedOrderSpec).preRow enc Tryd.prog Tryd.f5 Rows.agedOrderRow.domain false Rows.agedOrderRow.laid) (((OpenSpec.ofChange Rows.agedOrderSpec).at F).post enc Tryd.prog Tryd.f5 false true false false) := by
  obtain ⟨places, hx⟩ := reads os enc
  refine returnsInHanded_of_row (C := Tryd.checked) (s := OpenSpec.ofChange Rows.agedOrderSpec) own started (by kernel_rfl) Tryd.func5
    (witness_row_at (enc := enc) (C := Tryd.checked) false (World.laidAll Tryd.prog os Rows.agedOrderRow.laid) #[.slice none 0 0, .slice none 0 0, .int .i64 0] (World.laidAll_os _ _ _) (by kernel_rfl) (by kernel_rfl) (by kernel_rfl)
      (OpenSpec.preRow_of_cond 8 hx (by kernel_rfl) (fun k hk => by cases hk) (by kernel_rfl) (laid_met os))) ?_
  intro W base args ds gs before hval hW _ _ hsz hL _ _
  exact contract H enc W base args ds gs before hval hW hsz hL

theorem fa : (Rows.agedOrderRow.inPlace == Tryd.prog.inPlace 5) = true := by kernel_rfl
theorem fb : (Rows.agedOrderRow.unfollowed == Tryd.prog.unfollowed 5) = true := by kernel_rfl
theorem fc : (Rows.agedOrderRow.recurses == Tryd.prog.recurses 5) = true := by kernel_rfl
theorem fd : (Rows.agedOrderRow.named == Tryd.prog.varsNamed 5) = true := by kernel_rfl
theorem closed : joinedFacts Tryd.prog 5 Tryd.f5 (OpenSpec.ofChange Rows.agedOrderSpec).bare Rows.agedOrderRow = true := by
  unfold joinedFacts
  rw [fa, fb, fc, fd]
  kernel_rfl
theorem over : Rows.AgedOrderSaid :=
  OpenClaim.holds_of_cond 5 Tryd.f5 rfl rfl rfl rfl rfl rfl rfl ⟨rfl, rfl, rfl, rfl, rfl⟩ rfl rfl rfl rfl rfl (by kernel_rfl) Tryd.func5 closed
    (of_decide_eq_true (by kernel_rfl)) (by unfold Func.isWrapper; first | (rw [if_pos (by decide +kernel)]; kernel_rfl) | (rw [if_neg (by decide +kernel)]; exact ⟨rfl, rfl⟩))
    (fun os started H enc _ F => by rw [OpenClaim.pre_eq_preRow]; exact lifted os started H enc F)
theorem plain (f : FuncId) (fn : Func) (hf : Tryd.pinned.checked.prog.funcNamed "daybook/daybooklaw10.AgedOrder" = some f) (hfn : Tryd.pinned.checked.prog.funcs[f]? = some fn) :
    false = Tryd.pinned.checked.prog.looks [] ∧ ∀ (j : Nat) t, fn.params[j]? = some t → Tryd.pinned.checked.prog.wantsStandIn t = false := by
  obtain rfl : f = 5 := Option.some.inj ((show Tryd.prog.funcNamed "daybook/daybooklaw10.AgedOrder" = some 5 by kernel_rfl).symm.trans hf) |>.symm
  obtain rfl : fn = Tryd.f5 := (Option.some.inj (Tryd.func5.symm.trans hfn)).symm
  refine ⟨by kernel_rfl, fun j t ht => ?_⟩
  rw [Tryd.params5] at ht
  have hm : t ∈ [22, 57, 3] := by simpa using Array.mem_of_getElem? ht
  have hall : ([22, 57, 3].all fun u => !Tryd.prog.wantsStandIn u) = true := by kernel_rfl
  exact (show Tryd.prog.wantsStandIn t = false by simpa using List.all_eq_true.1 hall t hm)
end Go.Proofs.YtildpgfhahmgmaaDoor.agedOrder
namespace Go.Proofs.YtildpgfhahmgmaaDoor
theorem agedOrder_card : Rows.AgedOrderCardSaid :=
  Claim7.holds_tied_plain_at .later [] _ _ _ _ agedOrder.over (fun _ h => by cases h) (by kernel_rfl) (fun _ h => by cases h) agedOrder_row_tie rfl ⟨rfl, rfl⟩ (by kernel_rfl) rfl agedOrder.plain (by kernel_rfl)
#print axioms agedOrder_card
end Go.Proofs.YtildpgfhahmgmaaDoor
