import Derived.Test.YtildpgfhahmgmaaDoorQyB
import Derived.Test.YtildpgfhahmgmaaDoorFmA
import Derived.Test.YtildpgfhahmgmaaDoorAcA
import Derived.Deep.Slices
import Derived.SizedLaws
import Derived.Test.YtildpgfhahmgmaaDoorDlC
import Derived.Test.YtildpgfhahmgmaaDoorStE
import Derived.Test.YtildpgfhahmgmaaDoorSmA
import Derived.Test.YtildpgfhahmgmaaDoorDsA
import Derived.Laws.OwnMore
import Derived.Test.YtildpgfhahmgmaaDoorTie
import Derived.Test.YtildpgfhahmgmaaDoorCards
import Derived.ShutString
import Derived.ChangeMaps5
import Derived.ChangeOld
import Derived.Handy
import Derived.Lay
import Derived.Lib.LaidTab
import Derived.Stop.LaidErr
import Derived.SevenTiedAt
import Derived.Deep.DeepHandedRow
import Derived.Deep.DeepWitnessRowRef
/- The laws' place (32), sum (31), the document's IsDay (33). -/
namespace Go.Proofs.YtildpgfhahmgmaaDoor
open Go Go.Shelf Go.ChangeShapes Go.WideShapes Go.ChangeAt Go.RowKit Go.Maps
set_option linter.unusedVariables false
def plcS (n : Int) : Nat := if n ≤ 0 then 0 else if n ≤ 30 then 1 else if n ≤ 60 then 2 else if n ≤ 90 then 3 else 4
theorem plcS_le (n : Int) : plcS n ≤ 4 := by unfold plcS; (repeat' split) <;> omega
set_option maxRecDepth 100000 in
set_option maxHeartbeats 4000000 in
theorem place_any {n : Int} (h1 : -1000000000 ≤ n) (h2 : n ≤ 1000000000) (w : World) : Calls Tryd.prog 32 #[.int .i64 n] w fun e w' => e = .returned (.int .i64 (plcS n : Int)) ∧ w' = w := by
  go_enter Tryd.func32, Tryd.ntmps32
  go_wp2_with fail
  go_loopw [0, 3] (fun v0 v3 wr => ∃ (k : Nat) (x : Int), v3 = .int .i64 k ∧ v0 = .int .i64 x ∧ k ≤ 4 ∧ Hid (x = n - 30 * k ∧ (k = 0 ∨ 30 < x + 60 ∧ 0 < k) ∧ wr = w) ∧ (-1000000200 ≤ x ∧ x ≤ 1000000000)) (fun _ v3 _ => 4 - (intOf v3).toNat)
  case atStart => exact ⟨0, n, rfl, rfl, by omega, ⟨by omega, .inl rfl, rfl⟩, by omega, by omega⟩
  case round =>
    obtain ⟨k, x, rfl, rfl, hk, hrel, hx1, hx2⟩ := hrel
    by_cases hp : 0 < x
    · by_cases hk4 : k < 4
      · have HR := hide (unhide hrel)
        clear hrel
        go_wp2_with fail
        have hq := unhide HR
        exact ⟨⟨k + 1, x - 30, by simp, rfl, by omega, ⟨by push_cast; omega, .inr ⟨by omega, by omega⟩, hq.2.2⟩, by omega, by omega⟩, by simp [intOf]; omega⟩
      · have HR := hide (unhide hrel)
        have hk5 : ¬ ((k : Int) < 4) := by omega
        clear hrel
        go_wp2_with fail
        go_ret
        obtain ⟨q1, q2, q3⟩ := unhide HR
        refine ⟨?_, q3⟩
        have e : plcS n = k := by
          unfold plcS
          (repeat' split) <;> omega
        rw [e]
        rfl
    · have HR := hide (unhide hrel)
      clear hrel
      go_wp2_with fail
      go_ret
      obtain ⟨q1, q2, q3⟩ := unhide HR
      refine ⟨?_, q3⟩
      have e : plcS n = k := by
        unfold plcS
        (repeat' split) <;> omega
      rw [e]
      rfl
theorem isDay33_any (d : Int) (w : World) : Calls Tryd.prog 33 #[.int .i64 d] w fun e w' => e = .returned (.bool (dayB d)) ∧ w' = w := by
  by_cases h1 : d ≥ 1
  · by_cases h2 : d ≤ 3652059
    · have e : dayB d = true := by unfold dayB; rw [decide_eq_true h1, decide_eq_true h2]; rfl
      rw [e]
      go_enter Tryd.func33, Tryd.ntmps33
      go_wp2_with fail
      go_ret
      exact ⟨rfl, rfl⟩
    · have e : dayB d = false := by unfold dayB; rw [decide_eq_false h2, Bool.and_false]
      rw [e]
      go_enter Tryd.func33, Tryd.ntmps33
      go_wp2_with fail
      go_ret
      exact ⟨rfl, rfl⟩
  · have e : dayB d = false := by unfold dayB; rw [decide_eq_false h1, Bool.false_and]
    rw [e]
    go_enter Tryd.func33, Tryd.ntmps33
    go_wp2_with fail
    go_ret
    exact ⟨rfl, rfl⟩
set_option maxRecDepth 100000 in
set_option maxHeartbeats 4000000 in
theorem sum_any {f : Nat → Int} (h : ∀ j, j ≤ 4 → 0 ≤ f j ∧ f j ≤ 1000000000000) (w : World) : Calls Tryd.prog 31 #[ag5 f] w fun e w' => e = .returned (.int .i64 (f 0 + f 1 + f 2 + f 3 + f 4)) ∧ Below w.heap.size w w' := by
  obtain ⟨X, hX⟩ : ∃ X, X = w.alloc (obj5 f) := ⟨_, rfl⟩
  have hr0 : X.heap[w.heap.size]? = some (obj5 f) := by rw [hX]; exact heap_new _ _
  have c0 := cell5 hr0 (n := 0) (by omega); have c1 := cell5 hr0 (n := 1) (by omega); have c2 := cell5 hr0 (n := 2) (by omega); have c3 := cell5 hr0 (n := 3) (by omega); have c4 := cell5 hr0 (n := 4) (by omega)
  have hb : Below w.heap.size w X := by rw [hX]; exact (Below.refl _ _).alloc (Nat.le_refl _) _
  have HB := hide hb
  have h0 := h 0 (by omega); have h1 := h 1 (by omega); have h2 := h 2 (by omega); have h3 := h 3 (by omega); have h4 := h 4 (by omega)
  have HX : Hid (X = w.alloc (obj5 f)) := hX
  unfold obj5 at HX
  unfold ag5
  clear hX hr0 hb h
  go_enter Tryd.func31, Tryd.ntmps31
  go_upto_region 1 with fail
  rw [← unhide HX]
  clear HX
  go_wp2_with fail
  go_ret
  exact ⟨rfl, unhide HB⟩
end Go.Proofs.YtildpgfhahmgmaaDoor
/- AgedTwins (4): the views side by side. -/
namespace Go.Proofs.YtildpgfhahmgmaaDoor
open Go Go.Shelf Go.ChangeShapes Go.WideShapes Go.ChangeAt Go.RowKit Go.Maps
set_option linter.unusedVariables false
def ld53 (x : Value) : Sem Value := Instr.loadAt 53 x
theorem ld53_is (x : Value) : Instr.loadAt 53 x = ld53 x := rfl
theorem size53 : (Tryd.prog.info? 53).map (·.size) = some 15 := by kernel_rfl
theorem run_ld53 {w : World} {b o : Nat} {x : OpV} (h : w.rangeAt b o x.arr.toList) : (ld53 (.pointer (some ⟨b, o, none⟩))).run Tryd.prog w = .ok (.agg x.arr) w :=
  run_loadAt_mid (P := Tryd.prog) w b o 53 x.arr.toList _ h Tryd.underlying53 rfl size53
def OpSl (o : OpV) : Prop := ∃ q1 l1 e1 q2 l2 e2, o.vcs = .slice q1 l1 e1 ∧ o.vas = .slice q2 l2 e2
/-- acts that lie one behind the other -/
def OpsIn (W : World) (p : Option Addr) (L : List OpV) : Prop := ∀ k (hk : k < L.length), ∃ b off, p = some ⟨b, off, none⟩ ∧ b < W.heap.size ∧ W.rangeAt b (off + k * 15) L[k].arr.toList
/-- a view made since W -/
structure Va (W w : World) (d : Nat) (S : Nat → Prop) (C : List Cl) (A : List Al) (g : Int) : Prop where
  bel : Below W.heap.size W w
  vw : Vw w d S C A g
  ge : ∀ b, S b → W.heap.size ≤ b
structure Szs (C : List Cl) (A : List Al) : Prop where
  ck : ∀ c ∈ C, c.key.size ≤ maxLen ∧ c.acc.size ≤ maxLen
  ai : ∀ a ∈ A, a.inv.size ≤ maxLen
theorem Szs.nil : Szs [] [] := ⟨fun c h => (by cases h), fun a h => (by cases h)⟩
theorem Szs.act {C : List Cl} {A : List Al} {o : OpV} (h : Szs C A) (ho : OpOk o) : Szs (actC C o) (actA C A o) := by
  refine ⟨fun c hc => ?_, fun a ha => ?_⟩
  · unfold actC at hc
    split at hc
    · rcases List.mem_append.1 hc with hc | hc
      · exact h.ck c hc
      · rw [List.mem_singleton.1 hc]; exact ⟨ho.k, ho.a⟩
    · exact h.ck c hc
  · unfold actA at ha
    split at ha
    · rcases List.mem_append.1 ha with ha | ha
      · exact h.ai a ha
      · rw [List.mem_singleton.1 ha]; exact ho.i
    · exact h.ai a ha
theorem Va.below {W w w' : World} {d : Nat} {S : Nat → Prop} {C : List Cl} {A : List Al} {g : Int} (h : Va W w d S C A g) (hb : Below w.heap.size w w') : Va W w' d S C A g :=
  ⟨h.bel.trans (hb.mono h.bel.size), h.vw.below hb, h.ge⟩
theorem Va.next {W w w' : World} {d : Nat} {S : Nat → Prop} {C C' : List Cl} {A A' : List Al} {g g' : Int} (h : Va W w d S C A g) (hn : VwNext w w' d S C' A' g') : ∃ S', Va W w' d S' C' A' g' ∧ Fr w w' S ∧ ∀ b, S' b → S b ∨ w.heap.size ≤ b := by
  obtain ⟨S', h1, h2, h3⟩ := hn
  refine ⟨S', ⟨h.bel.trans (h2.below h.bel.size (fun k hk hs => by have := h.ge k hs; omega)), h1, fun b hs => ?_⟩, h2, h3⟩
  rcases h3 b hs with hb | hb
  · exact h.ge b hb
  · exact Nat.le_trans h.bel.size hb
theorem Va.beside {W w w' : World} {d : Nat} {S X : Nat → Prop} {C : List Cl} {A : List Al} {g : Int} (h : Va W w d S C A g) (hf : Fr w w' X) (hx : ∀ b, S b → ¬ X b) (hb : Below W.heap.size W w') : Va W w' d S C A g := ⟨hb, h.vw.fr hf hx, h.ge⟩
theorem Va.made {W w w' : World} {C : List Cl} {A : List Al} {g : Int} (hb : Below W.heap.size W w) (h : Made w w' C A g) : ∃ S, Va W w' w.heap.size S C A g ∧ ∀ b, S b → w.heap.size ≤ b := by
  obtain ⟨S, h1, h2⟩ := h.vw
  exact ⟨S, ⟨hb.trans (h.bel.mono hb.size), h1, fun b hs => Nat.le_trans hb.size (h2 b hs)⟩, h2⟩
/-- the view, and its twin if there is one -/
def Tw (W w : World) (dv : Nat) (v6 : Value) (C : List Cl) (A : List Al) (g : Int) : Prop :=
  ∃ Sv, Va W w dv Sv C A g ∧ Szs C A ∧ ∀ dw, v6 = .pointer (some ⟨dw, 0, none⟩) → ∃ Sw, Va W w dw Sw C A g ∧ ∀ b, Sv b → ¬ Sw b
theorem Tw.below {W w w' : World} {dv : Nat} {v6 : Value} {C : List Cl} {A : List Al} {g : Int} (h : Tw W w dv v6 C A g) (hb : Below w.heap.size w w') : Tw W w' dv v6 C A g := by
  obtain ⟨Sv, h1, h2, h3⟩ := h
  exact ⟨Sv, h1.below hb, h2, fun dw e => (h3 dw e).imp fun Sw hh => ⟨hh.1.below hb, hh.2⟩⟩
/-- the twin is made anew -/
theorem Tw.made {W w w2 w' : World} {dv : Nat} {v6 : Value} {C : List Cl} {A : List Al} {g : Int} (h : Tw W w dv v6 C A g) (hb : Below w.heap.size w w2) (hm : Made w2 w' C A g) : Tw W w' dv (.pointer (some ⟨w2.heap.size, 0, none⟩)) C A g := by
  obtain ⟨Sv, h1, h2, h3⟩ := h
  have h4 := h1.below hb
  obtain ⟨S, h5, h6⟩ := Va.made h4.bel hm
  refine ⟨Sv, h4.below hm.bel, h2, fun dw e => ?_⟩
  have e2 : dw = w2.heap.size := by
    have e3 := Value.pointer.inj e
    have e4 := Option.some.inj e3
    exact (congrArg Addr.block e4).symm
  subst e2
  refine ⟨S, h5, fun b hv hs => ?_⟩
  have := h6 b hs
  have := h4.vw.lt b hv
  omega
/-- behind the act at the first, no twin -/
theorem Tw.act0 {W w w' : World} {dv : Nat} {Sv : Nat → Prop} {C : List Cl} {A : List Al} {g : Int} {o : OpV} (h1 : Va W w dv Sv C A g) (h2 : Szs C A) (ho : OpOk o) (hn : VwNext w w' dv Sv (actC C o) (actA C A o) (actG g o)) : Tw W w' dv (.pointer none) (actC C o) (actA C A o) (actG g o) := by
  obtain ⟨S', h4, _, _⟩ := h1.next hn
  exact ⟨S', h4, h2.act ho, fun dw e => by cases e⟩
theorem VwNext.blk {w w' : World} {d b : Nat} {S : Nat → Prop} {C : List Cl} {A : List Al} {g : Int} {x : Obj} (h : VwNext w w' d S C A g) (hs : ¬ S b) (hb : w.heap[b]? = some x) : w'.heap[b]? = some x := by
  obtain ⟨S', _, h2, _⟩ := h
  rw [h2.block b (heap_lt hb) hs]
  exact hb
theorem blk_below {w w' : World} {b : Nat} {x : Obj} (h : Below w.heap.size w w') (hb : w.heap[b]? = some x) : w'.heap[b]? = some x := (h.block b (heap_lt hb)).trans hb
/-- the first has acted, the twin not yet; a third one may stand beside -/
structure Hlf (W w : World) (dv dw : Nat) (Sv Sw : Nat → Prop) (C C' : List Cl) (A A' : List Al) (g g' : Int) : Prop where
  v : Va W w dv Sv C' A' g'
  u : Va W w dw Sw C A g
  s : Szs C' A'
  ap : ∀ b, Sv b → ¬ Sw b
theorem Hlf.of {W w w' : World} {dv dw : Nat} {Sv Sw : Nat → Prop} {C : List Cl} {A : List Al} {g : Int} {o : OpV} (h1 : Va W w dv Sv C A g) (h2 : Szs C A) (h4 : Va W w dw Sw C A g) (h5 : ∀ b, Sv b → ¬ Sw b) (ho : OpOk o) (hn : VwNext w w' dv Sv (actC C o) (actA C A o) (actG g o)) : ∃ Sv', Hlf W w' dv dw Sv' Sw C (actC C o) A (actA C A o) g (actG g o) := by
  obtain ⟨S', h6, h7, h8⟩ := h1.next hn
  refine ⟨S', h6, h4.beside h7 (fun b hw hv => h5 b hv hw) h6.bel, h2.act ho, fun b hv hw => ?_⟩
  rcases h8 b hv with h | h
  · exact h5 b h hw
  · have := h4.vw.lt b hw
    omega
theorem Hlf.below {W w w' : World} {dv dw : Nat} {Sv Sw : Nat → Prop} {C C' : List Cl} {A A' : List Al} {g g' : Int} (h : Hlf W w dv dw Sv Sw C C' A A' g g') (hb : Below w.heap.size w w') : Hlf W w' dv dw Sv Sw C C' A A' g g' := ⟨h.v.below hb, h.u.below hb, h.s, h.ap⟩
/-- all three tell the same -/
structure Thr (W w : World) (dv dw dx : Nat) (Sv Sw Sx : Nat → Prop) (C : List Cl) (A : List Al) (g : Int) : Prop where
  v : Va W w dv Sv C A g
  u : Va W w dw Sw C A g
  x : Va W w dx Sx C A g
  s : Szs C A
  ap : ∀ b, Sv b → ¬ Sw b
theorem Thr.below {W w w' : World} {dv dw dx : Nat} {Sv Sw Sx : Nat → Prop} {C : List Cl} {A : List Al} {g : Int} (h : Thr W w dv dw dx Sv Sw Sx C A g) (hb : Below w.heap.size w w') : Thr W w' dv dw dx Sv Sw Sx C A g := ⟨h.v.below hb, h.u.below hb, h.x.below hb, h.s, h.ap⟩
theorem Thr.of {W w w2 w3 w' : World} {dv dw : Nat} {Sv Sw : Nat → Prop} {C : List Cl} {A : List Al} {g : Int} {o : OpV} (h : Hlf W w dv dw Sv Sw C (actC C o) A (actA C A o) g (actG g o)) (hb : Below w.heap.size w w2) (hm : Made w2 w3 (actC C o) (actA C A o) (actG g o)) (hn : VwNext w3 w' dw Sw (actC C o) (actA C A o) (actG g o)) : ∃ Sw' Sx, Thr W w' dv dw w2.heap.size Sv Sw' Sx (actC C o) (actA C A o) (actG g o) := by
  have h2 := h.below hb
  obtain ⟨Sx, h5, h6⟩ := Va.made h2.v.bel hm
  have h3 := h2.below hm.bel
  obtain ⟨S', h7, h8, h9⟩ := h3.u.next hn
  refine ⟨S', Sx, h3.v.beside h8 h.ap h7.bel, h7, h5.beside h8 (fun b hx hw => ?_) h7.bel, h.s, fun b hv hw => ?_⟩
  · have := h6 b hx
    have := h2.u.vw.lt b hw
    omega
  · rcases h9 b hw with hh | hh
    · exact h.ap b hv hh
    · have := h3.v.vw.lt b hv
      omega
theorem Thr.tw {W w : World} {dv dw dx : Nat} {Sv Sw Sx : Nat → Prop} {C : List Cl} {A : List Al} {g : Int} (h : Thr W w dv dw dx Sv Sw Sx C A g) : Tw W w dv (.pointer (some ⟨dw, 0, none⟩)) C A g :=
  ⟨Sv, h.v, h.s, fun d e => by
    have e4 := Option.some.inj (Value.pointer.inj e)
    have e5 : dw = d := congrArg Addr.block e4
    subst e5
    exact ⟨Sw, h.u, h.ap⟩⟩
end Go.Proofs.YtildpgfhahmgmaaDoor
/- A list of acts as an argument, opened. -/
namespace Go.Proofs.YtildpgfhahmgmaaDoor
open Go Go.Shelf Go.ChangeShapes Go.WideShapes Go.ChangeAt Go.RowKit Go.Maps Go.Sort Go.Deep
set_option linter.unusedVariables false
theorem cells53 : Tryd.prog.cellsOf 53 = 15 := by kernel_rfl
theorem cells37 : Tryd.prog.cellsOf 37 = 5 := by kernel_rfl
theorem cells51 : Tryd.prog.cellsOf 51 = 4 := by kernel_rfl
theorem cells3 : Tryd.prog.cellsOf 3 = 1 := by kernel_rfl
theorem cells9 : Tryd.prog.cellsOf 9 = 1 := by kernel_rfl
theorem cells23 : Tryd.prog.cellsOf 23 = 1 := by kernel_rfl
theorem cells25 : Tryd.prog.cellsOf 25 = 1 := by kernel_rfl
theorem list15 {α : Type} {cs : List α} (h : cs.length = 15) : ∃ c0 c1 c2 c3 c4 c5 c6 c7 c8 c9 c10 c11 c12 c13 c14, cs = [c0, c1, c2, c3, c4, c5, c6, c7, c8, c9, c10, c11, c12, c13, c14] := by
  match cs, h with
  | [c0, c1, c2, c3, c4, c5, c6, c7, c8, c9, c10, c11, c12, c13, c14], _ => exact ⟨c0, c1, c2, c3, c4, c5, c6, c7, c8, c9, c10, c11, c12, c13, c14, rfl⟩
theorem weights_all_mem {H : Type} {P : Program} {e : TypeId} {d : DataW H} : ∀ {l : List (DataW H)}, d ∈ l → ∀ n ∈ d.weights P e, n ∈ DataW.weightsAll P e l
  | [], h, _, _ => by cases h
  | x :: r, h, n, hn => by
    simp only [DataW.weightsAll, List.mem_append]
    rcases List.mem_cons.1 h with rfl | h
    · exact .inl hn
    · exact .inr (weights_all_mem h n hn)
section
variable {H : Type} {enc : TypeId × Value → H} {W : World}
theorem trod_struct8 {P : Program} {w : World} {base : Nat} {spare : Nat → Bool} {held : Bool} {t : TypeId} {f0 f1 f2 f3 f4 f5 f6 f7 : Field} {fuel : Nat} {cs : List Value} {x : DataW H × List MemPlace} (ht : P.underlying t = some (.struct #[f0, f1, f2, f3, f4, f5, f6, f7])) (h : DataW.trod enc P w base spare held fuel t cs = some x) :
    ∃ (y0 y1 y2 y3 y4 y5 y6 y7 : DataW H × List MemPlace) (n : Nat), x.1 = .agg [y0.1, y1.1, y2.1, y3.1, y4.1, y5.1, y6.1, y7.1] ∧ cs.length = P.cellsOf t ∧
      DataW.trod enc P w base spare held n f0.type ((cs.drop f0.offset).take (P.cellsOf f0.type)) = some y0 ∧
      DataW.trod enc P w base spare held n f1.type ((cs.drop f1.offset).take (P.cellsOf f1.type)) = some y1 ∧
      DataW.trod enc P w base spare held n f2.type ((cs.drop f2.offset).take (P.cellsOf f2.type)) = some y2 ∧
      DataW.trod enc P w base spare held n f3.type ((cs.drop f3.offset).take (P.cellsOf f3.type)) = some y3 ∧
      DataW.trod enc P w base spare held n f4.type ((cs.drop f4.offset).take (P.cellsOf f4.type)) = some y4 ∧
      DataW.trod enc P w base spare held n f5.type ((cs.drop f5.offset).take (P.cellsOf f5.type)) = some y5 ∧
      DataW.trod enc P w base spare held n f6.type ((cs.drop f6.offset).take (P.cellsOf f6.type)) = some y6 ∧
      DataW.trod enc P w base spare held n f7.type ((cs.drop f7.offset).take (P.cellsOf f7.type)) = some y7 := by
  obtain ⟨xs, n, _, rfl, hl, hlen, hf⟩ := DataW.trod_struct ht h
  match xs, hlen with
  | [y0, y1, y2, y3, y4, y5, y6, y7], _ => exact ⟨y0, y1, y2, y3, y4, y5, y6, y7, n, by simp, hl, by simpa using hf 0 f0 rfl, by simpa using hf 1 f1 rfl, by simpa using hf 2 f2 rfl, by simpa using hf 3 f3 rfl, by simpa using hf 4 f4 rfl, by simpa using hf 5 f5 rfl, by simpa using hf 6 f6 rfl, by simpa using hf 7 f7 rfl⟩
theorem trod_five {P : Program} {w : World} {base : Nat} {spare : Nat → Bool} {held : Bool} {t : TypeId} {f0 f1 f2 f3 f4 : Field} {fuel : Nat} {cs : List Value} {x : DataW H × List MemPlace} (ht : P.underlying t = some (.struct #[f0, f1, f2, f3, f4])) (h : DataW.trod enc P w base spare held fuel t cs = some x) :
    ∃ (y0 y1 y2 y3 y4 : DataW H × List MemPlace) (n : Nat), x.1 = .agg [y0.1, y1.1, y2.1, y3.1, y4.1] ∧ DataW.trod enc P w base spare held n f0.type ((cs.drop f0.offset).take (P.cellsOf f0.type)) = some y0 ∧
      DataW.trod enc P w base spare held n f1.type ((cs.drop f1.offset).take (P.cellsOf f1.type)) = some y1 ∧ DataW.trod enc P w base spare held n f2.type ((cs.drop f2.offset).take (P.cellsOf f2.type)) = some y2 ∧
      DataW.trod enc P w base spare held n f3.type ((cs.drop f3.offset).take (P.cellsOf f3.type)) = some y3 ∧ DataW.trod enc P w base spare held n f4.type ((cs.drop f4.offset).take (P.cellsOf f4.type)) = some y4 := by
  obtain ⟨xs, n, _, rfl, hl, hlen, hf⟩ := DataW.trod_struct ht h
  match xs, hlen with
  | [y0, y1, y2, y3, y4], _ => exact ⟨y0, y1, y2, y3, y4, n, by simp, by simpa using hf 0 f0 rfl, by simpa using hf 1 f1 rfl, by simpa using hf 2 f2 rfl, by simpa using hf 3 f3 rfl, by simpa using hf 4 f4 rfl⟩
theorem trod_four {P : Program} {w : World} {base : Nat} {spare : Nat → Bool} {held : Bool} {t : TypeId} {f0 f1 f2 f3 : Field} {fuel : Nat} {cs : List Value} {x : DataW H × List MemPlace} (ht : P.underlying t = some (.struct #[f0, f1, f2, f3])) (h : DataW.trod enc P w base spare held fuel t cs = some x) :
    ∃ (y0 y1 y2 y3 : DataW H × List MemPlace) (n : Nat), x.1 = .agg [y0.1, y1.1, y2.1, y3.1] ∧ DataW.trod enc P w base spare held n f0.type ((cs.drop f0.offset).take (P.cellsOf f0.type)) = some y0 ∧
      DataW.trod enc P w base spare held n f1.type ((cs.drop f1.offset).take (P.cellsOf f1.type)) = some y1 ∧ DataW.trod enc P w base spare held n f2.type ((cs.drop f2.offset).take (P.cellsOf f2.type)) = some y2 ∧
      DataW.trod enc P w base spare held n f3.type ((cs.drop f3.offset).take (P.cellsOf f3.type)) = some y3 := by
  obtain ⟨xs, n, _, rfl, hl, hlen, hf⟩ := DataW.trod_struct ht h
  match xs, hlen with
  | [y0, y1, y2, y3], _ => exact ⟨y0, y1, y2, y3, n, by simp, by simpa using hf 0 f0 rfl, by simpa using hf 1 f1 rfl, by simpa using hf 2 f2 rfl, by simpa using hf 3 f3 rfl⟩
theorem size_str {s : ByteArray} {y : DataW H} (e : y = .lit (.string s.data.toList)) (hw : ∀ m ∈ y.weights Tryd.prog 9, m ≤ reachBytes) : s.size ≤ maxLen :=
  Nat.le_trans (hw s.size (by rw [e]; simp [DataW.weights])) (by decide)
set_option maxRecDepth 100000 in
theorem open_op {fuel : Nat} {cs : List Value} {x : DataW H × List MemPlace} (h : DataW.trod enc Tryd.prog W 0 (fun _ => true) true fuel 53 cs = some x) (hw : ∀ n ∈ x.1.weights Tryd.prog 53, n ≤ reachBytes) :
    ∃ o : OpV, cs = o.arr.toList ∧ OpOk o ∧ OpSl o := by
  obtain ⟨y0, y1, y2, y3, y4, y5, y6, y7, n, hx, hl, g0, g1, g2, g3, g4, g5, g6, g7⟩ := trod_struct8 Tryd.underlying53 h
  rw [cells53] at hl
  obtain ⟨c0, c1, c2, c3, c4, c5, c6, c7, c8, c9, c10, c11, c12, c13, c14, rfl⟩ := list15 hl
  clear h hl
  simp only [cells3, cells9, cells37, cells51, cells23, cells25, List.drop_zero, List.drop_succ_cons, List.take_succ_cons, List.take_zero] at g0 g1 g2 g3 g4 g5 g6 g7
  obtain ⟨n0, e0, _, _⟩ := DataW.trod_int Tryd.underlying3 g0
  obtain ⟨n1, e1, _, _⟩ := DataW.trod_int Tryd.underlying3 g1
  obtain ⟨n2, e2, _, _⟩ := DataW.trod_int Tryd.underlying3 g2
  obtain ⟨s12, e12, x12, z12⟩ := DataW.trod_string Tryd.underlying9 g5
  have w3 : ∀ m ∈ y3.1.weights Tryd.prog 37, m ≤ reachBytes := fun m hm => hw m (by
    rw [hx]
    simp only [DataW.weights, Tryd.underlying53]
    exact DataW.weights_mem_each (j := 3) (t := 37) rfl rfl m hm)
  have w4 : ∀ m ∈ y4.1.weights Tryd.prog 51, m ≤ reachBytes := fun m hm => hw m (by
    rw [hx]
    simp only [DataW.weights, Tryd.underlying53]
    exact DataW.weights_mem_each (j := 4) (t := 51) rfl rfl m hm)
  have w5 : ∀ m ∈ y5.1.weights Tryd.prog 9, m ≤ reachBytes := fun m hm => hw m (by
    rw [hx]
    simp only [DataW.weights, Tryd.underlying53]
    exact DataW.weights_mem_each (j := 5) (t := 9) rfl rfl m hm)
  obtain ⟨u0, u1, u2, u3, u4, m, hu, k0, k1, k2, k3, k4⟩ := trod_five Tryd.underlying37 g3
  obtain ⟨v0, v1, v2, v3, m', hv, l0, l1, l2, l3⟩ := trod_four Tryd.underlying51 g4
  simp only [cells3, cells9, cells2, List.drop_zero, List.drop_succ_cons, List.take_succ_cons, List.take_zero] at k0 k1 k2 k3 k4 l0 l1 l2 l3
  obtain ⟨s3, e3, x3, z3⟩ := DataW.trod_string Tryd.underlying9 k0
  obtain ⟨s4, e4, x4, z4⟩ := DataW.trod_string Tryd.underlying9 k1
  obtain ⟨n5, e5, _, _⟩ := DataW.trod_int Tryd.underlying3 k2
  obtain ⟨n6, e6, _, _⟩ := DataW.trod_int Tryd.underlying3 k3
  obtain ⟨n7, e7, hh7, hb7⟩ := DataW.trod_int Tryd.underlying2 k4
  obtain ⟨s8, e8, x8, z8⟩ := DataW.trod_string Tryd.underlying9 l0
  obtain ⟨s9, e9, x9, z9⟩ := DataW.trod_string Tryd.underlying9 l1
  obtain ⟨n10, e10, _, _⟩ := DataW.trod_int Tryd.underlying3 l2
  obtain ⟨n11, e11, _, _⟩ := DataW.trod_int Tryd.underlying2 l3
  have q0 : ∀ m ∈ u0.1.weights Tryd.prog 9, m ≤ reachBytes := fun m hm => w3 m (by
    rw [hu]
    simp only [DataW.weights, Tryd.underlying37]
    exact DataW.weights_mem_each (j := 0) (t := 9) rfl rfl m hm)
  have q1 : ∀ m ∈ u1.1.weights Tryd.prog 9, m ≤ reachBytes := fun m hm => w3 m (by
    rw [hu]
    simp only [DataW.weights, Tryd.underlying37]
    exact DataW.weights_mem_each (j := 1) (t := 9) rfl rfl m hm)
  have q2 : ∀ m ∈ v1.1.weights Tryd.prog 9, m ≤ reachBytes := fun m hm => w4 m (by
    rw [hv]
    simp only [DataW.weights, Tryd.underlying51]
    exact DataW.weights_mem_each (j := 1) (t := 9) rfl rfl m hm)
  obtain ⟨r1, m1, t1, e13⟩ : ∃ a l c, [c13] = [Value.slice a l c] := by
    rcases open_slice Tryd.underlying23 g6 with ⟨hcs, _⟩ | ⟨a', len', cap', _, _, _, _, hcs, _⟩
    · exact ⟨_, _, _, hcs⟩
    · exact ⟨_, _, _, hcs⟩
  obtain ⟨r2, m2, t2, e14⟩ : ∃ a l c, [c14] = [Value.slice a l c] := by
    rcases open_slice Tryd.underlying25 g7 with ⟨hcs, _⟩ | ⟨a', len', cap', _, _, _, _, hcs, _⟩
    · exact ⟨_, _, _, hcs⟩
    · exact ⟨_, _, _, hcs⟩
  simp only [List.cons.injEq, and_true] at e13 e14 e0 e1 e2 e3 e4 e5 e6 e7 e8 e9 e10 e11 e12
  refine ⟨⟨n0, n1, n2, ⟨s3, s4, n5, n6, n7⟩, ⟨s8, s9, n10, n11⟩, s12, c13, c14⟩, ?_, ⟨size_str (congrArg Prod.fst x3) q0, size_str (congrArg Prod.fst x4) q1, size_str (congrArg Prod.fst x9) q2, size_str (congrArg Prod.fst x12) w5, ?_⟩, ⟨r1, m1, t1, r2, m2, t2, e13, e14⟩⟩
  · rw [e0, e1, e2, e3, e4, e5, e6, e7, e8, e9, e10, e11, e12]
    rfl
  · show n7 ≤ 9223372036854775807
    simp [Lit.wf, IntKind.min, IntKind.max, IntKind.signed, IntKind.bits] at hb7
    omega
set_option maxRecDepth 100000 in
theorem spot_none {base t e : Nat} {x : Addr} {len cap : Nat} (ht : Tryd.prog.underlying t = some (.slice e)) (hok : Value.okWide Tryd.prog W .any base t (.slice (some x) len cap)) : x.spot = none := by
  have h1 : Cell.okWide Tryd.prog W .any base t (.slice (some x) len cap) := by
    have h2 := hok
    unfold Value.okWide at h2
    rw [ht] at h2
    exact h2
  unfold Cell.okWide at h1
  rw [ht] at h1
  simp only [Cell.ok, ht, World.has] at h1
  exact h1.2.2.2.1
instance : Inhabited OpV := ⟨⟨0, 0, 0, ⟨⟨#[]⟩, ⟨#[]⟩, 0, 0, 0⟩, ⟨⟨#[]⟩, ⟨#[]⟩, 0, 0⟩, ⟨#[]⟩, .bool false, .bool false⟩⟩
set_option maxRecDepth 100000 in
theorem open_ops {base : Nat} {v : Value} {d : DataW H} {p : List MemPlace} (hok : Value.okWide Tryd.prog W .any base 44 v) (h : ∃ fuel, DataW.trod enc Tryd.prog W 0 (fun _ => true) true fuel 44 v.cells.toList = some (d, p)) (hw : ∀ n ∈ d.weights Tryd.prog 44, n ≤ reachBytes) :
    ∃ (pu : Option Addr) (cu : Nat) (L : List OpV), v = .slice pu L.length cu ∧ L.length ≤ maxLen ∧ OpsIn W pu L ∧ ∀ o ∈ L, OpOk o ∧ OpSl o := by
  obtain ⟨a0, len0, cap0, rfl⟩ := okWide_slice Tryd.underlying44 hok
  obtain ⟨fuel, hf⟩ := h
  rcases open_slice Tryd.underlying44 hf with ⟨hcs, _⟩ | ⟨a, len, cap, m, n, D, Pl, hcs, hb, hl, hm, hmm, hx, hall⟩
  · simp [Value.cells] at hcs
    obtain ⟨rfl, rfl, rfl⟩ := hcs
    exact ⟨none, 0, [], rfl, Nat.zero_le _, fun k hk => by simp at hk, fun o ho => by cases ho⟩
  · simp [Value.cells] at hcs
    obtain ⟨rfl, rfl, rfl⟩ := hcs
    have hmm' : m = cap0 := by simpa using hmm
    have hspot := spot_none Tryd.underlying44 hok
    obtain ⟨b, off, sp⟩ := a
    simp only at hspot
    subst hspot
    have hd : d = .slice ((List.range len0).map D) ((List.range (m - len0)).map fun j => D (len0 + j)) := (Prod.mk.inj hx).1
    have hq : ∀ i, i < len0 → ∃ o : OpV, W.rangeAt b (off + i * 15) o.arr.toList ∧ OpOk o ∧ OpSl o := fun i hi => by
      obtain ⟨cs', h1, h2⟩ := hall i (by omega)
      obtain ⟨o, hX, hO⟩ := open_op h2 (fun n hn => hw n (by
        rw [hd]
        simp only [DataW.weights, Tryd.underlying44, List.mem_cons, List.mem_append]
        exact .inr (.inl (weights_all_mem (List.mem_map.2 ⟨i, List.mem_range.2 hi, rfl⟩) n hn))))
      refine ⟨o, fun j u hj => ?_, hO⟩
      rw [cells53] at h1
      obtain ⟨_, hlen, hc⟩ := World.cells?_some h1
      rw [← hX] at hj
      have hj' : j < 15 := by
        have := (List.getElem?_eq_some_iff.1 hj).1
        omega
      have h3 := hc j hj'
      rw [hj, add_add, Addr.add_mid] at h3
      rw [Nat.add_assoc]
      exact h3
    obtain ⟨X, hX⟩ := choose_lt (α := OpV) hq
    have hlen : ((List.range len0).map X).length = len0 := by simp
    refine ⟨some ⟨b, off, none⟩, cap0, (List.range len0).map X, by rw [hlen], by rw [hlen]; omega, fun k hk => ?_, fun o ho => ?_⟩
    · have hk' : k < len0 := by rw [hlen] at hk; exact hk
      refine ⟨b, off, rfl, ?_, ?_⟩
      · have := (hX k hk').1 0 _ rfl
        exact World.block_lt_of_cell? W _ this
      · have e : ((List.range len0).map X)[k] = X k := by simp
        rw [e]
        exact (hX k hk').1
    · obtain ⟨i, hi, rfl⟩ := List.mem_map.1 ho
      exact (hX i (List.mem_range.1 hi)).2
end
end Go.Proofs.YtildpgfhahmgmaaDoor
/- A list of deals as an argument, opened. -/
namespace Go.Proofs.YtildpgfhahmgmaaDoor
open Go Go.Shelf Go.ChangeShapes Go.WideShapes Go.ChangeAt Go.RowKit Go.Maps Go.Sort Go.Deep
set_option linter.unusedVariables false
theorem cells65 : Tryd.prog.cellsOf 65 = 5 := by kernel_rfl
theorem cells76 : Tryd.prog.cellsOf 76 = 2 := by kernel_rfl
theorem cells63 : Tryd.prog.cellsOf 63 = 1 := by kernel_rfl
theorem list5 {α : Type} {cs : List α} (h : cs.length = 5) : ∃ c0 c1 c2 c3 c4, cs = [c0, c1, c2, c3, c4] := by
  match cs, h with
  | [c0, c1, c2, c3, c4], _ => exact ⟨c0, c1, c2, c3, c4, rfl⟩
theorem list2 {α : Type} {cs : List α} (h : cs.length = 2) : ∃ c0 c1, cs = [c0, c1] := by
  match cs, h with
  | [c0, c1], _ => exact ⟨c0, c1, rfl⟩
section
variable {H : Type} {enc : TypeId × Value → H} {W : World}
theorem trod_two {P : Program} {w : World} {base : Nat} {spare : Nat → Bool} {held : Bool} {t : TypeId} {f0 f1 : Field} {fuel : Nat} {cs : List Value} {x : DataW H × List MemPlace} (ht : P.underlying t = some (.struct #[f0, f1])) (h : DataW.trod enc P w base spare held fuel t cs = some x) :
    ∃ (y0 y1 : DataW H × List MemPlace) (n : Nat), cs.length = P.cellsOf t ∧ DataW.trod enc P w base spare held n f0.type ((cs.drop f0.offset).take (P.cellsOf f0.type)) = some y0 ∧ DataW.trod enc P w base spare held n f1.type ((cs.drop f1.offset).take (P.cellsOf f1.type)) = some y1 := by
  obtain ⟨xs, n, _, rfl, hl, hlen, hf⟩ := DataW.trod_struct ht h
  match xs, hlen with
  | [y0, y1], _ => exact ⟨y0, y1, n, hl, by simpa using hf 0 f0 rfl, by simpa using hf 1 f1 rfl⟩
theorem trod_len {P : Program} {w : World} {base : Nat} {spare : Nat → Bool} {held : Bool} {t : TypeId} {fs : Array Field} {fuel : Nat} {cs : List Value} {x : DataW H × List MemPlace} (ht : P.underlying t = some (.struct fs)) (h : DataW.trod enc P w base spare held fuel t cs = some x) : cs.length = P.cellsOf t := by
  obtain ⟨xs, n, _, rfl, hl, hlen, hf⟩ := DataW.trod_struct ht h
  exact hl
theorem open_part {fuel : Nat} {cs : List Value} {x : DataW H × List MemPlace} (h : DataW.trod enc Tryd.prog W 0 (fun _ => true) true fuel 76 cs = some x) : ∃ q : Int × Int, cs = [.int .i64 q.1, .int .i64 q.2] := by
  obtain ⟨y0, y1, n, hl, g0, g1⟩ := trod_two Tryd.underlying76 h
  rw [cells76] at hl
  obtain ⟨c0, c1, rfl⟩ := list2 hl
  simp only [cells3, cells2, List.drop_zero, List.drop_succ_cons, List.take_succ_cons, List.take_zero] at g0 g1
  obtain ⟨n0, e0, _, _⟩ := DataW.trod_int Tryd.underlying3 g0
  obtain ⟨n1, e1, _, _⟩ := DataW.trod_int Tryd.underlying2 g1
  simp only [List.cons.injEq, and_true] at e0 e1
  exact ⟨(n0, n1), by rw [e0, e1]⟩
/-- the parts -/
theorem open_parts {fuel : Nat} {v : Value} {x : DataW H × List MemPlace} (h : DataW.trod enc Tryd.prog W 0 (fun _ => true) true fuel 63 [v] = some x) :
    ∃ (pp : Option Addr) (cp : Nat) (P : List (Int × Int)), v = .slice pp P.length cp ∧ P.length ≤ maxLen ∧ ∀ k (hk : k < P.length), ∃ b off, pp = some ⟨b, off, none⟩ ∧ b < W.heap.size ∧ W.rangeAt b (off + k * 2) [.int .i64 P[k].1, .int .i64 P[k].2] := by
  rcases open_slice Tryd.underlying63 h with ⟨hcs, _⟩ | ⟨a, len, cap, m, n, D, Pl, hcs, hb, hl, hm, hmm, hx, hall⟩
  · simp only [List.cons.injEq, and_true] at hcs
    exact ⟨none, 0, [], hcs, Nat.zero_le _, fun k hk => by simp at hk⟩
  · simp only [List.cons.injEq, and_true] at hcs
    have hq : ∀ i, i < len → ∃ q : Int × Int, W.cell? (a.add (i * 2 + 0)) = some (.int .i64 q.1) ∧ W.cell? (a.add (i * 2 + 1)) = some (.int .i64 q.2) := fun i hi => by
      obtain ⟨cs', h1, h2⟩ := hall i (by have : m = cap := by simpa using hmm
                                         omega)
      obtain ⟨q, hX⟩ := open_part h2
      rw [cells76] at h1
      obtain ⟨_, hlen, hc⟩ := World.cells?_some h1
      have g0 := hc 0 (by omega)
      have g1 := hc 1 (by omega)
      rw [hX, add_add] at g0 g1
      exact ⟨q, g0, g1⟩
    obtain ⟨X, hX⟩ := @choose_lt (Int × Int) ⟨(0, 0)⟩ _ _ hq
    have hlen : ((List.range len).map X).length = len := by simp
    refine ⟨some a, cap, (List.range len).map X, by rw [hlen]; exact hcs, by rw [hlen]; omega, fun k hk => ?_⟩
    have hk' : k < len := by rw [hlen] at hk; exact hk
    have e : ((List.range len).map X)[k] = X k := by simp
    obtain ⟨g0, g1⟩ := hX k hk'
    have hz := (hX 0 (by omega)).1
    have ha0 : a.add (0 * 2 + 0) = a := by simp [Addr.add]
    rw [ha0] at hz
    have hsp := World.cell?_spot hz
    obtain ⟨b, off, sp⟩ := a
    have hs2 : sp = none := hsp
    subst hs2
    refine ⟨b, off, rfl, (by have h9 := World.block_lt_of_cell? W _ g0; rw [Addr.add_mid] at h9; exact h9), fun j u hj => ?_⟩
    rw [e] at hj
    have hj2 : j < 2 := (List.getElem?_eq_some_iff.1 hj).1
    have : j = 0 ∨ j = 1 := by omega
    rcases this with rfl | rfl
    · rw [Addr.add_mid] at g0
      rw [Nat.add_assoc]
      simp only [List.getElem?_cons_zero, Option.some.injEq] at hj
      rw [← hj]
      exact g0
    · rw [Addr.add_mid] at g1
      rw [Nat.add_assoc]
      simp only [List.getElem?_cons_succ, List.getElem?_cons_zero, Option.some.injEq] at hj
      rw [← hj]
      exact g1
set_option maxRecDepth 100000 in
theorem open_deal {fuel : Nat} {cs : List Value} {x : DataW H × List MemPlace} (h : DataW.trod enc Tryd.prog W 0 (fun _ => true) true fuel 65 cs = some x) (hw : ∀ n ∈ x.1.weights Tryd.prog 65, n ≤ reachBytes) :
    ∃ d : Dl, cs = d.vals ∧ d.acc.size ≤ maxLen ∧ PtsIn W d ∧ d.np ≤ maxLen := by
  have hl := trod_len Tryd.underlying65 h
  obtain ⟨u0, u1, u2, u3, u4, m, hu, k0, k1, k2, k3, k4⟩ := trod_five Tryd.underlying65 h
  rw [cells65] at hl
  obtain ⟨c0, c1, c2, c3, c4, rfl⟩ := list5 hl
  simp only [cells3, cells9, cells2, cells63, List.drop_zero, List.drop_succ_cons, List.take_succ_cons, List.take_zero] at k0 k1 k2 k3 k4
  obtain ⟨s0, e0, x0, z0⟩ := DataW.trod_string Tryd.underlying9 k0
  obtain ⟨n1, e1, _, _⟩ := DataW.trod_int Tryd.underlying3 k1
  obtain ⟨n2, e2, _, _⟩ := DataW.trod_int Tryd.underlying3 k2
  obtain ⟨n3, e3, _, _⟩ := DataW.trod_int Tryd.underlying2 k3
  obtain ⟨pp, cp, P, e4, hP, hin⟩ := open_parts k4
  have q0 : ∀ m ∈ u0.1.weights Tryd.prog 9, m ≤ reachBytes := fun m hm => hw m (by
    rw [hu]
    simp only [DataW.weights, Tryd.underlying65]
    exact DataW.weights_mem_each (j := 0) (t := 9) rfl rfl m hm)
  simp only [List.cons.injEq, and_true] at e0 e1 e2 e3
  refine ⟨⟨s0, n1, n2, n3, pp, P.length, cp, P⟩, ?_, size_str (congrArg Prod.fst x0) q0, ⟨rfl, hin⟩, hP⟩
  rw [e0, e1, e2, e3, e4]
  rfl
set_option maxRecDepth 100000 in
theorem open_deals {base : Nat} {v : Value} {d : DataW H} {p : List MemPlace} (hok : Value.okWide Tryd.prog W .any base 22 v) (h : ∃ fuel, DataW.trod enc Tryd.prog W 0 (fun _ => true) true fuel 22 v.cells.toList = some (d, p)) (hw : ∀ n ∈ d.weights Tryd.prog 22, n ≤ reachBytes) :
    ∃ (pu : Option Addr) (cu : Nat) (L : List Dl), v = .slice pu L.length cu ∧ L.length ≤ maxLen ∧ DlsIn W pu L ∧ (∀ d ∈ L, d.acc.size ≤ maxLen) ∧ ∀ d ∈ L, PtsIn W d ∧ d.np ≤ maxLen := by
  obtain ⟨a0, len0, cap0, rfl⟩ := okWide_slice Tryd.underlying22 hok
  obtain ⟨fuel, hf⟩ := h
  rcases open_slice Tryd.underlying22 hf with ⟨hcs, _⟩ | ⟨a, len, cap, m, n, D, Pl, hcs, hb, hl, hm, hmm, hx, hall⟩
  · simp [Value.cells] at hcs
    obtain ⟨rfl, rfl, rfl⟩ := hcs
    exact ⟨none, 0, [], rfl, Nat.zero_le _, fun k hk => (by simp at hk), fun o ho => (by cases ho), fun o ho => (by cases ho)⟩
  · simp [Value.cells] at hcs
    obtain ⟨rfl, rfl, rfl⟩ := hcs
    have hmm' : m = cap0 := by simpa using hmm
    have hspot := spot_none Tryd.underlying22 hok
    obtain ⟨b, off, sp⟩ := a
    simp only at hspot
    subst hspot
    have hd : d = .slice ((List.range len0).map D) ((List.range (m - len0)).map fun j => D (len0 + j)) := (Prod.mk.inj hx).1
    have hq : ∀ i, i < len0 → ∃ o : Dl, W.rangeAt b (off + i * 5) o.vals ∧ o.acc.size ≤ maxLen ∧ PtsIn W o ∧ o.np ≤ maxLen := fun i hi => by
      obtain ⟨cs', h1, h2⟩ := hall i (by omega)
      obtain ⟨o, hX, hO⟩ := open_deal h2 (fun n hn => hw n (by
        rw [hd]
        simp only [DataW.weights, Tryd.underlying22, List.mem_cons, List.mem_append]
        exact .inr (.inl (weights_all_mem (List.mem_map.2 ⟨i, List.mem_range.2 hi, rfl⟩) n hn))))
      refine ⟨o, fun j u hj => ?_, hO⟩
      rw [cells65] at h1
      obtain ⟨_, hlen, hc⟩ := World.cells?_some h1
      rw [← hX] at hj
      have hj' : j < 5 := by
        have := (List.getElem?_eq_some_iff.1 hj).1
        omega
      have h3 := hc j hj'
      rw [hj, add_add, Addr.add_mid] at h3
      rw [Nat.add_assoc]
      exact h3
    obtain ⟨X, hX⟩ := @choose_lt Dl ⟨dl0⟩ _ _ hq
    have hlen : ((List.range len0).map X).length = len0 := by simp
    refine ⟨some ⟨b, off, none⟩, cap0, (List.range len0).map X, by rw [hlen], by rw [hlen]; omega, fun k hk => ?_, fun o ho => ?_, fun o ho => ?_⟩
    · have hk' : k < len0 := by rw [hlen] at hk; exact hk
      refine ⟨b, off, rfl, World.block_lt_of_cell? W _ ((hX k hk').1 0 _ rfl), ?_⟩
      have e : ((List.range len0).map X)[k] = X k := by simp
      rw [e]
      exact (hX k hk').1
    · obtain ⟨i, hi, rfl⟩ := List.mem_map.1 ho
      exact (hX i (List.mem_range.1 hi)).2.1
    · obtain ⟨i, hi, rfl⟩ := List.mem_map.1 ho
      exact (hX i (List.mem_range.1 hi)).2.2
end
end Go.Proofs.YtildpgfhahmgmaaDoor
/- A list of numbers as an argument, opened. -/
namespace Go.Proofs.YtildpgfhahmgmaaDoor
open Go Go.Shelf Go.ChangeShapes Go.WideShapes Go.ChangeAt Go.RowKit Go.Maps Go.Sort Go.Deep
set_option linter.unusedVariables false
theorem bytes3 : Tryd.prog.bytesOf 3 = 8 := by kernel_rfl
section
variable {H : Type} {enc : TypeId × Value → H} {W : World}
set_option maxRecDepth 100000 in
theorem open_nums {base : Nat} {v : Value} {d : DataW H} {p : List MemPlace} (hok : Value.okWide Tryd.prog W .any base 57 v) (h : ∃ fuel, DataW.trod enc Tryd.prog W 0 (fun _ => true) true fuel 57 v.cells.toList = some (d, p)) (hw : ∀ n ∈ d.weights Tryd.prog 57, n ≤ reachBytes) :
    ∃ (pm : Option Addr) (c : Nat) (M : List Int), v = .slice pm M.length c ∧ M.length ≤ 17592186043904 ∧ Lies kI W pm M ∧ (pm = none → c = 0) := by
  obtain ⟨a0, len0, cap0, rfl⟩ := okWide_slice Tryd.underlying57 hok
  obtain ⟨fuel, hf⟩ := h
  rcases open_ints Tryd.underlying57 Tryd.underlying3 cells3 hf with ⟨hcs, _⟩ | ⟨a, len, cap, zs, hcs, hb, hl, hm, hz, hx, hcell, hwz⟩
  · simp [Value.cells] at hcs
    obtain ⟨rfl, rfl, rfl⟩ := hcs
    exact ⟨none, 0, [], rfl, by simp, Lies.nil _ _, fun _ => rfl⟩
  · simp [Value.cells] at hcs
    obtain ⟨rfl, rfl, rfl⟩ := hcs
    have hz' : zs.length = cap0 := by simpa using hz
    have hd : d = .slice (lits .i64 (zs.take len0)) (lits .i64 (zs.drop len0)) := (Prod.mk.inj hx).1
    have hlen : (zs.take len0).length = len0 := by rw [List.length_take]; omega
    have hle : len0 ≤ 17592186043904 := by
      have h1 := hw (((lits (H := H) .i64 (zs.take len0)).length + (lits (H := H) .i64 (zs.drop len0)).length) * Tryd.prog.bytesOf 3) (by
        rw [hd]
        simp only [DataW.weights, Tryd.underlying57]
        exact List.mem_cons_self)
      rw [bytes3] at h1
      unfold reachBytes at h1
      have h2 : (lits (H := H) .i64 (zs.take len0)).length = len0 := by simp only [lits, List.length_map]; exact hlen
      omega
    refine ⟨some a, cap0, zs.take len0, by rw [hlen], by rw [hlen]; exact hle, ⟨fun h => (by cases h), fun k hk => ?_⟩, fun h => (by cases h)⟩
    rw [hlen] at hk
    have hs : a.spot = none := by simpa [Addr.add] using World.cell?_spot (hcell 0 (by omega))
    obtain ⟨b, off, sp⟩ := a
    simp only at hs
    subst hs
    have hck := hcell k (by omega)
    rw [Addr.add_mid] at hck
    refine ⟨b, off, rfl, World.block_lt_of_cell? W _ hck, fun j u hu => ?_⟩
    have hj : j = 0 := by
      have := (List.getElem?_eq_some_iff.1 hu).1
      simp [kI] at this
      exact this
    subst hj
    have e1 : off + k * kI.s + 0 = off + k := by show off + k * 1 + 0 = _; omega
    rw [e1, hck]
    have e2 : zs.getD k 0 = (zs.take len0)[k]'(by omega) := by
      rw [List.getElem_take, List.getD_eq_getElem?_getD, List.getElem?_eq_getElem (by omega)]
      rfl
    rw [e2]
    exact hu
end
end Go.Proofs.YtildpgfhahmgmaaDoor
/- AgedLater: one invoice more, in plain words. -/
namespace Go.Proofs.YtildpgfhahmgmaaDoor
open Go Go.Shelf Go.ChangeShapes Go.WideShapes Go.ChangeAt Go.RowKit Go.Maps
set_option linter.unusedVariables false
def moreK : ByteArray := ⟨#[109, 111, 114, 101]⟩
def lq (x : Cl) : Al := ⟨⟨#[113]⟩, moreK, x.day, 1⟩
/-- an invoice that comes later -/
structure Xt (C : List Cl) (A : List Al) (x : Cl) : Prop where
  good : Good C A 0
  nm : ∀ c ∈ C, c.key.data.toList ≠ moreK.data.toList
  k : x.key = moreK
  d1 : 1 ≤ x.day
  d2 : x.day ≤ x.due
  d3 : x.due ≤ 3652059
  a1 : 1 ≤ x.amt
  a2 : x.amt ≤ 1000000000
  c5 : C.length ≤ 50
  a3 : A.length ≤ 300
  c9 : ∀ c ∈ C, 1 ≤ c.amt ∧ c.amt ≤ 1000000000
theorem Mkd.nomore {W w : World} {pc pa : Option Addr} {n m : Nat} {C : List Cl} {A : List Al} (h : Mkd W w pc pa n m C A) : ∀ c ∈ C, c.key.data.toList ≠ moreK.data.toList := fun c hc e => by
  obtain ⟨L, _, h2, _⟩ := h.ux
  rw [h2] at hc
  unfold clP at hc
  obtain ⟨i, _, rfl⟩ := List.mem_map.1 hc
  have := congrArg List.length e
  simp [clOf, keyS, moreK] at this
theorem Mkd.am3 {W w : World} {pc pa : Option Addr} {n m : Nat} {C : List Cl} {A : List Al} (h : Mkd W w pc pa n m C A) : m ≤ 300 := by
  obtain ⟨L, h1, h2, h3⟩ := h.ux
  have h4 := alP_len (C := C) (L := L) (fun c hc => by have := (h.c9 c hc).1.1; omega) n (by rw [h.cn]; exact Nat.le_refl _) h1
  rw [← h3, h.am] at h4
  have := h.n5
  omega
theorem Xt.nopts {C : List Cl} {A : List Al} {x : Cl} (h : Xt C A x) : ptsOf A moreK.data.toList = [] := by
  unfold ptsOf
  rw [List.map_eq_nil_iff, List.filter_eq_nil_iff]
  intro a ha e
  obtain ⟨_, _, c, hc, e2, _⟩ := h.good.al a ha
  exact h.nm c hc (e2.trans (by simpa using e))
theorem Xt.inv0 {C : List Cl} {A : List Al} {x : Cl} (h : Xt C A x) : invS C x = 0 := by
  have h1 := h.d1; have h2 := h.d2; have h3 := h.d3; have h4 := h.a1
  unfold invS
  rw [if_neg (fun hx => hx ⟨dayB_of h1 (by omega), dayB_of (by omega) h3, by omega, by omega⟩), if_neg (by have := h.c5; omega), if_neg, if_neg]
  · have h5 := sumC_bound (C := C) (B := 1000000000) (by omega) (fun c hc => (h.c9 c hc).2)
    have h6 := h.a2; have h7 := h.c5
    have h8 : (C.length : Int) * 1000000000 ≤ 50000000000 := by omega
    omega
  · rw [has_iff]
    rintro ⟨c, hc, e⟩
    rw [h.k] at e
    exact h.nm c hc e
theorem Xt.find {C : List Cl} {A : List Al} {x : Cl} (h : Xt C A x) : findC (C ++ [x]) moreK.data.toList = some x := by
  unfold findC
  rw [List.find?_append]
  have e : C.find? (fun c => decide (c.key.data.toList = moreK.data.toList)) = none := List.find?_eq_none.2 fun c hc e => h.nm c hc (by simpa using e)
  rw [e]
  simp [h.k]
theorem Xt.all0 {C : List Cl} {A : List Al} {x : Cl} (h : Xt C A x) : allS (C ++ [x]) A (lq x) = 0 := by
  have h1 := h.d1; have h2 := h.d2; have h3 := h.d3; have h4 := h.a1
  unfold allS
  have e1 : (lq x).day = x.day := rfl
  have e2 : (lq x).amt = 1 := rfl
  have e3 : (lq x).inv = moreK := rfl
  rw [e1, e2, e3, if_neg (fun hx => hx ⟨dayB_of h1 (by omega), by omega⟩), if_neg (by have := h.a3; omega), h.find]
  show (if x.day < x.day then (66 : Int) else if 1 > x.amt - sumAll (ptsOf A moreK.data.toList) then 75 else 0) = 0
  have e4 : sumAll (ptsOf A moreK.data.toList) = 0 := by rw [h.nopts]; rfl
  rw [e4, if_neg (by omega), if_neg (by omega)]
theorem Xt.pts {C : List Cl} {A : List Al} {x : Cl} (h : Xt C A x) {c : Cl} (hc : c ∈ C) : ptsOf (A ++ [lq x]) c.key.data.toList = ptsOf A c.key.data.toList := by
  rw [ptsOf_append, ptsOf_one, if_neg (fun e => h.nm c hc e.symm), List.append_nil]
theorem Xt.ptsx {C : List Cl} {A : List Al} {x : Cl} (h : Xt C A x) : ptsOf (A ++ [lq x]) x.key.data.toList = [(x.day, 1)] := by
  rw [h.k, ptsOf_append, h.nopts, ptsOf_one, if_pos (show (lq x).inv.data.toList = moreK.data.toList from rfl)]
  rfl
theorem fold_app (f : Cl → Int) (L R : List Cl) : (L ++ R).foldr (fun c x => f c + x) 0 = L.foldr (fun c x => f c + x) 0 + R.foldr (fun c x => f c + x) 0 := by
  induction L with
  | nil => simp
  | cons c L ih => rw [List.cons_append, List.foldr_cons, List.foldr_cons, ih]; omega
theorem fold_same {f f' : Cl → Int} {L : List Cl} (h : ∀ c ∈ L, f c = f' c) : L.foldr (fun c x => f c + x) 0 = L.foldr (fun c x => f' c + x) 0 := by
  induction L with
  | nil => rfl
  | cons c L ih => rw [List.foldr_cons, List.foldr_cons, ih (fun x hx => h x (List.mem_cons_of_mem _ hx)), h c List.mem_cons_self]
theorem ofC_app (C D : List Cl) (k : List UInt8) : ofC (C ++ D) k = ofC C k ++ ofC D k := List.filter_append _ _
theorem Xt.age {C : List Cl} {A : List Al} {x : Cl} (h : Xt C A x) (k : List UInt8) (t : Int) (j : Nat) : ageS (C ++ [x]) (A ++ [lq x]) k t j = ageS C A k t j + (if x.acc.data.toList = k then con (shr x [(x.day, 1)] t) j else 0) := by
  unfold ageS
  rw [ofC_app, fold_app (fun c => con (shr c (ptsOf (A ++ [lq x]) c.key.data.toList) t) j)]
  congr 1
  · exact fold_same fun c hc => by rw [h.pts (List.mem_filter.1 hc).1]
  · unfold ofC
    by_cases e : x.acc.data.toList = k
    · rw [List.filter_cons, if_pos (by simpa using e), if_pos e]
      show con (shr x (ptsOf (A ++ [lq x]) x.key.data.toList) t) j + 0 = _
      rw [h.ptsx, Int.add_zero]
    · rw [List.filter_cons, if_neg (by simpa using e), if_neg e]
      rfl
theorem Xt.none {C : List Cl} {A : List Al} {x : Cl} (h : Xt C A x) {k : List UInt8} {t : Int} (hn : ¬ (x.acc.data.toList = k ∧ x.day ≤ t)) (j : Nat) : (if x.acc.data.toList = k then con (shr x [(x.day, 1)] t) j else 0) = 0 := by
  by_cases e : x.acc.data.toList = k
  · rw [if_pos e]
    have : t < x.day := by
      rcases Decidable.em (t < x.day) with h | h
      · exact h
      · exact absurd ⟨e, by omega⟩ hn
    unfold shr con
    rw [if_pos this]
    split <;> rfl
  · rw [if_neg e]
theorem Xt.at_same {C : List Cl} {A : List Al} {x : Cl} (h : Xt C A x) {k : List UInt8} {t : Int} (hn : ¬ (x.acc.data.toList = k ∧ x.day ≤ t)) : atS (C ++ [x]) (A ++ [lq x]) k t = atS C A k t := funext fun j => by
  unfold atS
  rw [h.age, h.none hn, Int.add_zero]
theorem Xt.opn_same {C : List Cl} {A : List Al} {x : Cl} (h : Xt C A x) {k : List UInt8} {t : Int} (hn : ¬ (x.acc.data.toList = k ∧ x.day ≤ t)) : opn (C ++ [x]) (A ++ [lq x]) k t = opn C A k t := by
  unfold opn
  split
  · rw [ofC_app, List.filterMap_append]
    have e1 : (ofC C k).filterMap (tel (A ++ [lq x]) t) = (ofC C k).filterMap (tel A t) := filterMap_congr' (fun c hc => by
      unfold tel
      rw [h.pts (List.mem_filter.1 hc).1])
    have e2 : (ofC [x] k).filterMap (tel (A ++ [lq x]) t) = [] := by
      unfold ofC
      by_cases e : x.acc.data.toList = k
      · have ht : t < x.day := by
          rcases Decidable.em (t < x.day) with h | h
          · exact h
          · exact absurd ⟨e, by omega⟩ hn
        rw [List.filter_cons, if_pos (by simpa using e)]
        have e3 : tel (A ++ [lq x]) t x = Option.none := by
          unfold tel shr
          rw [if_pos ht]
          rfl
        rw [List.filterMap_cons, e3]
        rfl
      · rw [List.filter_cons, if_neg (by simpa using e)]
        rfl
    rw [e1, e2, List.append_nil]
  · rfl
theorem Xt.open_same {C : List Cl} {A : List Al} {x : Cl} (h : Xt C A x) {k : List UInt8} {t : Int} (hn : ¬ (x.acc.data.toList = k ∧ x.day ≤ t)) {R R' : List Cl} (hR : OpenIs C A k t R) (hR' : OpenIs (C ++ [x]) (A ++ [lq x]) k t R') : R = R' :=
  h.good.open_same hR ⟨by rw [← h.opn_same hn]; exact hR'.perm, hR'.sort⟩
theorem age_zero {due t : Int} (h : t ≤ due) : ageOf due t = 0 := by
  unfold ageOf stepsL
  simp only [List.foldr_cons, List.foldr_nil]
  rw [if_neg (by omega), if_neg (by omega), if_neg (by omega), if_neg (by omega)]
  rfl
theorem Xt.now {C : List Cl} {A : List Al} {x : Cl} (h : Xt C A x) (j : Nat) : atS (C ++ [x]) (A ++ [lq x]) x.acc.data.toList x.day j = atS C A x.acc.data.toList x.day j + (if j = 0 then x.amt - 1 else 0) := by
  have h1 := h.d1; have h2 := h.d2; have h3 := h.d3
  unfold atS
  rw [if_pos (dayB_of h1 (by omega)), if_pos (dayB_of h1 (by omega)), h.age, if_pos rfl]
  congr 1
  have e : shr x [(x.day, 1)] x.day = (0, x.amt - 1) := by
    unfold shr
    rw [if_neg (by omega), age_zero h2]
    have : sumTo [(x.day, 1)] x.day = 1 := by
      rw [sumTo_cons, if_pos (Int.le_refl _)]
      rfl
    rw [this]
  rw [e]
  unfold con
  show (if (j : Int) = 0 then x.amt - 1 else 0) = _
  by_cases hj : j = 0
  · rw [if_pos hj, if_pos (by omega)]
  · rw [if_neg hj, if_neg (by omega)]
end Go.Proofs.YtildpgfhahmgmaaDoor
/- AgedLater: what stands in memory. -/
namespace Go.Proofs.YtildpgfhahmgmaaDoor
open Go Go.Shelf Go.ChangeShapes Go.WideShapes Go.ChangeAt Go.RowKit Go.Maps
set_option linter.unusedVariables false
theorem Lies.left {α : Type} {K : Kd α} {w : World} {p : Option Addr} {L M : List α} (h : Lies K w p (L ++ M)) : Lies K w p L :=
  ⟨fun e => (List.append_eq_nil_iff.1 (h.1 e)).1, fun k hk => by
    obtain ⟨b, off, e, hl, hr⟩ := h.2 k (by rw [List.length_append]; omega)
    rw [List.getElem_append_left hk] at hr
    exact ⟨b, off, e, hl, hr⟩⟩
theorem Lies.fr3 {α : Type} {K : Kd α} {w w' : World} {p : Option Addr} {L : List α} {X : Nat → Prop} (h : Lies K w p L) (hf : Fr w w' X) (hx : ∀ b off, p = some ⟨b, off, none⟩ → L ≠ [] → ¬ X b) : Lies K w' p L :=
  ⟨h.1, fun k hk => by
    obtain ⟨b, off, e, hl, hr⟩ := h.2 k hk
    exact ⟨b, off, e, Nat.lt_of_lt_of_le hl hf.size, fun j u hu => (World.cell?_of_block (a := ⟨b, off + k * K.s + j, none⟩) (hf.block b hl (hx b off e (fun h0 => by rw [h0] at hk; simp at hk)))).trans (hr j u hu)⟩⟩
/-- one invoice more behind a list of one's own: the list itself still lies where it lay -/
theorem app_claim {w : World} {B : Nat} {p1 : Option Addr} {c1 N : Nat} {C : List Cl} {x : Cl} (ty : TypeId) (h : w.ownsRow B 37 5 (.slice p1 N c1) N (kC.flat C)) (hn : C.length = N) (hN : N ≤ 1000) (hB : B ≤ w.heap.size) {ad : Addr} {cu : Nat} (hu : Lies kC w (some ad) [x]) :
    ∃ p' c' w', (Builtin.append_ #[23, 23] ty #[.slice p1 N c1, .slice (some ad) 1 cu]).run Tryd.prog w = .ok (.slice p' (N + 1) c') w' ∧ Lies kC w' p' (C ++ [x]) ∧ Lies kC w' p1 C ∧ Fr w w' (fun k => (Value.slice p1 N c1).ownBlock = some k) ∧ Below B w w' := by
  obtain ⟨p', c', w', hr, ho, hb, hoth, hat⟩ := run_app kC_ok ty (W := w) (B := B) (M := [x]) h hB (some ad) cu (fun h => by cases h) hu (by simp; omega)
  simp only [List.length_singleton] at hr ho hat
  have hr : (Builtin.append_ #[23, 23] ty #[.slice p1 N c1, .slice (some ad) 1 cu]).run Tryd.prog w = .ok (.slice p' (N + 1) c') w' := hr
  have hl2 : Lies kC w' p' (C ++ [x]) := own_lies kC_ok (by rw [List.length_append, hn]; rfl) ho
  have hfr : Fr w w' (fun k => (Value.slice p1 N c1).ownBlock = some k) := by
    refine ⟨hb.os, hb.tape, hb.output, hb.size, fun k hk hx => hoth k hk hx⟩
  refine ⟨p', c', w', hr, hl2, ?_, hfr, hb⟩
  rcases h.2 with ⟨e, h0⟩ | ⟨g, cap, cur, e, hBg, hg, hnc, hcm, hcs, htake⟩
  · have : C = [] := List.eq_nil_of_length_eq_zero (by omega)
    rw [this]
    exact Lies.nil _ _
  · cases e
    obtain ⟨i, z, hi, hz, hsize, hby, hzs⟩ := kC_ok.info
    by_cases hf : N + 1 ≤ c1
    · obtain ⟨w2, hr3, _, _⟩ := run_append_fits (P := Tryd.prog) w B 23 ty 37 i 5 kC_ok.und hi hsize g N c1 (kC.flat C) h ad 1 cu (kC.flat [x]) (flat_len kC_ok [x]) (news_of kC_ok hu) (flat_one kC_ok [x]) hf
      rw [hr] at hr3
      injection hr3 with e1 e2
      injection e1 with e1 _ _
      rw [e1] at hl2
      exact hl2.left
    · have hr2 := run_append_grow (P := Tryd.prog) w 23 ty 37 i z kC_ok.und hi hz ⟨g, 0, none⟩ N c1 (kC.flat C) (by rw [hsize]; exact h.1) (h.cells (g := g) rfl) ad 1 cu (kC.flat [x]) (by rw [hsize]; exact flat_len kC_ok [x]) (news_of kC_ok hu) (by omega) (by omega) (by rw [hby]; exact growslice_fits (by omega) (by show (N + 1) * 56 ≤ _; omega))
      rw [hr] at hr2
      injection hr2 with e1 e2
      have hold : w'.heap[g]? = w.heap[g]? := by
        rw [e2]
        exact Below.heap_alloc _ _ _ (heap_lt hg)
      exact (own_lies kC_ok hn h).block hb.size hold
/-- the view that is told more, and a block beside it -/
structure Mo (w0 w : World) (bx : Nat) (o : Obj) (C : List Cl) (A : List Al) (g : Int) : Prop where
  ex : ∃ S, Vw w w0.heap.size S C A g ∧ (∀ b, S b → w0.heap.size ≤ b) ∧ ¬ S bx
  bel : Below w0.heap.size w0 w
  box : w.heap[bx]? = some o
theorem Mo.next {w0 w w' : World} {bx : Nat} {o : Obj} {C C' : List Cl} {A A' : List Al} {g g' : Int} {S : Nat → Prop} (h : Mo w0 w bx o C A g) (hS : ∀ b, S b → w0.heap.size ≤ b) (hx : ¬ S bx) (hn : VwNext w w' w0.heap.size S C' A' g') : Mo w0 w' bx o C' A' g' := by
  obtain ⟨S', h1, h2, h3⟩ := hn
  refine ⟨⟨S', h1, fun b hs => ?_, fun hs => ?_⟩, h.bel.trans (h2.below h.bel.size (fun k hk hs => by have := hS k hs; omega)), by rw [h2.block bx (heap_lt h.box) hx]; exact h.box⟩
  · rcases h3 b hs with h4 | h4
    · exact hS b h4
    · exact Nat.le_trans h.bel.size h4
  · rcases h3 bx hs with h4 | h4
    · exact hx h4
    · have := heap_lt h.box
      omega
theorem Mo.inv {w0 w : World} {bx : Nat} {o : Obj} {C : List Cl} {A : List Al} {g : Int} {x : Cl} (h : Mo w0 w bx o C A g) (hS : Stp w0) (hi : invS C x = 0) (hk : x.key.size ≤ maxLen) (ha : x.acc.size ≤ maxLen) (hm : x.amt ≤ 9223372036854775807) :
    Calls Tryd.prog 25 #[ptr w0.heap.size, .agg #[.string x.key, .string x.acc, .int .i64 x.day, .int .i64 x.due, .int .i64 x.amt]] w fun e w' => e = .returned (.int .i64 0) ∧ Mo w0 w' bx o (C ++ [x]) A g := by
  obtain ⟨S, h1, h2, h3⟩ := h.ex
  refine (invoice_any h1 (hS.below h.bel) hk ha hm).mono ?_
  rintro e w' ⟨rfl, ho⟩
  exact ⟨by rw [hi], h.next h2 h3 (ho.2 hi)⟩
theorem Mo.all {w0 w : World} {bx : Nat} {o : Obj} {C : List Cl} {A : List Al} {g : Int} {a : Al} (h : Mo w0 w bx o C A g) (hS : Stp w0) (hi : allS C A a = 0) (hk : a.inv.size ≤ maxLen) :
    Calls Tryd.prog 26 #[ptr w0.heap.size, .agg #[.string a.pay, .string a.inv, .int .i64 a.day, .int .i64 a.amt]] w fun e w' => e = .returned (.int .i64 0) ∧ Mo w0 w' bx o C (A ++ [a]) g := by
  obtain ⟨S, h1, h2, h3⟩ := h.ex
  refine (allot_any h1 (hS.below h.bel) hk).mono ?_
  rintro e w' ⟨rfl, ho⟩
  exact ⟨by rw [hi], h.next h2 h3 (ho.2 hi)⟩
/-- the later invoice's block: what claims made of it, its key written anew -/
theorem key_over {w : World} {B : Nat} {p : Option Addr} {c : Nat} {x0 : Cl} (h : w.ownsRow B 37 5 (.slice p 1 c) 1 (kC.flat [x0])) :
    ∃ be cur, p = some ⟨be, 0, none⟩ ∧ B ≤ be ∧ be < w.heap.size ∧ w.heap[be]? = some (.cells cur 37 (0, 0)) ∧ (∀ (i : Nat) (v : Value), x0.vals[i]? = some v → cur[i]? = some v) ∧
      (w.setCell ⟨be, 0, none⟩ (.string moreK)).heap[be]? = some (.cells (cur.setIfInBounds 0 (.string moreK)) 37 (0, 0)) ∧ (∀ (i : Nat) (v : Value), ({ x0 with key := moreK } : Cl).vals[i]? = some v → (cur.setIfInBounds 0 (.string moreK))[i]? = some v) := by
  rcases h.2 with ⟨e, h0⟩ | ⟨g, cap, cur, e, hBg, hg, hnc, hcm, hcs, htake⟩
  · omega
  · cases e
    have hc : ∀ (i : Nat) (v : Value), x0.vals[i]? = some v → cur[i]? = some v := fun i v hv => by
      have hi : i < 5 := (List.getElem?_eq_some_iff.1 hv).1
      have e1 : kC.flat [x0] = x0.vals := flat_sing _
      rw [e1] at htake
      rw [← htake, List.getElem?_take_of_lt (by omega)] at hv
      simpa using hv
    refine ⟨g, cur, rfl, hBg, heap_lt hg, hg, hc, Go.heap_setCell_same _ _ _ _ _ _ hg, fun i v hv => ?_⟩
    have h0 : 0 < cur.size := by rw [hcs]; omega
    match i, hv with
    | 0, hv =>
      have : v = .string moreK := by simpa [Cl.vals] using hv.symm
      rw [this]
      simp [h0]
    | 1, hv => rw [Array.getElem?_setIfInBounds_ne (by omega)]; exact hc 1 v hv
    | 2, hv => rw [Array.getElem?_setIfInBounds_ne (by omega)]; exact hc 2 v hv
    | 3, hv => rw [Array.getElem?_setIfInBounds_ne (by omega)]; exact hc 3 v hv
    | 4, hv => rw [Array.getElem?_setIfInBounds_ne (by omega)]; exact hc 4 v hv
    | n + 5, hv => simp [Cl.vals] at hv
/-- behind days: the two views, the lists -/
structure Lt (W w : World) (dv dw : Nat) (Sv Sw : Nat → Prop) (pc pe pd : Option Addr) (C : List Cl) (A : List Al) (x : Cl) (D : List Int) : Prop where
  v : Vw w dv Sv C A 0
  u : Vw w dw Sw (C ++ [x]) (A ++ [lq x]) 0
  bel : Below W.heap.size W w
  st : Stp w
  c : Lies kC w pc C
  e : Lies kC w pe [x]
  d : Lies kI w pd D
theorem Lt.below {W w w' : World} {dv dw : Nat} {Sv Sw : Nat → Prop} {pc pe pd : Option Addr} {C : List Cl} {A : List Al} {x : Cl} {D : List Int} (h : Lt W w dv dw Sv Sw pc pe pd C A x D) (hb : Below w.heap.size w w') : Lt W w' dv dw Sv Sw pc pe pd C A x D :=
  ⟨h.v.below hb, h.u.below hb, h.bel.trans (hb.mono h.bel.size), h.st.below hb, h.c.below hb, h.e.below hb, h.d.below hb⟩
end Go.Proofs.YtildpgfhahmgmaaDoor
/- AgedLater (6): the walk. -/
namespace Go.Proofs.YtildpgfhahmgmaaDoor
open Go Go.Shelf Go.ChangeShapes Go.WideShapes Go.ChangeAt Go.RowKit Go.Maps
set_option linter.unusedVariables false
def ld65 (x : Value) : Sem Value := Instr.loadAt 65 x
theorem ld65_is (x : Value) : Instr.loadAt 65 x = ld65 x := rfl
theorem size65 : (Tryd.prog.info? 65).map (·.size) = some 5 := by kernel_rfl
theorem run_ld65 {w : World} {b o : Nat} {d : Dl} (h : w.rangeAt b o d.vals) : (ld65 (.pointer (some ⟨b, o, none⟩))).run Tryd.prog w = .ok (.agg #[.string d.acc, .int .i64 d.day, .int .i64 d.wait, .int .i64 d.amt, .slice d.pp d.np d.cp]) w :=
  run_loadAt_mid (P := Tryd.prog) w b o 65 d.vals _ h Tryd.underlying65 rfl size65
theorem bel_drewN (w : World) (m : Nat) : Below w.heap.size w (w.drewN m) := ⟨rfl, rfl, rfl, Nat.le_refl _, fun _ _ => rfl⟩
theorem lnum {w : World} {b off : Nat} {D : List Int} (h : Lies kI w (some ⟨b, off, none⟩) D) {k : Nat} (hk : k < D.length) : w.cell? ⟨b, off + k, none⟩ = some (.int .i64 D[k]) := by
  obtain ⟨b', off', e, _, hr⟩ := h.2 k hk
  cases e
  have := hr 0 _ rfl
  have e2 : off + k * kI.s + 0 = off + k := by show off + k * 1 + 0 = _; omega
  rw [e2] at this
  exact this
/-- taken of the two lists, at any later world -/
theorem Mkd.take2 {W w2 w : World} {pc pa : Option Addr} {n m cc ca : Nat} {C : List Cl} {A : List Al} (h : Mkd W w2 pc pa n m C A) (hS : Stp W) (hb : Below w2.heap.size w2 w) :
    Calls Tryd.prog 10 #[.slice pc n cc, .slice pa m ca, .int .i64 0] w fun e w' => e = .returned (.tuple #[ptr w.heap.size, .bool true]) ∧ Made w w' C A 0 := by
  refine Calls.mono (taken_any (t := 0) (cc := cc) (ca := ca) (by omega) h.good h.ck h.ai ((hS.below h.bel).below hb) h.cn h.cn (fun j h1 h2 => ?_) h.am (h.c.below hb) (h.a.below hb)) (fun e w' h => h)
  have e : (j + 0) % n = j := by rw [Nat.add_zero]; exact Nat.mod_eq_of_lt (by rw [← h.cn]; exact h1)
  simp only [e]
theorem fold_bounds {f : Cl → Int} {L : List Cl} {B : Int} (hB : 0 ≤ B) (h : ∀ c ∈ L, 0 ≤ f c ∧ f c ≤ B) : 0 ≤ L.foldr (fun c x => f c + x) 0 ∧ L.foldr (fun c x => f c + x) 0 ≤ L.length * B := by
  induction L with
  | nil => simp
  | cons c L ih =>
    have h1 := h c List.mem_cons_self
    have h2 := ih (fun x hx => h x (List.mem_cons_of_mem _ hx))
    rw [List.foldr_cons, List.length_cons]
    push_cast
    rw [Int.add_mul, Int.one_mul]
    omega
theorem Xt.at_bounds {C : List Cl} {A : List Al} {x : Cl} (h : Xt C A x) (k : List UInt8) (t : Int) (j : Nat) : 0 ≤ atS C A k t j ∧ atS C A k t j ≤ 50000000000 := by
  unfold atS
  split
  · have h1 := fold_bounds (f := fun c => con (shr c (ptsOf A c.key.data.toList) t) j) (L := ofC C k) (B := 1000000000) (by omega) (fun c hc => by
      have hc' : c ∈ C := (List.mem_filter.1 hc).1
      have h2 := h.good.oS_bounds hc' t
      have h3 := con_bounds (s := shr c (ptsOf A c.key.data.toList) t) (a := c.amt) h2 j
      have h4 := (h.c9 c hc').2
      exact ⟨h3.1, by omega⟩)
    have h2 : (ofC C k).length ≤ 50 := Nat.le_trans (List.length_filter_le _ _) h.c5
    unfold ageS
    omega
  · omega
attribute [local go_sem ↓] ld65_is ld37_is
set_option maxRecDepth 100000 in
set_option maxHeartbeats 32000000 in
theorem walk_AgedLater {W : World} (hS : Stp W) {pu : Option Addr} {K cu : Nat} {L : List Dl} (hK : L.length = K) (hm : K ≤ maxLen) (hL : DlsIn W pu L) (ha : ∀ d ∈ L, d.acc.size ≤ maxLen) (hP : ∀ d ∈ L, PtsIn W d ∧ d.np ≤ maxLen) {one : Dl} (h1a : one.acc.size ≤ maxLen) {pm : Option Addr} {kM cm : Nat} {M : List Int} (hM : Lies kI W pm M) (hkn : M.length = kM) (hcm : pm = none → cm = 0) (hk1 : kM ≤ 17592186043904) :
    Calls Tryd.prog 6 #[.slice pu K cu, .agg #[.string one.acc, .int .i64 one.day, .int .i64 one.wait, .int .i64 one.amt, .slice one.pp one.np one.cp], .slice pm kM cm] W fun e w' => e = .returned (.bool true) ∧ Below W.heap.size W w' := by
  obtain ⟨X, hX⟩ : ∃ X, X = W.alloc (.cells #[.string one.acc, .int .i64 one.day, .int .i64 one.wait, .int .i64 one.amt, .slice one.pp one.np one.cp] 65) := ⟨_, rfl⟩
  obtain ⟨bo, hbo⟩ : ∃ bo, bo = W.heap.size := ⟨_, rfl⟩
  have hbX : Below W.heap.size W X := by rw [hX]; exact (Below.refl _ _).alloc (Nat.le_refl _) _
  have hXb : X.heap[bo]? = some (.cells #[.string one.acc, .int .i64 one.day, .int .i64 one.wait, .int .i64 one.amt, .slice one.pp one.np one.cp] 65 (0, 0)) := by rw [hX, hbo]; exact heap_new _ _
  have dC := hide (claims_any (cu := cu) hK (hL.below hbX) hm)
  have dM := hide num_any
  have HX := hide hX; have HBO := hide hbo; have HBX := hide hbX; have HXB := hide hXb
  have hSX := hS.below hbX
  have HS := hide hSX; have HL := hide (hL.below hbX); have HK := hide hK; have HM := hide hm; have HA := hide ha; have HP : Hid (∀ d ∈ L, PtsIn X d ∧ d.np ≤ maxLen) := fun d hd => ⟨(hP d hd).1.below hbX, (hP d hd).2⟩
  have HMM := hide (hM.below hbX); have HKN := hide hkn; have HCM := hide hcm; have HK1 := hide hk1; have H1A := hide h1a
  have hst := arr39; have heg := eg39; have heq := eq39_same
  obtain ⟨N, hN⟩ : ∃ N, N = min K 50 := ⟨_, rfl⟩
  rw [← hN] at dC
  have hNK : N ≤ K := by omega
  have hN5 : N ≤ 50 := by omega
  clear hS hL hK hm ha hP hN hM hkn hcm hk1 hX hbo hbX hXb hSX h1a
  go_enter Tryd.func6, Tryd.ntmps6
  go_upto_region 1 with fail
  rw [← unhide HX, ← unhide HBO]
  clear HX HBO
  go_wp2_with fail
  refine (unhide dC).mono ?_
  rintro e w1 ⟨p1, c1, rfl, hr1⟩
  have HR1 := hide hr1
  have dC := hide (allots_any (cu := cu) (cc := c1) (unhide HK) ((unhide HL).below hr1.bel) (fun d hd => ⟨(unhide HP d hd).1.below hr1.bel, (unhide HP d hd).2⟩) hr1.len hNK hN5 (unhide HM) (own_lies kC_ok hr1.len hr1.row) (fun c hc => clP_mem hc))
  clear hr1
  go_wp2_with fail
  refine (unhide dC).mono ?_
  rintro e w2 ⟨p2, m, c2, rfl, hr2⟩
  have hmk := Mkd.of (by rw [unhide HK]; exact hNK) hN5 (unhide HA) (unhide HR1) hr2
  obtain ⟨A, hA⟩ : ∃ A, A = alP (clP L N) L N := ⟨_, rfl⟩
  rw [← hA] at hmk
  obtain ⟨C, hC⟩ : ∃ C, C = clP L N := ⟨_, rfl⟩
  rw [← hC] at hmk
  have HMK := hide hmk
  have hm3 := hmk.am3
  have HW1 : Hid (w1.ownsRow X.heap.size 37 5 (.slice p1 N c1) N (kC.flat C)) := by rw [hC]; exact (unhide HR1).row
  have HB2 := hide hr2.bel
  have HA2 : Hid (∀ a, p2 = some a → w1.heap.size ≤ a.block) := fun a e => by
    obtain ⟨q, c, e1, _, h2⟩ := row_slice hr2.row
    cases e1
    exact (h2 a e).2.2.1
  have dC := hide (Mkd.take2 (cc := c1) (ca := c2) hmk (unhide HS) (Below.refl _ _))
  obtain ⟨d, hd⟩ : ∃ d, d = w2.heap.size := ⟨_, rfl⟩
  rw [← hd] at dC
  have HD := hide hd
  unfold ptr at dC
  clear hmk hr2 hA hC hd HL HP HA HM HK HR1
  go_wp2_with fail
  refine (unhide dC).mono ?_
  rintro e w3 ⟨rfl, hmd⟩
  have HM3 := hide hmd
  have dC := hide (Mkd.take2 (cc := c1) (ca := c2) (unhide HMK) (unhide HS) hmd.bel)
  obtain ⟨dw, hdw⟩ : ∃ dw, dw = w3.heap.size := ⟨_, rfl⟩
  rw [← hdw] at dC
  have HDW := hide hdw
  unfold ptr at dC
  clear hmd hdw
  go_wp2_with fail
  refine (unhide dC).mono ?_
  rintro e w4 ⟨rfl, hmd⟩
  have HM4 := hide hmd
  have hb3 : Below X.heap.size X w3 := (unhide HMK).bel.trans ((unhide HM3).bel.mono (unhide HMK).bel.size)
  have HB3 := hide hb3
  have hb4 : Below X.heap.size X w4 := hb3.trans (hmd.bel.mono hb3.size)
  have HB4 := hide hb4
  have dF := hide (first_any ((unhide HS).below hb4))
  clear hmd hb3 hb4 dC
  go_wp2_with fail
  refine (unhide dF).mono ?_
  rintro e w5 ⟨rfl, hb5⟩
  have hb5x : Below X.heap.size X w5 := (unhide HB4).trans (hb5.mono (unhide HB4).size)
  have hob : w5.heap[bo]? = some (.cells #[.string one.acc, .int .i64 one.day, .int .i64 one.wait, .int .i64 one.amt, .slice one.pp one.np one.cp] 65 (0, 0)) := (hb5x.block _ (heap_lt (unhide HXB))).trans (unhide HXB)
  have hld := run_ld65 (w := w5) (b := bo) (o := 0) (d := one) (fun i v hv => by
    rw [Nat.zero_add, cell_at hob]; simpa [Dl.vals] using hv)
  obtain ⟨w6, hw6⟩ : ∃ w6, w6 = w5.alloc (.cells #[.string one.acc, .int .i64 one.day, .int .i64 one.wait, .int .i64 one.amt, .slice one.pp one.np one.cp] 65) := ⟨_, rfl⟩
  have hb6 : Below w5.heap.size w5 w6 := by rw [hw6]; exact (Below.refl _ _).alloc (Nat.le_refl _) _
  have h6b : w6.heap[w5.heap.size]? = some (.cells #[.string one.acc, .int .i64 one.day, .int .i64 one.wait, .int .i64 one.amt, .slice one.pp one.np one.cp] 65 (0, 0)) := by rw [hw6]; exact heap_new _ _
  have hmin : min 1 50 = 1 := by decide
  have hcl : clP [one] 1 = [clOf 0 one] := by
    rw [clP_succ (L := [one]) (j := 0) (by simp)]
    rfl
  have dE := hide (claims_any (W := w6) (pu := some ⟨w5.heap.size, 0, none⟩) (K := 1) (cu := 1) (L := [one]) rfl (fun k hk => by
    have hk0 : k = 0 := by simpa using hk
    subst hk0
    exact ⟨w5.heap.size, 0, rfl, heap_lt h6b, fun j u hu => by
      have e0 : 0 + 0 * 5 + j = j := by omega
      rw [e0, cell_at h6b]
      simpa [Dl.vals] using hu⟩) (by unfold maxLen; omega))
  rw [hmin, hcl] at dE
  rw [hw6] at dE
  have HW6 := hide hw6; have HB5 := hide hb5; have HB6 := hide hb6
  clear hb5 hb5x hob hw6 hb6 h6b hmin hcl dF HXB
  go_wp2_with fail
  refine (unhide dE).mono ?_
  rintro e w7 ⟨pe, ce, rfl, hr7⟩
  rw [← unhide HW6] at hr7
  obtain ⟨be, cur, rfl, hbe, hbel, hcur, hcv, hkey, hkv⟩ := key_over hr7.row
  obtain ⟨Y, hY⟩ : ∃ Y, Y = w7.setCell ⟨be, 0, none⟩ (.string moreK) := ⟨_, rfl⟩
  obtain ⟨x, hx⟩ : ∃ x : Cl, x = { clOf 0 one with key := moreK } := ⟨_, rfl⟩
  have hc0 : w7.cell? ⟨be, 0, none⟩ = some (.string (clOf 0 one).key) := by rw [cell_at hcur]; exact hcv 0 _ rfl
  have hf0 : w7.frozen? ⟨be, 0, none⟩ = false := froz_at hcur
  obtain ⟨O, hO⟩ : ∃ O, O = cur.setIfInBounds 0 (.string moreK) := ⟨_, rfl⟩
  rw [← hY, ← hO] at hkey
  rw [← hO, ← hx] at hkv
  have hbY : Below w6.heap.size w6 Y := by rw [hY]; exact hr7.bel.setCell hbe _
  have h56 := (unhide HB6).size
  have hb3Y : Below w4.heap.size w4 Y := ((unhide HB5).trans ((unhide HB6).mono (unhide HB5).size)).trans (hbY.mono (Nat.le_trans (unhide HB5).size h56))
  have hmo : Mo w3 Y be (.cells O 37 (0, 0)) C A 0 := by
    obtain ⟨S, hv, hs⟩ := (unhide HM4).vw
    exact ⟨⟨S, hv.below hb3Y, hs, fun h => by have := hv.lt be h; have := (unhide HB5).size; omega⟩, (unhide HM4).bel.trans (hb3Y.mono (unhide HM4).bel.size), hkey⟩
  have hxt : Xt C A x := by
    have hk := clOf_ok (i := 0) (d := one) (unhide H1A)
    have h1 := hk.1.d1; have h2 := hk.1.d2; have h3 := hk.1.d3; have h4 := hk.1.a1
    refine ⟨(unhide HMK).good, (unhide HMK).nomore, by rw [hx], by rw [hx]; exact h1, by rw [hx]; exact h3, by rw [hx]; exact h2, by rw [hx]; exact h4, by rw [hx]; exact hk.2, by rw [(unhide HMK).cn]; exact hN5, by rw [(unhide HMK).am]; exact hm3, fun c hc => ((unhide HMK).c9 c hc).1⟩
  have hxa : x.acc.size ≤ maxLen := by rw [hx]; exact unhide H1A
  have HXT := hide hxt; have HMO := hide hmo; have HKV := hide hkv; have HXA := hide hxa
  have HBEL : Hid (w4.heap.size ≤ be) := by show _ ≤ _; have := (unhide HB5).size; omega
  have HYY : Hid (Y = w7.setCell ⟨be, 0, none⟩ (.string ⟨#[109, 111, 114, 101]⟩)) := hY
  have HRB : Hid (∀ w' : World, w'.heap[be]? = some (.cells O 37 (0, 0)) → w'.rangeAt be 0 x.vals) := fun w' hw i v hv => by
    rw [Nat.zero_add, cell_at hw]
    exact hkv i v hv
  have dV := hide (hmo.inv ((unhide HS).below (unhide HB3)) hxt.inv0 (by rw [hxt.k]; decide) hxa (by have := hxt.a2; omega))
  rw [← unhide HDW] at dV
  have hldx := run_ld37 (w := Y) (b := be) (o := 0) (c := x) (unhide HRB Y hkey)
  unfold ptr at dV
  clear hr7 hbe hbel hcur hcv hkey hkv hY hx hO hbY h56 hb3Y hmo hxt hxa HW6 HB6 dE hld
  go_upto_region 9 with fail
  rw [← unhide HYY]
  clear HYY hc0 hf0
  go_wp2_with fail
  refine (unhide dV).mono ?_
  rintro e x1 ⟨rfl, hmo⟩
  have k2 : x1.cell? ⟨be, 2, none⟩ = some (.int .i64 x.day) := unhide HRB x1 hmo.box 2 _ rfl
  have dL : Hid (Calls Tryd.prog 26 #[.pointer (some ⟨dw, 0, none⟩), .agg #[.string ⟨#[113]⟩, .string ⟨#[109, 111, 114, 101]⟩, .int .i64 x.day, .int .i64 1]] x1 fun e w' => e = .returned (.int .i64 0) ∧ Mo w3 w' be (.cells O 37 (0, 0)) (C ++ [x]) (A ++ [lq x]) 0) := by
    rw [unhide HDW]
    exact hmo.all (a := lq x) ((unhide HS).below (unhide HB3)) (unhide HXT).all0 (show moreK.size ≤ maxLen by decide)
  clear hmo dV hldx
  go_wp2_with fail
  refine (unhide dM _ _).mono ?_
  rintro e x2 ⟨rfl, hw⟩
  rw [hw]
  clear hw x2
  go_wp2_with fail
  refine (unhide dL).mono ?_
  rintro e x3 ⟨rfl, hmo⟩
  have HMO3 := hide hmo
  clear hmo dL k2
  go_wp2_with fail
  refine (unhide dM _ _).mono ?_
  rintro e x4 ⟨rfl, hw⟩
  rw [hw]
  clear hw x4
  have hmo := unhide HMO3
  have hld3 := run_ld37 (w := x3) (b := be) (o := 0) (c := x) (unhide HRB x3 hmo.box)
  obtain ⟨Z, hZ⟩ : ∃ Z, Z = x3.alloc (.cells #[.string x.key, .string x.acc, .int .i64 x.day, .int .i64 x.due, .int .i64 x.amt] 37) := ⟨_, rfl⟩
  have hZ1 : Below x3.heap.size x3 Z := by rw [hZ]; exact (Below.refl _ _).alloc (Nat.le_refl _) _
  have hu1 : Lies kC Z (some ⟨x3.heap.size, 0, none⟩) [x] := by rw [hZ]; exact one_lies x3 x 37 _ rfl
  have s12 := (unhide HB2).size; have s23 := (unhide HM3).bel.size; have s3x := hmo.bel.size; have sX1 := (unhide HB3).size
  have hb13 : Below w1.heap.size w1 w3 := (unhide HB2).trans ((unhide HM3).bel.mono s12)
  have hb1Z : Below w1.heap.size w1 Z := (hb13.trans (hmo.bel.mono (by omega))).trans (hZ1.mono (by omega))
  have hgo : ∀ g, (Value.slice p1 N c1).ownBlock = some g → X.heap.size ≤ g ∧ g < w1.heap.size := fun g hg => ⟨(row_block (unhide HW1) hg).1, (row_block (unhide HW1) hg).2.1⟩
  have hown : Z.ownsRow X.heap.size 37 5 (.slice p1 N c1) N (kC.flat C) := row_keep (unhide HW1) (fun g hg => hb1Z.block g (hgo g hg).2)
  have hbXZ : Below X.heap.size X Z := ((unhide HB3).trans (hmo.bel.mono sX1)).trans (hZ1.mono (by omega))
  obtain ⟨p', c', w12, hr, hl1, hl2, hfr, hb12⟩ := app_claim 23 hown (unhide HMK).cn (by omega) hbXZ.size (cu := 1) hu1
  have hbX12 : Below X.heap.size X w12 := hbXZ.trans hb12
  obtain ⟨Sv, hv, hvs⟩ := (unhide HM3).vw
  have hv12 := ((hv.below hmo.bel).below hZ1).fr hfr (fun b hs he => by have := (hgo b he).2; have := hvs b hs; omega)
  obtain ⟨Sw, hu, hus, hub⟩ := hmo.ex
  have hu12 := (hu.below hZ1).fr hfr (fun b hs he => by have := (hgo b he).2; have := hus b hs; omega)
  have hle : Lies kC x3 (some ⟨be, 0, none⟩) [x] := ⟨(fun h => by cases h), fun k hk => by
    have hk0 : k = 0 := by simpa using hk
    subst hk0
    exact ⟨be, 0, rfl, heap_lt hmo.box, unhide HRB x3 hmo.box⟩⟩
  have hle12 := (hle.below hZ1).fr3 hfr (fun b off e _ he => by
    cases e
    have := (hgo be he).2; have := unhide HBEL; have := (unhide HM4).bel.size; omega)
  have hla12 := ((((unhide HMK).a.below (unhide HM3).bel).below hmo.bel).below hZ1).fr3 hfr (fun b off e _ he => by
    have h1 := unhide HA2 _ e
    have h2 := (hgo b he).2
    simp only at h1
    omega)
  have hlm12 := (unhide HMM).below hbX12
  have HT12 : Hid (∀ w13 pd D, Below w12.heap.size w12 w13 → Lies kI w13 pd D → Lt X w13 d dw Sv Sw p1 (some ⟨be, 0, none⟩) pd C A x D) := fun w13 pd D hb hd => by
    rw [unhide HD, unhide HDW]
    exact ⟨hv12.below hb, hu12.below hb, hbX12.trans (hb.mono hbX12.size), ((unhide HS).below hbX12).below hb, hl2.below hb, hle12.below hb, hd⟩
  have hxo := unhide HXT
  have dD := hide (days_any (W := w12) (C := C ++ [x]) (n := N + 1) (cc := c') (ca := c2) (cm := cm) (by rw [List.length_append, (unhide HMK).cn]; rfl) (unhide HMK).am (unhide HKN) hl1 hla12 hlm12 (unhide HCM) (by omega) (by omega) (unhide HK1) (fun c hc => by
    rcases List.mem_append.1 hc with hc | hc
    · have h1 := (unhide HMK).good.ok c hc
      have := h1.d1; have := h1.d2; have := h1.d3
      omega
    · rw [List.mem_singleton.1 hc]
      have := hxo.d1; have := hxo.d2; have := hxo.d3
      omega) (fun a ha => by
    obtain ⟨_, h2, c, hc, _, h4⟩ := (unhide HMK).good.al a ha
    have := ((unhide HMK).good.ok c hc).d1
    omega))
  rw [hZ] at hr
  have HR := hide hr
  clear hmo hZ hZ1 hu1 s12 s23 s3x sX1 hb13 hb1Z hgo hown hbXZ hr hl1 hl2 hfr hb12 hbX12 hv hvs hv12 hu hus hub hu12 hle hle12 hla12 hlm12 hxo HMO3 HW1 HB2 HM3 HM4 HA2 HMM HKN HCM HK1
  go_wp2_with (first | (at_builtin; refine wpList_append_run rfl _ _ 23 rfl _ _ _ _ rfl rfl (unhide HR) ?_))
  refine (unhide dD).mono ?_
  rintro e w13 ⟨pd, cd, ND, D, rfl, hDn, hDb, hlD, hb13, _⟩
  have HT := hide (unhide HT12 w13 pd D hb13 hlD)
  have HDN := hide hDn
  have hDc : ND ≤ 9223372036854775807 := by omega
  have HCX : Hid (∀ w' pd D, Lt X w' d dw Sv Sw p1 (some ⟨be, 0, none⟩) pd C A x D → w'.cell? ⟨be, 1, none⟩ = some (.string x.acc) ∧ w'.cell? ⟨be, 2, none⟩ = some (.int .i64 x.day) ∧ w'.cell? ⟨be, 4, none⟩ = some (.int .i64 x.amt)) := fun w' pd D h => by
    obtain ⟨b', off', e', _, hr'⟩ := h.e.2 0 (by simp)
    cases e'
    exact ⟨hr' 1 _ rfl, hr' 2 _ rfl, hr' 4 _ rfl⟩
  clear hlD hb13 hDn dD hld3 HR HT12
  go_wp2_with fail
  go_loopw [15] (fun v15 wr => ∃ (i : Nat), v15 = .int .i64 i ∧ i ≤ N ∧ Hid (Lt X wr d dw Sv Sw p1 (some ⟨be, 0, none⟩) pd C A x D)) (fun v15 _ => N - (intOf v15).toNat)
  case atStart => exact ⟨0, rfl, by omega, unhide HT⟩
  case round =>
    obtain ⟨i, rfl, hi, hrel⟩ := hrel
    by_cases hlt : i < N
    · have hiC : i < C.length := by rw [(unhide HMK).cn]; exact hlt
      obtain ⟨b, off, e⟩ : ∃ b off, p1 = some ⟨b, off, none⟩ := by obtain ⟨b, off, e, _⟩ := (unhide hrel).c.2 i hiC; exact ⟨b, off, e⟩
      obtain ⟨s, hs⟩ : ∃ s, s = C[i].acc := ⟨_, rfl⟩
      have hsm : s.size ≤ maxLen := by rw [hs]; exact ((unhide HMK).ck _ (List.getElem_mem hiC)).2
      have HSM := hide hsm
      have HR0 := hide (unhide hrel)
      subst e
      have HCE : Hid (∀ w' pd D, Lt X w' d dw Sv Sw (some ⟨b, off, none⟩) (some ⟨be, 0, none⟩) pd C A x D → w'.cell? ⟨b, off + i * 5 + 1, none⟩ = some (.string s)) := fun w' pd D h => by
        obtain ⟨b', off', e', _, hr'⟩ := h.c.2 i hiC
        cases e'
        rw [hs]
        exact hr' 1 _ rfl
      clear hs hiC hsm hrel
      go_wp2_with fail
      go_loopw [16] (fun v16 wr => ∃ (k : Nat), v16 = .int .i64 k ∧ k ≤ ND ∧ k ≤ 80 ∧ Hid (Lt X wr d dw Sv Sw (some ⟨b, off, none⟩) (some ⟨be, 0, none⟩) pd C A x D)) (fun v16 _ => ND - (intOf v16).toNat)
      case atStart => exact ⟨0, rfl, by omega, by omega, unhide HR0⟩
      case round =>
        obtain ⟨k, rfl, hk, hk8, hrel⟩ := hrel
        by_cases hlk : k < ND ∧ k < 80
        · obtain ⟨hlk, hl8⟩ := hlk
          have hkD : k < D.length := by rw [unhide HDN]; exact hlk
          obtain ⟨bd, od, ed⟩ : ∃ bd od, pd = some ⟨bd, od, none⟩ := by obtain ⟨bd, od, ed, _⟩ := (unhide hrel).d.2 k hkD; exact ⟨bd, od, ed⟩
          obtain ⟨t, ht⟩ : ∃ t, t = D[k] := ⟨_, rfl⟩
          subst ed
          have kt : wr.cell? ⟨bd, od + k, none⟩ = some (.int .i64 t) := by rw [ht]; exact lnum (unhide hrel).d hkD
          have HT0 := hide (unhide hrel)
          have HT1 : Hid (Lt X wr.drew d dw Sv Sw (some ⟨b, off, none⟩) (some ⟨be, 0, none⟩) (some ⟨bd, od, none⟩) C A x D) := (unhide HT0).below (bel_drew wr)
          obtain ⟨bb, hbb⟩ : ∃ bb : Bool, bb = decide (x.acc.data.toList = s.data.toList ∧ x.day ≤ t) := ⟨_, rfl⟩
          have HBB := hide hbb
          have ks := unhide HCE _ _ _ (unhide HT0)
          obtain ⟨kx1, kx2, _⟩ := unhide HCX _ _ _ (unhide HT0)
          clear ht hkD hrel HR0 hbb
          go_upto_region 19 with fail
          go_cut [115] (fun v115 wx => v115 = .bool bb ∧ Hid (wx = wr.drew))
          case first =>
            by_cases hac : s = x.acc
            · rw [← hac] at kx1
              have hbt : (s.toList == s.toList) = true := by simp
              by_cases hge : x.day ≤ t
              · have g1 : decide (x.day ≤ t) = true := decide_eq_true hge
                have g2 : decide (t ≥ x.day) = true := decide_eq_true hge
                have ebb : bb = true := by rw [unhide HBB]; exact decide_eq_true ⟨by rw [hac], hge⟩
                refine wp_region_last (n := 18) (S := fun W' => W'.cell? ⟨b, off + i * 5 + 1, none⟩ = some (.string s) ∧ W'.cell? ⟨be, 1, none⟩ = some (.string s) ∧ W'.cell? ⟨be, 2, none⟩ = some (.int .i64 x.day)) (by kernel_rfl) (by exact ⟨ks, kx1, kx2⟩) (fun hHeld => ?_)
                refine tkW 0 ?_; refine tkW 1 ?_; refine tkW 2 ?_; refine tkW 3 ?_; refine tkN 4 ?_; refine tkW 5 ?_; refine tkW 6 ?_; refine tkW 7 ?_; refine tkN 8 ?_; refine tkW 9 ?_; refine tkW 10 ?_; refine tkW 11 ?_; refine tkW 12 ?_; refine tkW 13 ?_; refine tkW 14 ?_; refine tkN 15 ?_; refine tkW 16 ?_; refine tkW 17 ?_
                refine wpAnyL_done (by kernel_rfl) ?_
                go_wp2_with fail
                go_meet
                exact ⟨by rw [ebb], rfl⟩
              · have g1 : decide (x.day ≤ t) = false := decide_eq_false hge
                have g2 : decide (t ≥ x.day) = false := decide_eq_false hge
                have ebb : bb = false := by rw [unhide HBB]; exact decide_eq_false (fun h => hge h.2)
                refine wp_region_last (n := 18) (S := fun W' => W'.cell? ⟨b, off + i * 5 + 1, none⟩ = some (.string s) ∧ W'.cell? ⟨be, 1, none⟩ = some (.string s) ∧ W'.cell? ⟨be, 2, none⟩ = some (.int .i64 x.day)) (by kernel_rfl) (by exact ⟨ks, kx1, kx2⟩) (fun hHeld => ?_)
                refine tkW 0 ?_; refine tkW 1 ?_; refine tkW 2 ?_; refine tkW 3 ?_; refine tkN 4 ?_; refine tkW 5 ?_; refine tkW 6 ?_; refine tkW 7 ?_; refine tkN 8 ?_; refine tkW 9 ?_; refine tkW 10 ?_; refine tkW 11 ?_; refine tkW 12 ?_; refine tkW 13 ?_; refine tkW 14 ?_; refine tkN 15 ?_; refine tkW 16 ?_; refine tkW 17 ?_
                refine wpAnyL_done (by kernel_rfl) ?_
                go_wp2_with fail
                go_meet
                exact ⟨by rw [ebb], rfl⟩
            · have hne := str_ne hac
              have ebb : bb = false := by rw [unhide HBB]; exact decide_eq_false (fun h => hac (str_inj h.1).symm)
              refine wp_region_last (n := 18) (S := fun W' => W'.cell? ⟨b, off + i * 5 + 1, none⟩ = some (.string s) ∧ W'.cell? ⟨be, 1, none⟩ = some (.string x.acc) ∧ W'.cell? ⟨be, 2, none⟩ = some (.int .i64 x.day)) (by kernel_rfl) (by exact ⟨ks, kx1, kx2⟩) (fun hHeld => ?_)
              refine tkW 0 ?_; refine tkW 1 ?_; refine tkW 2 ?_; refine tkW 3 ?_; refine tkN 4 ?_; refine tkW 5 ?_; refine tkW 6 ?_; refine tkW 7 ?_; refine tkN 8 ?_; refine tkW 9 ?_; refine tkW 10 ?_; refine tkX 11 ?_; refine tkX 12 ?_; refine tkX 13 ?_; refine tkX 14 ?_; refine tkX 15 ?_; refine tkX 16 ?_; refine tkW 17 ?_
              refine wpAnyL_done (by kernel_rfl) ?_
              go_wp2_with fail
              go_meet
              exact ⟨by rw [ebb], rfl⟩
          obtain ⟨rfl, hwc⟩ := hcut
          rw [unhide hwc]
          clear hwc wc ks kx1 kx2 kt HT0
          cases bb
          · have hno : ¬ (x.acc.data.toList = s.data.toList ∧ x.day ≤ t) := fun h => by
              have := unhide HBB
              rw [decide_eq_true h] at this
              cases this
            have HNO := hide hno
            have HT2 : Hid (Lt X wr.drew.drew d dw Sv Sw (some ⟨b, off, none⟩) (some ⟨be, 0, none⟩) (some ⟨bd, od, none⟩) C A x D) := (unhide HT1).below (bel_drew wr.drew)
            clear hno HBB
            go_upto_region 20 with fail
            refine wp_region_last (n := 37) (S := fun W' => W'.cell? ⟨b, off + i * 5 + 1, none⟩ = some (.string s)) (by kernel_rfl) (by exact unhide HCE _ _ _ (unhide HT2)) (fun hHeld => ?_)
            refine tkW 0 ?_; refine tkW 1 ?_; refine tkW 2 ?_; refine tkW 3 ?_; refine tkW 4 ?_; refine tkN 5 ?_; refine tkW 6 ?_; refine tkW 8 ?_; refine tkW 9 ?_; refine tkW 10 ?_; refine tkW 11 ?_; refine tkW 12 ?_; refine tkN 13 ?_; refine tkW 14 ?_
            have dC := hide (at_vw (unhide HT2).v (unhide HT2).st (unhide HSM) t)
            unfold ptr at dC
            refine wpAnyL_one (i := 7) (by kernel_rfl) rfl (fun KK hK => ?_)
            go_simp
            go_wp2_with (first | (go_at_call 17; refine (unhide dC).mono ?_; rintro e y2 ⟨rfl, hb2⟩))
            have HT3 := hide ((unhide HT2).below hb2)
            clear hb2
            refine hK.out _ _ (by exact unhide HCE _ _ _ (unhide HT3)) (fun hHeld => ?_)
            clear hK KK dC
            have dC := hide (at_vw (unhide HT3).u (unhide HT3).st (unhide HSM) t)
            rw [(unhide HXT).at_same (unhide HNO)] at dC
            unfold ptr at dC
            refine wpAnyL_one (i := 15) (by kernel_rfl) rfl (fun KK hK => ?_)
            go_simp
            go_wp2_with (first | (go_at_call 17; refine (unhide dC).mono ?_; rintro e y3 ⟨rfl, hb3⟩))
            have HT4 := hide ((unhide HT3).below hb3)
            clear hb3
            refine hK.out _ _ (by exact unhide HCE _ _ _ (unhide HT4)) (fun hHeld => ?_)
            clear hK KK dC
            unfold ag5
            refine tkW 16 ?_; refine tkW 17 ?_; refine tkW 18 ?_; refine tkW 19 ?_; refine tkW 20 ?_; refine tkW 21 ?_; refine tkW 22 ?_; refine tkN 23 ?_; refine tkW 24 ?_; refine tkW 26 ?_; refine tkW 27 ?_; refine tkW 28 ?_; refine tkW 29 ?_; refine tkW 30 ?_; refine tkN 31 ?_; refine tkW 32 ?_
            have dC := hide (open_vw (unhide HT4).v (unhide HT4).st (unhide HSM) t)
            unfold ptr at dC
            refine wpAnyL_one (i := 25) (by kernel_rfl) rfl (fun KK hK => ?_)
            go_simp
            go_wp2_with (first | (go_at_call 30; refine (unhide dC).mono ?_; rintro e y6 ⟨p6, c6, R6, rfl, hop6, hL6, hb6, hn6⟩))
            have HT5 := hide ((unhide HT4).below hb6)
            have HL6 := hide hL6; have HO6 := hide hop6; have HN6 := hide hn6
            clear hb6 hL6 hop6 hn6
            refine hK.out _ _ (by exact unhide HCE _ _ _ (unhide HT5)) (fun hHeld => ?_)
            clear hK KK dC
            have dC := hide (open_vw (unhide HT5).u (unhide HT5).st (unhide HSM) t)
            unfold ptr at dC
            refine wpAnyL_one (i := 33) (by kernel_rfl) rfl (fun KK hK => ?_)
            go_simp
            go_wp2_with (first | (go_at_call 30; refine (unhide dC).mono ?_; rintro e y7 ⟨p7, c7, R7, rfl, hop7, hL7, hb7, hn7⟩))
            have HT6 := hide ((unhide HT5).below hb7)
            have HL67 := hide ((unhide HL6).below hb7)
            have hRR := (unhide HXT).open_same (unhide HNO) (unhide HO6) hop7
            subst hRR
            have HL7 := hide hL7
            clear hb7 hL7 hop7 hn7
            refine hK.out _ _ (by exact unhide HCE _ _ _ (unhide HT6)) (fun hHeld => ?_)
            clear hK KK dC
            have dC := hide (sameC_any (W := y7) (p1 := p6) (p2 := p7) (c1 := c6) (c2 := c7) rfl (by have := unhide HN6; omega) (unhide HL67) (unhide HL7))
            unfold ptr at dC
            refine wpAnyL_one (i := 34) (by kernel_rfl) rfl (fun KK hK => ?_)
            go_simp
            go_wp2_with (first | (go_at_call 29; refine (unhide dC).mono ?_; rintro e y8 ⟨rfl, hw8⟩; have HW8 := hide hw8; clear hw8))
            have HT7 := hide ((unhide HT6).below (w' := y8) (by obtain ⟨m8, hw8⟩ := unhide HW8; rw [hw8]; exact bel_drewN _ _))
            refine hK.out _ _ (by exact unhide HCE _ _ _ (unhide HT7)) (fun hHeld => ?_)
            clear hK KK dC
            refine tkW 35 ?_; refine tkW 36 ?_
            refine wpAnyL_done (by kernel_rfl) ?_
            clear hHeld
            go_wp2_with fail
            go_round
            case rel => exact ⟨k + 1, by push_cast; rfl, by omega, by omega, unhide HT7⟩
            case measure => simp only [intOf]; omega
          · clear HBB
            go_wp2_with fail
            go_round
            case rel => exact ⟨k + 1, by push_cast; rfl, by omega, by omega, unhide HT1⟩
            case measure => simp only [intOf]; omega
        · have HFF := hide (unhide hrel)
          clear hrel
          by_cases hkN : k < ND
          · have hk80 : ¬ (k < 80) := by omega
            go_wp2_with fail
            go_round
            case rel => exact ⟨i + 1, by push_cast; rfl, by omega, unhide HFF⟩
            case measure => simp only [intOf]; omega
          · go_wp2_with fail
            go_round
            case rel => exact ⟨i + 1, by push_cast; rfl, by omega, unhide HFF⟩
            case measure => simp only [intOf]; omega
    · have HT1 : Hid (Lt X wr.drew d dw Sv Sw p1 (some ⟨be, 0, none⟩) pd C A x D) := (unhide hrel).below (bel_drew wr)
      clear hrel HT
      obtain ⟨f, hf⟩ : ∃ f, f = atS C A x.acc.data.toList x.day := ⟨_, rfl⟩
      have hfb : ∀ j, 0 ≤ f j ∧ f j ≤ 50000000000 := fun j => by rw [hf]; exact (unhide HXT).at_bounds _ _ j
      have hf2 : atS (C ++ [x]) (A ++ [lq x]) x.acc.data.toList x.day = fun j => f j + (if j = 0 then x.amt - 1 else 0) := funext fun j => by rw [(unhide HXT).now, hf]
      obtain ⟨f', hf'⟩ : ∃ f' : Nat → Int, f' = fun j => f j + (if j = 0 then x.amt - 1 else 0) := ⟨_, rfl⟩
      rw [← hf'] at hf2
      have hxa1 := (unhide HXT).a1; have hxa2 := (unhide HXT).a2
      have hfb' : ∀ j, j ≤ 4 → 0 ≤ f' j ∧ f' j ≤ 1000000000000 := fun j _ => by
        rw [hf']
        have := hfb j
        show 0 ≤ f j + (if j = 0 then x.amt - 1 else 0) ∧ f j + (if j = 0 then x.amt - 1 else 0) ≤ 1000000000000
        split <;> omega
      obtain ⟨sm, hsm⟩ : ∃ sm, sm = f 0 + f 1 + f 2 + f 3 + f 4 := ⟨_, rfl⟩
      have hs2 : f' 0 + f' 1 + f' 2 + f' 3 + f' 4 = sm + x.amt - 1 := by
        rw [hf', hsm]
        simp
        omega
      have hsb : 0 ≤ sm ∧ sm ≤ 250000000000 := by
        have := hfb 0; have := hfb 1; have := hfb 2; have := hfb 3; have := hfb 4
        omega
      have dS1 := hide (fun w => sum_any (f := f') hfb' w)
      have dS2 := hide (fun w => sum_any (f := f) (fun j _ => by have := hfb j; omega) w)
      rw [hs2] at dS1
      rw [← hsm] at dS2
      have HF := hide hf; have HF2 := hide hf2
      have HXA2 : Hid (x.acc.size ≤ maxLen) := HXA
      clear hf hfb hf2 hf' hfb' hsm hs2
      go_upto_region 22 with fail
      obtain ⟨kx1, kx2, kx4⟩ := unhide HCX _ _ _ (unhide HT1)
      refine wp_region_last (n := 30) (S := fun W' => W'.cell? ⟨be, 1, none⟩ = some (.string x.acc) ∧ W'.cell? ⟨be, 2, none⟩ = some (.int .i64 x.day) ∧ W'.cell? ⟨be, 4, none⟩ = some (.int .i64 x.amt)) (by kernel_rfl) (by exact ⟨kx1, kx2, kx4⟩) (fun hHeld => ?_)
      refine tkW 0 ?_; refine tkW 1 ?_; refine tkW 2 ?_; refine tkW 3 ?_; refine tkN 4 ?_; refine tkW 5 ?_; refine tkW 6 ?_; refine tkW 7 ?_; refine tkN 8 ?_; refine tkW 11 ?_; refine tkW 12 ?_; refine tkW 13 ?_; refine tkW 14 ?_; refine tkN 15 ?_; refine tkW 16 ?_; refine tkW 17 ?_; refine tkW 18 ?_; refine tkN 19 ?_; refine tkW 22 ?_; refine tkW 23 ?_; refine tkW 24 ?_; refine tkN 25 ?_
      have dC := hide (at_vw (unhide HT1).u (unhide HT1).st (unhide HXA2) x.day)
      rw [unhide HF2] at dC
      unfold ptr at dC
      refine wpAnyL_one (i := 9) (by kernel_rfl) rfl (fun KK hK => ?_)
      go_simp
      go_wp2_with (first | (go_at_call 17; refine (unhide dC).mono ?_; rintro e y2 ⟨rfl, hb2⟩))
      have HT2 := hide ((unhide HT1).below hb2)
      clear hb2
      refine hK.out _ _ (by exact unhide HCX _ _ _ (unhide HT2)) (fun hHeld => ?_)
      clear hK KK dC
      refine wpAnyL_one (i := 10) (by kernel_rfl) rfl (fun KK hK => ?_)
      go_simp
      go_wp2_with (first | (go_at_call 31; refine (unhide dS1 _).mono ?_; rintro e y3 ⟨rfl, hb3⟩))
      have HT3 := hide ((unhide HT2).below hb3)
      clear hb3
      refine hK.out _ _ (by exact unhide HCX _ _ _ (unhide HT3)) (fun hHeld => ?_)
      clear hK KK
      have dC := hide (at_vw (unhide HT3).v (unhide HT3).st (unhide HXA2) x.day)
      rw [← unhide HF] at dC
      unfold ptr at dC
      refine wpAnyL_one (i := 20) (by kernel_rfl) rfl (fun KK hK => ?_)
      go_simp
      go_wp2_with (first | (go_at_call 17; refine (unhide dC).mono ?_; rintro e y4 ⟨rfl, hb4⟩))
      have HT4 := hide ((unhide HT3).below hb4)
      clear hb4
      refine hK.out _ _ (by exact unhide HCX _ _ _ (unhide HT4)) (fun hHeld => ?_)
      clear hK KK dC
      refine wpAnyL_one (i := 21) (by kernel_rfl) rfl (fun KK hK => ?_)
      go_simp
      go_wp2_with (first | (go_at_call 31; refine (unhide dS2 _).mono ?_; rintro e y5 ⟨rfl, hb5⟩))
      have HT5 := hide ((unhide HT4).below hb5)
      clear hb5
      refine hK.out _ _ (by exact unhide HCX _ _ _ (unhide HT5)) (fun hHeld => ?_)
      clear hK KK
      refine tkW 26 ?_; refine tkW 27 ?_; refine tkW 28 ?_
      refine wpAnyL_one (i := 29) (by kernel_rfl) rfl (fun KK hK => ?_)
      go_simp
      refine hK.out _ _ (by exact unhide HCX _ _ _ (unhide HT5)) (fun hHeld => ?_)
      clear hK KK
      refine wpAnyL_done (by kernel_rfl) ?_
      clear hHeld
      go_wp2_with fail
      go_ret
      have hw1 : IntKind.i64.wrap (sm + x.amt) = sm + x.amt := by rw [IntKind.wrap_i64]; omega
      have hw2 : IntKind.i64.wrap (sm + x.amt - 1) = sm + x.amt - 1 := by rw [IntKind.wrap_i64]; omega
      exact ⟨by simp; rw [hw1, hw2], (unhide HBX).trans ((unhide HT5).bel.mono (unhide HBX).size)⟩
end Go.Proofs.YtildpgfhahmgmaaDoor
namespace Go.Proofs.YtildpgfhahmgmaaDoor.agedLater
open Go.ChangeShapes Go.WideShapes Go.ChangeAt Go.RowKit
set_option linter.unusedVariables false

theorem own : ownKnob Tryd.prog.godebug = none := by kernel_rfl
theorem laidOut : laidOutB Tryd.prog = true := by kernel_rfl
theorem plainMet {W : World} (h : laidMetH Tryd.prog Rows.agedLaterRow.laid W) : laidMet Tryd.prog Rows.agedLaterRow.laid W := by
  rw [MakeChecks.laidMetH_plain _ _ _ (by kernel_rfl)] at h
  exact h
theorem tab_same : (Rows.laid_daybook_aged_steps : DataW Unit) = Lib.tabData .i64 stepsL := by kernel_rfl
theorem tab {W : World} (h : laidMetH Tryd.prog Rows.agedLaterRow.laid W) : Stp W := by
  have h1 : laidMet Tryd.prog (("daybook/aged.steps", Rows.laid_daybook_aged_steps) :: []) W := plainMet h
  rw [tab_same] at h1
  exact Lib.tabIs_of_head (g := 0) (t := 115) (e := 3) (n := 4) (by kernel_rfl) (by kernel_rfl) Tryd.underlying115 Tryd.underlying3 (by kernel_rfl) (by kernel_rfl) h1

set_option maxRecDepth 100000 in
theorem open_one {H : Type} {enc : TypeId × Value → H} {W : World} {base : Nat} {v : Value} {d : DataW H} {p : List MemPlace} (hok : Value.okWide Tryd.prog W .any base 65 v) (h : ∃ fuel, DataW.trod enc Tryd.prog W 0 (fun _ => true) true fuel 65 v.cells.toList = some (d, p)) (hw : ∀ n ∈ d.weights Tryd.prog 65, n ≤ reachBytes) :
    ∃ o : Dl, v = .agg #[.string o.acc, .int .i64 o.day, .int .i64 o.wait, .int .i64 o.amt, .slice o.pp o.np o.cp] ∧ o.acc.size ≤ maxLen := by
  obtain ⟨cs, rfl, hs⟩ := okWide_struct Tryd.underlying65 hok
  obtain ⟨fuel, hf⟩ := h
  obtain ⟨o, hX, hO, _⟩ := open_deal hf hw
  have e : cs.toList = o.vals := hX
  refine ⟨o, ?_, hO⟩
  cases cs
  simp only [Value.agg.injEq, Array.mk.injEq]
  exact e

set_option maxRecDepth 100000 in
theorem contract (H : Type) (enc : TypeId × Value → H) (W : World) (base : Nat) (args : Array Value) (ds gs : List (DataW H)) (before : List MemPlace)
    (hval0 : ∀ (j : Nat) t v, Tryd.f6.params[j]? = some t → args[j]? = some v → Value.okWide Tryd.prog W .any base t v)
    (hW : DataW.Whole enc Tryd.prog Tryd.f6.params.toList Rows.agedLaterSpec.vars false W args.toList ds gs before)
    (hsz0 : (DataW.weightsEach Tryd.prog (Tryd.f6.params.toList ++ Rows.agedLaterSpec.plain.varTypes Tryd.prog) (ds ++ gs)).all (· ≤ reachBytes) = true) (hL : laidMetH Tryd.prog Rows.agedLaterRow.laid W) :
    Calls Tryd.prog 6 args W fun e W' => ∃ v, e = .returned v ∧ Rows.agedLaterSpec.post enc Tryd.prog Tryd.f6 false true false false W args v W' := by
  have hval : ∀ (j : Nat) t v, Tryd.f6.params[j]? = some t → args[j]? = some v → Value.okWide Tryd.prog W .any base t v := hval0
  have hsz := hsz0
  have hW' := hW
  obtain ⟨p, q, hA0, hV, rfl, hfz, hnd⟩ := hW
  have hA : DataW.TrodAll enc Tryd.prog W 0 (fun _ => true) true Tryd.f6.params.toList args.toList ds p := hA0
  rw [Tryd.params6] at hA hval hsz
  obtain ⟨v0, vs0, d0, ds0, p0, q0, hargs, rfl, rfl, h0, r0⟩ := trodAll_cons hA
  obtain ⟨v1, vs1, d1, ds1, p1, q1, hargs1, rfl, rfl, h1, r1⟩ := trodAll_cons r0
  obtain ⟨v2, vs2, d2, ds2, p2, q2, hargs2, rfl, rfl, h2, r2⟩ := trodAll_cons r1
  obtain ⟨rfl, rfl, rfl⟩ := trodAll_nil r2
  obtain rfl : args = #[v0, v1, v2] := by cases args; simp_all
  obtain ⟨rfl, rfl⟩ := trodVars_none hV
  have lt0 : ∀ x ∈ p0, x.block < W.heap.size := by obtain ⟨m, hm⟩ := h0; exact DataW.trod_lt m _ _ _ hm
  have hw0 : ∀ n ∈ d0.weights Tryd.prog 22, n ≤ reachBytes := fun n hn => by
    have := List.all_eq_true.1 hsz n (DataW.weights_mem_each (j := 0) (t := 22) (d := d0) rfl rfl n hn)
    simpa using this
  obtain ⟨pu, cu, L, e0, hK, hops, hacc, hpts⟩ := open_deals (hval 0 22 v0 rfl rfl) h0 hw0
  have lt1 : ∀ x ∈ p1, x.block < W.heap.size := by obtain ⟨m, hm⟩ := h1; exact DataW.trod_lt m _ _ _ hm
  have hw1 : ∀ n ∈ d1.weights Tryd.prog 65, n ≤ reachBytes := fun n hn => by
    have := List.all_eq_true.1 hsz n (DataW.weights_mem_each (j := 1) (t := 65) (d := d1) rfl rfl n hn)
    simpa using this
  obtain ⟨one, e1, hone⟩ := open_one (hval 1 65 v1 rfl rfl) h1 hw1
  have lt2 : ∀ x ∈ p2, x.block < W.heap.size := by obtain ⟨m, hm⟩ := h2; exact DataW.trod_lt m _ _ _ hm
  have hw2 : ∀ n ∈ d2.weights Tryd.prog 57, n ≤ reachBytes := fun n hn => by
    have := List.all_eq_true.1 hsz n (DataW.weights_mem_each (j := 2) (t := 57) (d := d2) rfl rfl n hn)
    simpa using this
  obtain ⟨pm, cm, M, e2, hM1, hM2, hM3⟩ := open_nums (hval 2 57 v2 rfl rfl) h2 hw2
  clear hA0 hval0
  subst e0
  subst e1
  subst e2
  refine (walk_AgedLater (cu := cu) (cm := cm) (tab hL) rfl hK hops hacc hpts hone hM2 rfl hM3 hM1).mono fun e W' ⟨he, bel⟩ => ?_
  subst he
  exact ⟨_, rfl, _, _, _, [], _, [], hW', trodAll_mk1 (shut_bool Tryd.underlying4 _), (trodAll_cons_mk (Below.trod laidOut (by kernel_rfl) (of_decide_eq_true (by kernel_rfl)) h0 bel lt0) (trodAll_cons_mk (Below.trod laidOut (by kernel_rfl) (of_decide_eq_true (by kernel_rfl)) h1 bel lt1) (trodAll_cons_mk (Below.trod laidOut (by kernel_rfl) (of_decide_eq_true (by kernel_rfl)) h2 bel lt2) trodAll_mk0))), rfl, bel.frame _, fun h => by cases h⟩

theorem laid_met (os : Os) : laidMetH Tryd.prog Rows.agedLaterRow.laid ((World.laidAll Tryd.prog os Rows.agedLaterRow.laid).forCall (fun _ _ => 0) ⟨#[], #[.slice none 0 0, .agg #[.string ⟨#[]⟩, .int .i64 0, .int .i64 0, .int .i64 0, .slice none 0 0], .slice none 0 0], []⟩).memory := by
  rw [MakeChecks.laidMetH_plain _ _ _ (by kernel_rfl)]
  exact laidMet_laidAll _ (by kernel_rfl) (by kernel_rfl)
theorem reads (os : Os) {H : Type} (enc : TypeId × Value → H) : ∃ places, DataW.whole enc Tryd.prog ((World.laidAll Tryd.prog os Rows.agedLaterRow.laid).forCall (fun _ _ => 0) ⟨#[], #[.slice none 0 0, .agg #[.string ⟨#[]⟩, .int .i64 0, .int .i64 0, .int .i64 0, .slice none 0 0], .slice none 0 0], []⟩).memory Tryd.f6.params.toList Rows.agedLaterSpec.vars false #[Value.slice none 0 0, .agg #[.string ⟨#[]⟩, .int .i64 0, .int .i64 0, .int .i64 0, .slice none 0 0], .slice none 0 0].toList 8 = some ([.nil, .agg [.lit (.string []), .lit (.int .i64 0), .lit (.int .i64 0), .lit (.int .i64 0), .nil], .nil], [], places) :=
  ⟨[], by kernel_rfl⟩

set_option maxRecDepth 100000 in
theorem lifted (os : Os) (started : os.Started) (H : Type) (enc : TypeId × Value → H) (F : Stop.Interp) :
    ReturnsInHanded {} Tryd.checked os 6 .any ((OpenSpec.ofChange Rows.agedLaterSpec).preRow enc Tryd.prog Tryd.f6 Rows.agedLaterRow.domain false Rows.agedLaterRow.laid) (((OpenSpec.ofChange Rows.agedLaterSpec).at F).post enc Tryd.prog Tryd.f6 false true false false) := by
  obtain ⟨places, hx⟩ := reads os enc
  refine returnsInHanded_of_row (C := Tryd.checked) (s := OpenSpec.ofChange Rows.agedLaterSpec) own started (by kernel_rfl) Tryd.func6
    (witness_row_at (enc := enc) (C := Tryd.checked) false (World.laidAll Tryd.prog os Rows.agedLaterRow.laid) #[.slice none 0 0, .agg #[.string ⟨#[]⟩, .int .i64 0, .int .i64 0, .int .i64 0, .slice none 0 0], .slice none 0 0] (World.laidAll_os _ _ _) (by kernel_rfl) (by kernel_rfl) (by kernel_rfl)
      (OpenSpec.preRow_of_cond 8 hx (by kernel_rfl) (fun k hk => by cases hk) (by kernel_rfl) (laid_met os))) ?_
  intro W base args ds gs before hval hW _ _ hsz hL _ _
  exact contract H enc W base args ds gs before hval hW hsz hL

theorem fa : (Rows.agedLaterRow.inPlace == Tryd.prog.inPlace 6) = true := by kernel_rfl
theorem fb : (Rows.agedLaterRow.unfollowed == Tryd.prog.unfollowed 6) = true := by kernel_rfl
theorem fc : (Rows.agedLaterRow.recurses == Tryd.prog.recurses 6) = true := by kernel_rfl
theorem fd : (Rows.agedLaterRow.named == Tryd.prog.varsNamed 6) = true := by kernel_rfl
theorem closed : joinedFacts Tryd.prog 6 Tryd.f6 (OpenSpec.ofChange Rows.agedLaterSpec).bare Rows.agedLaterRow = true := by
  unfold joinedFacts
  rw [fa, fb, fc, fd]
  kernel_rfl
theorem over : Rows.AgedLaterSaid :=
  OpenClaim.holds_of_cond 6 Tryd.f6 rfl rfl rfl rfl rfl rfl rfl ⟨rfl, rfl, rfl, rfl, rfl⟩ rfl rfl rfl rfl rfl (by kernel_rfl) Tryd.func6 closed
    (of_decide_eq_true (by kernel_rfl)) (by unfold Func.isWrapper; first | (rw [if_pos (by decide +kernel)]; kernel_rfl) | (rw [if_neg (by decide +kernel)]; exact ⟨rfl, rfl⟩))
    (fun os started H enc _ F => by rw [OpenClaim.pre_eq_preRow]; exact lifted os started H enc F)
theorem plain (f : FuncId) (fn : Func) (hf : Tryd.pinned.checked.prog.funcNamed "daybook/daybooklaw10.AgedLater" = some f) (hfn : Tryd.pinned.checked.prog.funcs[f]? = some fn) :
    false = Tryd.pinned.checked.prog.looks [] ∧ ∀ (j : Nat) t, fn.params[j]? = some t → Tryd.pinned.checked.prog.wantsStandIn t = false := by
  obtain rfl : f = 6 := Option.some.inj ((show Tryd.prog.funcNamed "daybook/daybooklaw10.AgedLater" = some 6 by kernel_rfl).symm.trans hf) |>.symm
  obtain rfl : fn = Tryd.f6 := (Option.some.inj (Tryd.func6.symm.trans hfn)).symm
  refine ⟨by kernel_rfl, fun j t ht => ?_⟩
  rw [Tryd.params6] at ht
  have hm : t ∈ [22, 65, 57] := by simpa using Array.mem_of_getElem? ht
  have hall : ([22, 65, 57].all fun u => !Tryd.prog.wantsStandIn u) = true := by kernel_rfl
  exact (show Tryd.prog.wantsStandIn t = false by simpa using List.all_eq_true.1 hall t hm)
end Go.Proofs.YtildpgfhahmgmaaDoor.agedLater
namespace Go.Proofs.YtildpgfhahmgmaaDoor
theorem agedLater_card : Rows.AgedLaterCardSaid :=
  Claim7.holds_tied_plain_at .later [] _ _ _ _ agedLater.over (fun _ h => by cases h) (by kernel_rfl) (fun _ h => by cases h) agedLater_row_tie rfl ⟨rfl, rfl⟩ (by kernel_rfl) rfl agedLater.plain (by kernel_rfl)
#print axioms agedLater_card
end Go.Proofs.YtildpgfhahmgmaaDoor
