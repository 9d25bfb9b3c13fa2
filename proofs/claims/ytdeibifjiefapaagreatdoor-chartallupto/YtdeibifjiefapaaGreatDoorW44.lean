import Derived.Test.YtdeibifjiefapaaGreatDoorW43
import Derived.Test.YtdeibifjiefapaaGreatDoorW42
import Derived.Test.YtdeibifjiefapaaGreatDoorRows
import Derived.Deep.Slices
import Derived.Deep.Strs
import Derived.SizedLaws
import Derived.ChangeMaps5
/- ChartCalls (3), ChartAll (4). -/
namespace Go.Proofs.YtdeibifjiefapaaGreatDoor.Kg
open Go Go.RowKit Go.Shelf Go.ChangeShapes Go.WideShapes Go.ChangeAt Go.Maps
set_option linter.unusedVariables false
set_option linter.unusedSimpArgs false
set_option maxRecDepth 100000
set_option maxHeartbeats 8000000
theorem ActsAt.below {W W' : World} {p : Option Addr} {L : List Av} (h : ActsAt W p L) (hb : Below W.heap.size W W') : ActsAt W' p L := fun k hk => by
  obtain ⟨b, off, e, hl, hr⟩ := h k hk
  exact ⟨b, off, e, Nat.lt_of_lt_of_le hl hb.size, fun j u hu => keep1 hb hl (hr j u hu)⟩

theorem walk3 {W : World} (hP : Pw W) {pX pA : Option Addr} {cX cA : Nat} {X : List Ac} {A : List Av} (hX0 : pX = none → cX = 0) (hLX : Lies kA W pX X) (hn : X.length ≤ 1048576) (hs : ∀ a ∈ X, (txN a.nm).size < 4611686018427387904) (hLA : ActsAt W pA A) (hm : A.length ≤ 1048576) (hok : ∀ a ∈ A, a.ok) (hask : ∀ a ∈ A, a.ask.size < 4611686018427387904) :
    Calls Tryz.prog 3 #[.agg #[.slice pX X.length cX, .slice pA A.length cA]] W fun e w' => e = .returned (.bool true) ∧ Below W.heap.size W w' := by
  have hb0 : Below W.heap.size W (W.alloc (.cells #[.slice pX X.length cX, .slice pA A.length cA] 25)) := bal (Below.refl _ _) _
  have d5 := hide (plays_any (cX := cX) (cA := cA) (hP.below hb0) rfl rfl hX0 hn hm (hLX.below hb0) hs (hLA.below hb0) hok hask false)
  have HB0 := hide hb0
  clear hP hX0 hLX hn hs hLA hm hok hask hb0
  go_enter Tryz.func3, Tryz.ntmps3
  go_wp2_with fail
  refine (unhide d5).mono ?_
  rintro e w1 ⟨rfl, hb⟩
  have HB : Hid (Below W.heap.size W w1) := (unhide HB0).trans (hb.mono (unhide HB0).size)
  clear hb
  go_wp2_with fail
  go_ret
  exact ⟨rfl, unhide HB⟩

theorem walk4 {W : World} (hP : Pw W) {pX pA : Option Addr} {cX cA : Nat} {X : List Ac} {A : List Av} (hX0 : pX = none → cX = 0) (hLX : Lies kA W pX X) (hn : X.length ≤ 1048576) (hs : ∀ a ∈ X, (txN a.nm).size < 4611686018427387904) (hLA : ActsAt W pA A) (hm : A.length ≤ 1048576) (hok : ∀ a ∈ A, a.ok) (hask : ∀ a ∈ A, a.ask.size < 4611686018427387904) :
    Calls Tryz.prog 4 #[.agg #[.slice pX X.length cX, .slice pA A.length cA]] W fun e w' => e = .returned (.bool true) ∧ Below W.heap.size W w' := by
  have hb0 : Below W.heap.size W (W.alloc (.cells #[.slice pX X.length cX, .slice pA A.length cA] 25)) := bal (Below.refl _ _) _
  have d5 := hide (plays_any (cX := cX) (cA := cA) (hP.below hb0) rfl rfl hX0 hn hm (hLX.below hb0) hs (hLA.below hb0) hok hask true)
  have HB0 := hide hb0
  clear hP hX0 hLX hn hs hLA hm hok hask hb0
  go_enter Tryz.func4, Tryz.ntmps4
  go_wp2_with fail
  refine (unhide d5).mono ?_
  rintro e w1 ⟨rfl, hb⟩
  have HB : Hid (Below W.heap.size W w1) := (unhide HB0).trans (hb.mono (unhide HB0).size)
  clear hb
  go_wp2_with fail
  go_ret
  exact ⟨rfl, unhide HB⟩
end Go.Proofs.YtdeibifjiefapaaGreatDoor.Kg
/- A Play as an argument, opened. -/
namespace Go.Proofs.YtdeibifjiefapaaGreatDoor.Kg
open Go.Deep Go Go.RowKit Go.Shelf Go.ChangeShapes Go.WideShapes Go.ChangeAt Go.Maps
set_option linter.unusedVariables false
set_option linter.unusedSimpArgs false
set_option maxRecDepth 100000
set_option maxHeartbeats 8000000
theorem cells65 : Tryz.prog.cellsOf 65 = 4 := by kernel_rfl
theorem cells60 : Tryz.prog.cellsOf 60 = 6 := by kernel_rfl
theorem cells25 : Tryz.prog.cellsOf 25 = 2 := by kernel_rfl
theorem cells22 : Tryz.prog.cellsOf 22 = 1 := by kernel_rfl
theorem cells23 : Tryz.prog.cellsOf 23 = 1 := by kernel_rfl
theorem cells3 : Tryz.prog.cellsOf 3 = 1 := by kernel_rfl
theorem cells4 : Tryz.prog.cellsOf 4 = 1 := by kernel_rfl
theorem cells9 : Tryz.prog.cellsOf 9 = 1 := by kernel_rfl
theorem list4 {α : Type} {cs : List α} (h : cs.length = 4) : ∃ c0 c1 c2 c3, cs = [c0, c1, c2, c3] := by
  match cs, h with
  | [c0, c1, c2, c3], _ => exact ⟨c0, c1, c2, c3, rfl⟩
theorem list2 {α : Type} {cs : List α} (h : cs.length = 2) : ∃ c0 c1, cs = [c0, c1] := by
  match cs, h with
  | [c0, c1], _ => exact ⟨c0, c1, rfl⟩
theorem list6 {α : Type} {cs : List α} (h : cs.length = 6) : ∃ c0 c1 c2 c3 c4 c5, cs = [c0, c1, c2, c3, c4, c5] := by
  match cs, h with
  | [c0, c1, c2, c3, c4, c5], _ => exact ⟨c0, c1, c2, c3, c4, c5, rfl⟩
theorem choose_list {α : Type} {P : Nat → α → Prop} : ∀ n, (∀ i, i < n → ∃ x, P i x) → ∃ L : List α, L.length = n ∧ ∀ i (h : i < L.length), P i L[i]
  | 0, _ => ⟨[], rfl, fun i h => by simp at h⟩
  | n + 1, h => by
    obtain ⟨L, hl, hL⟩ := choose_list n (fun i hi => h i (by omega))
    obtain ⟨x, hx⟩ := h n (by omega)
    refine ⟨L ++ [x], by simp [hl], fun i hi => ?_⟩
    by_cases hi' : i < L.length
    · rw [List.getElem_append_left hi']
      exact hL i hi'
    · have : i = n := by simp [hl] at hi hi'; omega
      subst this
      rw [List.getElem_append_right (by omega)]
      simpa [hl] using hx
theorem one_le {H : Type} (d : DataW H) : 1 ≤ Rows.uptoBulk d := by
  cases d with
  | lit l => cases l <;> simp [Rows.uptoBulk]
  | nil => simp [Rows.uptoBulk]
  | ptr d => simp [Rows.uptoBulk]
  | slice elems spare => simp [Rows.uptoBulk]
  | agg parts => simp [Rows.uptoBulk]
  | iface t d => simp [Rows.uptoBulk]
  | map entries => simp [Rows.uptoBulk]
  | held h => simp [Rows.uptoBulk]
theorem sum_bulk {H α : Type} (f : α → Nat) : ∀ (D : Nat → DataW H) (L : List α), (∀ i (h : i < L.length), f L[i] ≤ Rows.uptoBulk (D i)) → (L.map f).sum ≤ Rows.uptoBulkAll ((List.range L.length).map D) := by
  intro D L
  induction L generalizing D with
  | nil => intro _; simp
  | cons x L ih =>
    intro h
    have h0 := h 0 (by simp)
    have h1 := ih (fun i => D (i + 1)) (fun i hi => h (i + 1) (by simpa using hi))
    rw [List.length_cons, List.range_succ_eq_map, List.map_cons, List.map_cons, List.map_map, List.sum_cons]
    simp only [Rows.uptoBulkAll]
    simp only [List.getElem_cons_zero] at h0
    exact Nat.add_le_add h0 h1
def wX (a : Ac) : Nat := (txN a.nm).size + 1
def wV (v : Av) : Nat := v.nam.size + v.ask.size + 1
theorem txN_self (s : ByteArray) : txN s.data.toList = s := rfl
section
variable {H : Type} {enc : TypeId × Value → H} {W : World}
theorem trod_six {P : Program} {w : World} {base : Nat} {spare : Nat → Bool} {held : Bool} {t : TypeId} {f0 f1 f2 f3 f4 f5 : Field} {fuel : Nat} {cs : List Value} {x : DataW H × List MemPlace} (ht : P.underlying t = some (.struct #[f0, f1, f2, f3, f4, f5])) (h : DataW.trod enc P w base spare held fuel t cs = some x) :
    ∃ (y0 y1 y2 y3 y4 y5 : DataW H × List MemPlace) (n : Nat), x.1 = .agg [y0.1, y1.1, y2.1, y3.1, y4.1, y5.1] ∧ cs.length = P.cellsOf t ∧
      DataW.trod enc P w base spare held n f0.type ((cs.drop f0.offset).take (P.cellsOf f0.type)) = some y0 ∧
      DataW.trod enc P w base spare held n f1.type ((cs.drop f1.offset).take (P.cellsOf f1.type)) = some y1 ∧
      DataW.trod enc P w base spare held n f2.type ((cs.drop f2.offset).take (P.cellsOf f2.type)) = some y2 ∧
      DataW.trod enc P w base spare held n f3.type ((cs.drop f3.offset).take (P.cellsOf f3.type)) = some y3 ∧
      DataW.trod enc P w base spare held n f4.type ((cs.drop f4.offset).take (P.cellsOf f4.type)) = some y4 ∧
      DataW.trod enc P w base spare held n f5.type ((cs.drop f5.offset).take (P.cellsOf f5.type)) = some y5 := by
  obtain ⟨xs, n, _, rfl, hl, hlen, hf⟩ := DataW.trod_struct ht h
  match xs, hlen with
  | [y0, y1, y2, y3, y4, y5], _ => exact ⟨y0, y1, y2, y3, y4, y5, n, by simp, hl, by simpa using hf 0 f0 rfl, by simpa using hf 1 f1 rfl, by simpa using hf 2 f2 rfl, by simpa using hf 3 f3 rfl, by simpa using hf 4 f4 rfl, by simpa using hf 5 f5 rfl⟩
theorem trodS4 {P : Program} {w : World} {base : Nat} {spare : Nat → Bool} {held : Bool} {t : TypeId} {f0 f1 f2 f3 : Field} {fuel : Nat} {cs : List Value} {x : DataW H × List MemPlace} (ht : P.underlying t = some (.struct #[f0, f1, f2, f3])) (h : DataW.trod enc P w base spare held fuel t cs = some x) :
    ∃ (y0 y1 y2 y3 : DataW H × List MemPlace) (n : Nat), x.1 = .agg [y0.1, y1.1, y2.1, y3.1] ∧ cs.length = P.cellsOf t ∧ DataW.trod enc P w base spare held n f0.type ((cs.drop f0.offset).take (P.cellsOf f0.type)) = some y0 ∧ DataW.trod enc P w base spare held n f1.type ((cs.drop f1.offset).take (P.cellsOf f1.type)) = some y1 ∧ DataW.trod enc P w base spare held n f2.type ((cs.drop f2.offset).take (P.cellsOf f2.type)) = some y2 ∧ DataW.trod enc P w base spare held n f3.type ((cs.drop f3.offset).take (P.cellsOf f3.type)) = some y3 := by
  obtain ⟨xs, n, _, rfl, hl, hlen, hf⟩ := DataW.trod_struct ht h
  match xs, hlen with
  | [y0, y1, y2, y3], _ => exact ⟨y0, y1, y2, y3, n, by simp, hl, by simpa using hf 0 f0 rfl, by simpa using hf 1 f1 rfl, by simpa using hf 2 f2 rfl, by simpa using hf 3 f3 rfl⟩
theorem trodS2 {P : Program} {w : World} {base : Nat} {spare : Nat → Bool} {held : Bool} {t : TypeId} {f0 f1 : Field} {fuel : Nat} {cs : List Value} {x : DataW H × List MemPlace} (ht : P.underlying t = some (.struct #[f0, f1])) (h : DataW.trod enc P w base spare held fuel t cs = some x) :
    ∃ (y0 y1 : DataW H × List MemPlace) (n : Nat), x.1 = .agg [y0.1, y1.1] ∧ cs.length = P.cellsOf t ∧ DataW.trod enc P w base spare held n f0.type ((cs.drop f0.offset).take (P.cellsOf f0.type)) = some y0 ∧ DataW.trod enc P w base spare held n f1.type ((cs.drop f1.offset).take (P.cellsOf f1.type)) = some y1 := by
  obtain ⟨xs, n, _, rfl, hl, hlen, hf⟩ := DataW.trod_struct ht h
  match xs, hlen with
  | [y0, y1], _ => exact ⟨y0, y1, n, by simp, hl, by simpa using hf 0 f0 rfl, by simpa using hf 1 f1 rfl⟩

theorem i64_in {n : Int} (hb : (Lit.int .i64 n).wf = true) : -9223372036854775808 ≤ n ∧ n ≤ 9223372036854775807 := by
  simp [Lit.wf, IntKind.min, IntKind.max, IntKind.signed, IntKind.bits] at hb
  omega
set_option maxRecDepth 100000 in
theorem open_ac {fuel : Nat} {cs : List Value} {x : DataW H × List MemPlace} (h : DataW.trod enc Tryz.prog W 0 (fun _ => true) true fuel 65 cs = some x) :
    ∃ r : Ac, cs = kA.enc r ∧ wX r ≤ Rows.uptoBulk x.1 := by
  obtain ⟨y0, y1, y2, y3, n, hx, hl, g0, g1, g2, g3⟩ := trodS4 Tryz.underlying65 h
  rw [cells65] at hl
  obtain ⟨c0, c1, c2, c3, rfl⟩ := list4 hl
  clear h hl
  simp only [cells3, cells9, cells4, List.drop_zero, List.drop_succ_cons, List.take_succ_cons, List.take_zero] at g0 g1 g2 g3
  obtain ⟨s0, e0, x0, _⟩ := DataW.trod_string Tryz.underlying9 g0
  obtain ⟨n1, e1, _, _⟩ := DataW.trod_int Tryz.underlying3 g1
  obtain ⟨n2, e2, _, _⟩ := DataW.trod_int Tryz.underlying3 g2
  obtain ⟨b3, e3, _⟩ := DataW.trod_bool Tryz.underlying4 g3
  simp only [List.cons.injEq, and_true] at e0 e1 e2 e3
  refine ⟨⟨s0.data.toList, n1, n2, b3⟩, by rw [e0, e1, e2, e3]; rfl, ?_⟩
  show (txN s0.data.toList).size + 1 ≤ _
  rw [txN_self, hx]
  have h5 : Rows.uptoBulk y0.1 = s0.size + 1 := by rw [x0]; simp [Rows.uptoBulk]
  simp only [Rows.uptoBulk, Rows.uptoBulkAll]
  omega
set_option maxRecDepth 100000 in
theorem open_av {fuel : Nat} {cs : List Value} {x : DataW H × List MemPlace} (h : DataW.trod enc Tryz.prog W 0 (fun _ => true) true fuel 60 cs = some x) :
    ∃ v : Av, cs = v.vals ∧ wV v ≤ Rows.uptoBulk x.1 ∧ (-9223372036854775808 ≤ v.typ ∧ v.typ ≤ 9223372036854775807) := by
  obtain ⟨y0, y1, y2, y3, y4, y5, n, hx, hl, g0, g1, g2, g3, g4, g5⟩ := trod_six Tryz.underlying60 h
  rw [cells60] at hl
  obtain ⟨c0, c1, c2, c3, c4, c5, rfl⟩ := list6 hl
  clear h hl
  simp only [cells3, cells9, List.drop_zero, List.drop_succ_cons, List.take_succ_cons, List.take_zero] at g0 g1 g2 g3 g4 g5
  obtain ⟨n0, e0, _, _⟩ := DataW.trod_int Tryz.underlying3 g0
  obtain ⟨n1, e1, _, _⟩ := DataW.trod_int Tryz.underlying3 g1
  obtain ⟨n2, e2, _, z2⟩ := DataW.trod_int Tryz.underlying3 g2
  obtain ⟨n3, e3, _, _⟩ := DataW.trod_int Tryz.underlying3 g3
  obtain ⟨s4, e4, x4, _⟩ := DataW.trod_string Tryz.underlying9 g4
  obtain ⟨s5, e5, x5, _⟩ := DataW.trod_string Tryz.underlying9 g5
  simp only [List.cons.injEq, and_true] at e0 e1 e2 e3 e4 e5
  refine ⟨⟨n0, n1, n2, n3, s4, s5⟩, by rw [e0, e1, e2, e3, e4, e5]; rfl, ?_, i64_in z2⟩
  show s4.size + s5.size + 1 ≤ _
  rw [hx]
  have h4 : Rows.uptoBulk y4.1 = s4.size + 1 := by rw [x4]; simp [Rows.uptoBulk]
  have h5 : Rows.uptoBulk y5.1 = s5.size + 1 := by rw [x5]; simp [Rows.uptoBulk]
  simp only [Rows.uptoBulk, Rows.uptoBulkAll]
  omega
set_option maxRecDepth 100000 in
theorem open_accs {fuel : Nat} {v : Value} {x : DataW H × List MemPlace} (h : DataW.trod enc Tryz.prog W 0 (fun _ => true) true fuel 22 [v] = some x) :
    ∃ (p : Option Addr) (c : Nat) (L : List Ac), v = .slice p L.length c ∧ (p = none → c = 0) ∧ Lies kA W p L ∧ (L.map wX).sum + 1 ≤ Rows.uptoBulk x.1 := by
  rcases open_slice Tryz.underlying22 h with ⟨hcs, hx⟩ | ⟨a, len, cap, m, n, D, Pl, hcs, hb, hl, hm, hmm, hx, hall⟩
  · simp only [List.cons.injEq, and_true] at hcs
    exact ⟨none, 0, [], hcs, fun _ => rfl, Lies.nil _ _, by have := one_le x.1; simpa using this⟩
  · simp only [List.cons.injEq, and_true] at hcs
    have hmm' : m = cap := by simpa using hmm
    have hd : x.1 = .slice ((List.range len).map D) ((List.range (m - len)).map fun j => D (len + j)) := (Prod.mk.inj hx).1
    have hq : ∀ i, i < len → ∃ y : Ac, (∃ b off, some a = some (⟨b, off, none⟩ : Addr) ∧ b < W.heap.size ∧ W.rangeAt b (off + i * 4) (kA.enc y)) ∧ wX y ≤ Rows.uptoBulk (D i) := fun i hi => by
      obtain ⟨cs', h1, h2⟩ := hall i (by omega)
      obtain ⟨y, hy, hwt⟩ := open_ac h2
      rw [cells65] at h1
      obtain ⟨_, hlen, hc⟩ := World.cells?_some h1
      have hs : a.spot = none := by
        obtain ⟨cz, hz1, hz2⟩ := hall 0 (by omega)
        obtain ⟨rz, hrz, _⟩ := open_ac hz2
        rw [cells65] at hz1
        obtain ⟨_, _, hcz⟩ := World.cells?_some hz1
        have h3 := hcz 0 (by omega)
        rw [hrz] at h3
        simpa [Addr.add] using World.cell?_spot h3
      obtain ⟨b, off, sp⟩ := a
      simp only at hs
      subst hs
      refine ⟨y, ⟨b, off, rfl, ?_, fun j u hj => ?_⟩, hwt⟩
      · have h3 := hc 0 (by omega)
        rw [hy] at h3
        rw [add_add, Addr.add_mid] at h3
        exact World.block_lt_of_cell? W _ h3
      · have hj' : j < 4 := (List.getElem?_eq_some_iff.1 hj).1
        have h3 := hc j hj'
        rw [hy, hj, add_add, Addr.add_mid, ← Nat.add_assoc] at h3
        exact h3
    obtain ⟨L, hL, hall⟩ := choose_list len hq
    have hsum := sum_bulk wX D L (fun i hi => (hall i hi).2)
    refine ⟨some a, cap, L, by rw [hL]; exact hcs, (fun h => by cases h), ⟨(fun h => by cases h), fun k hk => (hall k hk).1⟩, ?_⟩
    rw [hd]
    simp only [Rows.uptoBulk]
    rw [hL] at hsum
    omega

set_option maxRecDepth 100000 in
theorem open_acts {fuel : Nat} {v : Value} {x : DataW H × List MemPlace} (h : DataW.trod enc Tryz.prog W 0 (fun _ => true) true fuel 23 [v] = some x) :
    ∃ (p : Option Addr) (c : Nat) (L : List Av), v = .slice p L.length c ∧ (p = none → c = 0) ∧ ActsAt W p L ∧ (L.map wV).sum + 1 ≤ Rows.uptoBulk x.1 ∧ ∀ y ∈ L, (-9223372036854775808 ≤ y.typ ∧ y.typ ≤ 9223372036854775807) := by
  rcases open_slice Tryz.underlying23 h with ⟨hcs, hx⟩ | ⟨a, len, cap, m, n, D, Pl, hcs, hb, hl, hm, hmm, hx, hall⟩
  · simp only [List.cons.injEq, and_true] at hcs
    exact ⟨none, 0, [], hcs, fun _ => rfl, (fun k hk => by simp at hk), by have := one_le x.1; simpa using this, fun y hy => (by cases hy)⟩
  · simp only [List.cons.injEq, and_true] at hcs
    have hmm' : m = cap := by simpa using hmm
    have hd : x.1 = .slice ((List.range len).map D) ((List.range (m - len)).map fun j => D (len + j)) := (Prod.mk.inj hx).1
    have hq : ∀ i, i < len → ∃ y : Av, (∃ b off, some a = some (⟨b, off, none⟩ : Addr) ∧ b < W.heap.size ∧ W.rangeAt b (off + i * 6) y.vals) ∧ wV y ≤ Rows.uptoBulk (D i) ∧ (-9223372036854775808 ≤ y.typ ∧ y.typ ≤ 9223372036854775807) := fun i hi => by
      obtain ⟨cs', h1, h2⟩ := hall i (by omega)
      obtain ⟨y, hy, hwt, hpo⟩ := open_av h2
      rw [cells60] at h1
      obtain ⟨_, hlen, hc⟩ := World.cells?_some h1
      have hs : a.spot = none := by
        obtain ⟨cz, hz1, hz2⟩ := hall 0 (by omega)
        obtain ⟨rz, hrz, _, _⟩ := open_av hz2
        rw [cells60] at hz1
        obtain ⟨_, _, hcz⟩ := World.cells?_some hz1
        have h3 := hcz 0 (by omega)
        rw [hrz] at h3
        simpa [Addr.add] using World.cell?_spot h3
      obtain ⟨b, off, sp⟩ := a
      simp only at hs
      subst hs
      refine ⟨y, ⟨b, off, rfl, ?_, fun j u hj => ?_⟩, hwt, hpo⟩
      · have h3 := hc 0 (by omega)
        rw [hy] at h3
        rw [add_add, Addr.add_mid] at h3
        exact World.block_lt_of_cell? W _ h3
      · have hj' : j < 6 := (List.getElem?_eq_some_iff.1 hj).1
        have h3 := hc j hj'
        rw [hy, hj, add_add, Addr.add_mid, ← Nat.add_assoc] at h3
        exact h3
    obtain ⟨L, hL, hall⟩ := choose_list len hq
    have hsum := sum_bulk wV D L (fun i hi => (hall i hi).2.1)
    refine ⟨some a, cap, L, by rw [hL]; exact hcs, (fun h => by cases h), (fun k hk => (hall k hk).1), ?_, fun y hy => ?_⟩
    · rw [hd]
      simp only [Rows.uptoBulk]
      rw [hL] at hsum
      omega
    · obtain ⟨k, hk, rfl⟩ := List.mem_iff_getElem.1 hy
      exact (hall k hk).2.2

theorem mem_sum {α : Type} (f : α → Nat) : ∀ {L : List α} {x : α}, x ∈ L → f x ≤ (L.map f).sum
  | [], _, h => by cases h
  | y :: L, x, h => by
    simp only [List.map_cons, List.sum_cons]
    rcases List.mem_cons.1 h with rfl | h
    · omega
    · have := mem_sum f h
      omega
theorem len_sum {α : Type} (f : α → Nat) (hf : ∀ x, 1 ≤ f x) : ∀ (L : List α), L.length ≤ (L.map f).sum
  | [] => by simp
  | y :: L => by
    have h1 := hf y
    have h2 := len_sum f hf L
    simp only [List.map_cons, List.sum_cons, List.length_cons]
    omega
set_option maxRecDepth 100000 in
theorem open_play {base : Nat} {v : Value} {d : DataW H} {p : List MemPlace} (hok : Value.okWide Tryz.prog W .any base 25 v) (h : ∃ fuel, DataW.trod enc Tryz.prog W 0 (fun _ => true) true fuel 25 v.cells.toList = some (d, p)) (hk : Rows.uptoBulk d ≤ 1048576) :
    ∃ pX cX X pA cA A, v = .agg #[.slice pX X.length cX, .slice pA A.length cA] ∧ (pX = none → cX = 0) ∧ Lies kA W pX X ∧ X.length ≤ 1048576 ∧ (∀ y ∈ X, (txN y.nm).size < 4611686018427387904) ∧ ActsAt W pA A ∧ A.length ≤ 1048576 ∧ (∀ a ∈ A, a.ok) ∧ (∀ a ∈ A, a.ask.size < 4611686018427387904) := by
  obtain ⟨cs, rfl, hsz⟩ := okWide_struct Tryz.underlying25 hok
  obtain ⟨fuel, hf⟩ := h
  obtain ⟨y0, y1, n, hx, hl, g0, g1⟩ := trodS2 Tryz.underlying25 hf
  rw [cells25] at hsz
  obtain ⟨cl⟩ := cs
  obtain ⟨c0, c1, rfl⟩ := list2 (cs := cl) hsz
  simp only [Value.cells, cells22, cells23, List.drop_zero, List.drop_succ_cons, List.take_succ_cons, List.take_zero] at g0 g1
  have hd : d = .agg [y0.1, y1.1] := hx
  rw [hd] at hk
  simp only [Rows.uptoBulk, Rows.uptoBulkAll] at hk
  obtain ⟨pX, cX, X, rfl, hX0, hXl, hXs⟩ := open_accs g0
  obtain ⟨pA, cA, A, rfl, hA0, hAl, hAs, hAo⟩ := open_acts g1
  have lX := len_sum wX (fun x => by unfold wX; omega) X
  have lA := len_sum wV (fun x => by unfold wV; omega) A
  refine ⟨pX, cX, X, pA, cA, A, rfl, hX0, hXl, by omega, fun y hy => ?_, hAl, by omega, fun a ha => ⟨hAo a ha, ?_⟩, fun a ha => ?_⟩
  · have := mem_sum wX hy; unfold wX at this; unfold wX at hXs; omega
  · have := mem_sum wV ha; unfold wV at this; unfold wV at hAs; omega
  · have := mem_sum wV ha; unfold wV at this; unfold wV at hAs; omega
end
end Go.Proofs.YtdeibifjiefapaaGreatDoor.Kg
