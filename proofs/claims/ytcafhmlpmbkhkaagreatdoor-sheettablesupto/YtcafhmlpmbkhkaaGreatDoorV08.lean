import Derived.Test.YtcafhmlpmbkhkaaGreatDoorV07
import Derived.Test.YtcafhmlpmbkhkaaGreatDoorW28
import Derived.Test.YtcafhmlpmbkhkaaGreatDoorW43
/- A table as an argument, opened. -/
namespace Go.Proofs.YtcafhmlpmbkhkaaGreatDoor
open Go.Deep Go Go.RowKit Go.Shelf Go.ChangeShapes Go.WideShapes Go.ChangeAt Go.Maps
set_option linter.unusedVariables false
set_option linter.unusedSimpArgs false
set_option maxRecDepth 100000
set_option maxHeartbeats 8000000
theorem cells43 : Tryz.prog.cellsOf 43 = 3 := by kernel_rfl
theorem cells41 : Tryz.prog.cellsOf 41 = 1 := by kernel_rfl
theorem cells36 : Tryz.prog.cellsOf 36 = 2 := by kernel_rfl
theorem cells33 : Tryz.prog.cellsOf 33 = 1 := by kernel_rfl
theorem cells34 : Tryz.prog.cellsOf 34 = 1 := by kernel_rfl
theorem list3T {α : Type} {cs : List α} (h : cs.length = 3) : ∃ c0 c1 c2, cs = [c0, c1, c2] := by
  match cs, h with
  | [c0, c1, c2], _ => exact ⟨c0, c1, c2, rfl⟩
theorem list2T {α : Type} {cs : List α} (h : cs.length = 2) : ∃ c0 c1, cs = [c0, c1] := by
  match cs, h with
  | [c0, c1], _ => exact ⟨c0, c1, rfl⟩
theorem list1T {α : Type} {cs : List α} (h : cs.length = 1) : ∃ c0, cs = [c0] := by
  match cs, h with
  | [c0], _ => exact ⟨c0, rfl⟩
theorem sum_mono {α : Type} {f g : α → Nat} : ∀ {L : List α}, (∀ r ∈ L, f r ≤ g r) → (L.map f).sum ≤ (L.map g).sum
  | [], _ => Nat.le_refl _
  | r :: L, h => by
    have h1 := sum_mono (L := L) (f := f) (g := g) (fun q hq => h q (by simp [hq]))
    have h2 := h r (by simp)
    simp only [List.map_cons, List.sum_cons]
    omega
def wCe (x : Ce) : Nat := x.str.size + 1
def wRw (r : Rw) : Nat := (r.x.map wCe).sum + 1
/-- the numbers of a cell that comes in -/
structure ICe (x : Ce) : Prop where
  ty : -9223372036854775808 ≤ x.ty ∧ x.ty ≤ 9223372036854775807
  num : -9223372036854775808 ≤ x.num ∧ x.num ≤ 9223372036854775807
section
variable {H : Type} {enc : TypeId × Value → H} {W : World}
theorem trodC3 {P : Program} {w : World} {base : Nat} {spare : Nat → Bool} {held : Bool} {t : TypeId} {f0 f1 f2 : Field} {fuel : Nat} {cs : List Value} {x : DataW H × List MemPlace} (ht : P.underlying t = some (.struct #[f0, f1, f2])) (h : DataW.trod enc P w base spare held fuel t cs = some x) :
    ∃ (y0 y1 y2 : DataW H × List MemPlace) (n : Nat), x.1 = .agg [y0.1, y1.1, y2.1] ∧ cs.length = P.cellsOf t ∧ DataW.trod enc P w base spare held n f0.type ((cs.drop f0.offset).take (P.cellsOf f0.type)) = some y0 ∧ DataW.trod enc P w base spare held n f1.type ((cs.drop f1.offset).take (P.cellsOf f1.type)) = some y1 ∧ DataW.trod enc P w base spare held n f2.type ((cs.drop f2.offset).take (P.cellsOf f2.type)) = some y2 := by
  obtain ⟨xs, n, _, rfl, hl, hlen, hf⟩ := DataW.trod_struct ht h
  match xs, hlen with
  | [y0, y1, y2], _ => exact ⟨y0, y1, y2, n, by simp, hl, by simpa using hf 0 f0 rfl, by simpa using hf 1 f1 rfl, by simpa using hf 2 f2 rfl⟩
theorem trodC2 {P : Program} {w : World} {base : Nat} {spare : Nat → Bool} {held : Bool} {t : TypeId} {f0 f1 : Field} {fuel : Nat} {cs : List Value} {x : DataW H × List MemPlace} (ht : P.underlying t = some (.struct #[f0, f1])) (h : DataW.trod enc P w base spare held fuel t cs = some x) :
    ∃ (y0 y1 : DataW H × List MemPlace) (n : Nat), x.1 = .agg [y0.1, y1.1] ∧ cs.length = P.cellsOf t ∧ DataW.trod enc P w base spare held n f0.type ((cs.drop f0.offset).take (P.cellsOf f0.type)) = some y0 ∧ DataW.trod enc P w base spare held n f1.type ((cs.drop f1.offset).take (P.cellsOf f1.type)) = some y1 := by
  obtain ⟨xs, n, _, rfl, hl, hlen, hf⟩ := DataW.trod_struct ht h
  match xs, hlen with
  | [y0, y1], _ => exact ⟨y0, y1, n, by simp, hl, by simpa using hf 0 f0 rfl, by simpa using hf 1 f1 rfl⟩
theorem openCe {fuel : Nat} {cs : List Value} {x : DataW H × List MemPlace} (h : DataW.trod enc Tryz.prog W 0 (fun _ => true) true fuel 43 cs = some x) :
    ∃ r : Ce, cs = r.vals ∧ wCe r ≤ Rows.uptoBulk x.1 ∧ ICe r := by
  obtain ⟨y0, y1, y2, n, hx, hl, g0, g1, g2⟩ := trodC3 Tryz.underlying43 h
  rw [cells43] at hl
  obtain ⟨c0, c1, c2, rfl⟩ := list3T hl
  clear h hl
  simp only [cells2, cells3, cells9, List.drop_zero, List.drop_succ_cons, List.take_succ_cons, List.take_zero] at g0 g1 g2
  obtain ⟨s0, e0, _, z0⟩ := DataW.trod_int Tryz.underlying3 g0
  obtain ⟨s1, e1, _, z1⟩ := DataW.trod_int Tryz.underlying2 g1
  obtain ⟨s2, e2, x2, _⟩ := DataW.trod_string Tryz.underlying9 g2
  simp only [List.cons.injEq, and_true] at e0 e1 e2
  refine ⟨⟨s0, s1, s2⟩, by rw [e0, e1, e2]; rfl, ?_, ⟨i64_in z0, i64_in z1⟩⟩
  show s2.size + 1 ≤ _
  rw [hx]
  have b2 : Rows.uptoBulk y2.1 = s2.size + 1 := by rw [x2]; simp [Rows.uptoBulk]
  simp only [Rows.uptoBulk, Rows.uptoBulkAll]
  omega
theorem opensCe {fuel : Nat} {v : Value} {x : DataW H × List MemPlace} (h : DataW.trod enc Tryz.prog W 0 (fun _ => true) true fuel 41 [v] = some x) :
    ∃ (p : Option Addr) (c : Nat) (L : List Ce), v = .slice p L.length c ∧ (p = none → c = 0) ∧ Lies kC W p L ∧ (L.map wCe).sum + 1 ≤ Rows.uptoBulk x.1 ∧ ∀ y ∈ L, ICe y := by
  rcases open_slice Tryz.underlying41 h with ⟨hcs, hx⟩ | ⟨a, len, cap, m, n, D, Pl, hcs, hb, hl, hm, hmm, hx, hall⟩
  · simp only [List.cons.injEq, and_true] at hcs
    exact ⟨none, 0, [], hcs, fun _ => rfl, Lies.nil _ _, by have := one_le x.1; simpa using this, fun y hy => (by cases hy)⟩
  · simp only [List.cons.injEq, and_true] at hcs
    have hmm' : m = cap := by simpa using hmm
    have hd : x.1 = .slice ((List.range len).map D) ((List.range (m - len)).map fun j => D (len + j)) := (Prod.mk.inj hx).1
    have hq : ∀ i, i < len → ∃ y : Ce, (∃ b off, some a = some (⟨b, off, none⟩ : Addr) ∧ b < W.heap.size ∧ W.rangeAt b (off + i * 3) y.vals) ∧ wCe y ≤ Rows.uptoBulk (D i) ∧ ICe y := fun i hi => by
      obtain ⟨cs', h1, h2⟩ := hall i (by omega)
      obtain ⟨y, hy, hwt, hpo⟩ := openCe h2
      rw [cells43] at h1
      obtain ⟨_, hlen, hc⟩ := World.cells?_some h1
      have hs : a.spot = none := by
        obtain ⟨cz, hz1, hz2⟩ := hall 0 (by omega)
        obtain ⟨rz, hrz, _, _⟩ := openCe hz2
        rw [cells43] at hz1
        obtain ⟨_, _, hcz⟩ := World.cells?_some hz1
        have h3 := hcz 0 (by omega)
        rw [hrz] at h3
        simpa [Addr.add] using World.cell?_spot h3
      obtain ⟨b, off, sp⟩ := a
      simp only at hs
      subst hs
      refine ⟨y, ⟨b, off, rfl, ?_, fun j u hj => ?_⟩, hwt, hpo⟩
      · have h3 := hc 0 (by omega)
        rw [hy] at h3
        rw [add_add, Addr.add_mid] at h3
        exact World.block_lt_of_cell? W _ h3
      · have hj' : j < 3 := (List.getElem?_eq_some_iff.1 hj).1
        have h3 := hc j hj'
        rw [hy, hj, add_add, Addr.add_mid, ← Nat.add_assoc] at h3
        exact h3
    obtain ⟨L, hL, hall⟩ := choose_list len hq
    have hsum := sum_bulk wCe D L (fun i hi => (hall i hi).2.1)
    refine ⟨some a, cap, L, by rw [hL]; exact hcs, (fun h => by cases h), ⟨(fun h => by cases h), fun k hk => (hall k hk).1⟩, ?_, fun y hy => ?_⟩
    · rw [hd]
      simp only [Rows.uptoBulk]
      rw [hL] at hsum
      omega
    · obtain ⟨k, hk, rfl⟩ := List.mem_iff_getElem.1 hy
      exact (hall k hk).2.2
theorem opensI {fuel : Nat} {v : Value} {x : DataW H × List MemPlace} (h : DataW.trod enc Tryz.prog W 0 (fun _ => true) true fuel 33 [v] = some x) :
    ∃ (p : Option Addr) (c : Nat) (L : List Int), v = .slice p L.length c ∧ (p = none → c = 0) ∧ Lies kI W p L ∧ (L.map fun _ => 1).sum + 1 ≤ Rows.uptoBulk x.1 := by
  rcases open_slice Tryz.underlying33 h with ⟨hcs, hx⟩ | ⟨a, len, cap, m, n, D, Pl, hcs, hb, hl, hm, hmm, hx, hall⟩
  · simp only [List.cons.injEq, and_true] at hcs
    exact ⟨none, 0, [], hcs, fun _ => rfl, Lies.nil _ _, by have := one_le x.1; simpa using this⟩
  · simp only [List.cons.injEq, and_true] at hcs
    have hmm' : m = cap := by simpa using hmm
    have hd : x.1 = .slice ((List.range len).map D) ((List.range (m - len)).map fun j => D (len + j)) := (Prod.mk.inj hx).1
    have hq : ∀ i, i < len → ∃ y : Int, (∃ b off, some a = some (⟨b, off, none⟩ : Addr) ∧ b < W.heap.size ∧ W.rangeAt b (off + i * 1) (kI.enc y)) := fun i hi => by
      obtain ⟨cs', h1, h2⟩ := hall i (by omega)
      obtain ⟨y, hy, _, _⟩ := DataW.trod_int Tryz.underlying3 h2
      rw [cells3] at h1
      obtain ⟨_, hlen, hc⟩ := World.cells?_some h1
      have hs : a.spot = none := by
        obtain ⟨cz, hz1, hz2⟩ := hall 0 (by omega)
        obtain ⟨rz, hrz, _, _⟩ := DataW.trod_int Tryz.underlying3 hz2
        rw [cells3] at hz1
        obtain ⟨_, _, hcz⟩ := World.cells?_some hz1
        have h3 := hcz 0 (by omega)
        rw [hrz] at h3
        simpa [Addr.add] using World.cell?_spot h3
      obtain ⟨b, off, sp⟩ := a
      simp only at hs
      subst hs
      refine ⟨y, ⟨b, off, rfl, ?_, fun j u hj => ?_⟩⟩
      · have h3 := hc 0 (by omega)
        rw [hy] at h3
        rw [add_add, Addr.add_mid] at h3
        exact World.block_lt_of_cell? W _ h3
      · have hj' : j < 1 := (List.getElem?_eq_some_iff.1 hj).1
        have h3 := hc j hj'
        have hj2 : cs'[j]? = some u := by rw [hy]; exact hj
        rw [hj2, add_add, Addr.add_mid, ← Nat.add_assoc] at h3
        exact h3
    obtain ⟨L, hL, hall2⟩ := choose_list len hq
    have hsum := sum_bulk (fun _ : Int => 1) D L (fun i hi => one_le _)
    refine ⟨some a, cap, L, by rw [hL]; exact hcs, (fun h => by cases h), ⟨(fun h => by cases h), fun k hk => hall2 k hk⟩, ?_⟩
    rw [hd]
    simp only [Rows.uptoBulk]
    rw [hL] at hsum
    omega
theorem opensW {fuel : Nat} {v : Value} {x : DataW H × List MemPlace} (h : DataW.trod enc Tryz.prog W 0 (fun _ => true) true fuel 34 [v] = some x) :
    ∃ (p : Option Addr) (c : Nat) (L : List Rw), v = .slice p L.length c ∧ (p = none → c = 0) ∧ Lies kW W p L ∧ (L.map wRw).sum + 1 ≤ Rows.uptoBulk x.1 ∧ ∀ r ∈ L, (r.x.length = r.n ∧ Lies kC W r.p r.x) ∧ (r.p = none → r.c = 0) ∧ ∀ y ∈ r.x, ICe y := by
  rcases open_slice Tryz.underlying34 h with ⟨hcs, hx⟩ | ⟨a, len, cap, m, n, D, Pl, hcs, hb, hl, hm, hmm, hx, hall⟩
  · simp only [List.cons.injEq, and_true] at hcs
    exact ⟨none, 0, [], hcs, fun _ => rfl, Lies.nil _ _, by have := one_le x.1; simpa using this, fun y hy => (by cases hy)⟩
  · simp only [List.cons.injEq, and_true] at hcs
    have hmm' : m = cap := by simpa using hmm
    have hd : x.1 = .slice ((List.range len).map D) ((List.range (m - len)).map fun j => D (len + j)) := (Prod.mk.inj hx).1
    have hq : ∀ i, i < len → ∃ r : Rw, (∃ b off, some a = some (⟨b, off, none⟩ : Addr) ∧ b < W.heap.size ∧ W.rangeAt b (off + i * 1) (kW.enc r)) ∧ wRw r ≤ Rows.uptoBulk (D i) ∧ ((r.x.length = r.n ∧ Lies kC W r.p r.x) ∧ (r.p = none → r.c = 0) ∧ ∀ y ∈ r.x, ICe y) := fun i hi => by
      obtain ⟨cs', h1, h2⟩ := hall i (by omega)
      rw [cells41] at h1
      obtain ⟨_, hlen, hc⟩ := World.cells?_some h1
      obtain ⟨v0, rfl⟩ := list1T hlen
      obtain ⟨p, c, L, hv, hp0, hpl, hps, hpi⟩ := opensCe h2
      have hs : a.spot = none := by
        obtain ⟨cz, hz1, hz2⟩ := hall 0 (by omega)
        rw [cells41] at hz1
        obtain ⟨_, hzl, hcz⟩ := World.cells?_some hz1
        obtain ⟨vz, rfl⟩ := list1T hzl
        have h3 := hcz 0 (by omega)
        simpa [Addr.add] using World.cell?_spot h3
      obtain ⟨b, off, sp⟩ := a
      simp only at hs
      subst hs
      refine ⟨⟨p, L.length, c, L⟩, ⟨b, off, rfl, ?_, fun j u hj => ?_⟩, hps, ⟨rfl, hpl⟩, hp0, hpi⟩
      · have h3 := hc 0 (by omega)
        rw [add_add, Addr.add_mid] at h3
        exact World.block_lt_of_cell? W _ h3
      · have hj' : j < 1 := (List.getElem?_eq_some_iff.1 hj).1
        have h3 := hc j hj'
        have hj2 : [v0][j]? = some u := by rw [hv]; exact hj
        rw [hj2, add_add, Addr.add_mid, ← Nat.add_assoc] at h3
        exact h3
    obtain ⟨L, hL, hall2⟩ := choose_list len hq
    have hsum := sum_bulk wRw D L (fun i hi => (hall2 i hi).2.1)
    refine ⟨some a, cap, L, by rw [hL]; exact hcs, (fun h => by cases h), ⟨(fun h => by cases h), fun k hk => (hall2 k hk).1⟩, ?_, fun y hy => ?_⟩
    · rw [hd]
      simp only [Rows.uptoBulk]
      rw [hL] at hsum
      omega
    · obtain ⟨k, hk, rfl⟩ := List.mem_iff_getElem.1 hy
      exact (hall2 k hk).2.2
/-- the argument itself -/
theorem open_table {r : Reach} {base : Nat} {v : Value} {d : DataW H} {p : List MemPlace} (hok : Value.okWide Tryz.prog W r base 36 v) (h : ∃ fuel, DataW.trod enc Tryz.prog W 0 (fun _ => true) true fuel 36 v.cells.toList = some (d, p)) (hk : Rows.uptoBulk d ≤ 1048576) :
    ∃ pt ct T pr cr X, v = .agg #[.slice pt (T : List Int).length ct, .slice pr (X : List Rw).length cr] ∧ (pt = none → ct = 0) ∧ Lies kI W pt T ∧ T.length ≤ 1048576 ∧ Lies kW W pr X ∧ RwAt W X ∧ X.length ≤ 1048576 ∧ (∀ r ∈ X, ∀ x ∈ r.x, CeOk x) ∧ (∀ r ∈ X, r.p = none → r.c = 0) ∧ (X.map fun r => r.x.length + 1).sum ≤ 1048576 := by
  obtain ⟨cs, rfl, hsz⟩ := okWide_struct Tryz.underlying36 hok
  obtain ⟨fuel, hf⟩ := h
  obtain ⟨y0, y1, n, hx, hl, g0, g1⟩ := trodC2 Tryz.underlying36 hf
  rw [cells36] at hsz
  obtain ⟨cl⟩ := cs
  obtain ⟨c0, c1, rfl⟩ := list2T (cs := cl) hsz
  simp only [Value.cells, cells33, cells34, List.drop_zero, List.drop_succ_cons, List.take_succ_cons, List.take_zero] at g0 g1
  have hd : d = .agg [y0.1, y1.1] := hx
  rw [hd] at hk
  simp only [Rows.uptoBulk, Rows.uptoBulkAll] at hk
  obtain ⟨pt, ct, T, rfl, hT0, hTl, hTs⟩ := opensI g0
  obtain ⟨pr, cr, X, rfl, hX0, hXl, hXs, hXi⟩ := opensW g1
  have lT := len_sum (fun _ : Int => 1) (fun _ => Nat.le_refl _) T
  have lX := len_sum wRw (fun x => by unfold wRw; omega) X
  have hm : (X.map fun r => r.x.length + 1).sum ≤ (X.map wRw).sum := sum_mono fun r _ => by
    have := len_sum wCe (fun x => by unfold wCe; omega) r.x
    unfold wRw
    omega
  refine ⟨pt, ct, T, pr, cr, X, rfl, hT0, hTl, by omega, hXl, fun r hr => (hXi r hr).1, by omega, fun r hr x hx => ?_, fun r hr => (hXi r hr).2.1, by omega⟩
  have h1 := mem_sum wRw hr
  have h2 := mem_sum wCe hx
  have hi := (hXi r hr).2.2 x hx
  refine ⟨?_, hi.ty, hi.num⟩
  have h1' : (r.x.map wCe).sum + 1 ≤ (X.map wRw).sum := h1
  have h2' : x.str.size + 1 ≤ (r.x.map wCe).sum := h2
  omega
end
end Go.Proofs.YtcafhmlpmbkhkaaGreatDoor
