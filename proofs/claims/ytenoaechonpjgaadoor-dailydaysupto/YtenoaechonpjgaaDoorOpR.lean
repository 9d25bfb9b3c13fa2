/- Rows as an argument, opened. -/
import Derived.Test.YtenoaechonpjgaaDoorDlV
import Derived.Test.YtenoaechonpjgaaDoorTie
import Derived.Deep.Slices
import Derived.Deep.Strs
import Derived.SizedLaws
import Derived.ChangeMaps5
namespace Go.Proofs.YtenoaechonpjgaaDoor
open Go Go.RowKit Go.Shelf Go.ChangeShapes Go.WideShapes Go.ChangeAt Go.Maps Go.Sort Go.Deep
set_option linter.unusedVariables false
theorem cells24 : Tryd.prog.cellsOf 24 = 9 := by kernel_rfl
theorem cells38 : Tryd.prog.cellsOf 38 = 3 := by kernel_rfl
theorem cells22 : Tryd.prog.cellsOf 22 = 1 := by kernel_rfl
theorem cells36 : Tryd.prog.cellsOf 36 = 1 := by kernel_rfl
theorem cells2 : Tryd.prog.cellsOf 2 = 1 := by kernel_rfl
theorem cells3 : Tryd.prog.cellsOf 3 = 1 := by kernel_rfl
theorem cells9 : Tryd.prog.cellsOf 9 = 1 := by kernel_rfl
theorem list9 {α : Type} {cs : List α} (h : cs.length = 9) : ∃ c0 c1 c2 c3 c4 c5 c6 c7 c8, cs = [c0, c1, c2, c3, c4, c5, c6, c7, c8] := by
  match cs, h with
  | [c0, c1, c2, c3, c4, c5, c6, c7, c8], _ => exact ⟨c0, c1, c2, c3, c4, c5, c6, c7, c8, rfl⟩
theorem list3 {α : Type} {cs : List α} (h : cs.length = 3) : ∃ c0 c1 c2, cs = [c0, c1, c2] := by
  match cs, h with
  | [c0, c1, c2], _ => exact ⟨c0, c1, c2, rfl⟩
theorem choose_list {α : Type} {P : Nat → α → Prop} : ∀ n, (∀ i, i < n → ∃ x, P i x) → ∃ L : List α, L.length = n ∧ ∀ i (h : i < L.length), P i L[i]
  | 0, _ => ⟨[], rfl, fun i h => by simp at h⟩
  | n + 1, h => by
    obtain ⟨L, hl, hL⟩ := choose_list n (fun i hi => h i (by omega))
    obtain ⟨x, hx⟩ := h n (by omega)
    refine ⟨L ++ [x], by simp [hl], fun i hi => ?_⟩
    by_cases hi' : i < L.length
    · rw [List.getElem_append_left hi']
      exact hL i hi'
    · have : i = n := by simp [hl] at hi hi'; omega
      subst this
      rw [List.getElem_append_right (by omega)]
      simpa [hl] using hx
theorem one_le {H : Type} (d : DataW H) : 1 ≤ Rows.uptoBulk d := by
  cases d with
  | lit l => cases l <;> simp [Rows.uptoBulk]
  | nil => simp [Rows.uptoBulk]
  | ptr d => simp [Rows.uptoBulk]
  | slice elems spare => simp [Rows.uptoBulk]
  | agg parts => simp [Rows.uptoBulk]
  | iface t d => simp [Rows.uptoBulk]
  | map entries => simp [Rows.uptoBulk]
  | held h => simp [Rows.uptoBulk]
theorem bulk_len {H : Type} (l : List (DataW H)) : l.length ≤ Rows.uptoBulkAll l := by
  induction l with
  | nil => simp [Rows.uptoBulkAll]
  | cons x r ih => have := one_le x; simp only [Rows.uptoBulkAll, List.length_cons]; omega
theorem bulk_slice {H : Type} (elems spare : List (DataW H)) : elems.length ≤ Rows.uptoBulk (.slice elems spare) := by
  have h1 := bulk_len elems
  simp only [Rows.uptoBulk]
  omega
theorem bulk_all_mem {H : Type} {d : DataW H} : ∀ {l : List (DataW H)}, d ∈ l → Rows.uptoBulk d ≤ Rows.uptoBulkAll l
  | [], h => by cases h
  | x :: r, h => by
    simp only [Rows.uptoBulkAll]
    rcases List.mem_cons.1 h with rfl | h
    · omega
    · have := bulk_all_mem h
      omega
section
variable {H : Type} {enc : TypeId × Value → H} {W : World}
theorem trod_struct9 {P : Program} {w : World} {base : Nat} {spare : Nat → Bool} {held : Bool} {t : TypeId} {f0 f1 f2 f3 f4 f5 f6 f7 f8 : Field} {fuel : Nat} {cs : List Value} {x : DataW H × List MemPlace} (ht : P.underlying t = some (.struct #[f0, f1, f2, f3, f4, f5, f6, f7, f8])) (h : DataW.trod enc P w base spare held fuel t cs = some x) :
    ∃ (y0 y1 y2 y3 y4 y5 y6 y7 y8 : DataW H × List MemPlace) (n : Nat), x.1 = .agg [y0.1, y1.1, y2.1, y3.1, y4.1, y5.1, y6.1, y7.1, y8.1] ∧ cs.length = P.cellsOf t ∧
      DataW.trod enc P w base spare held n f0.type ((cs.drop f0.offset).take (P.cellsOf f0.type)) = some y0 ∧
      DataW.trod enc P w base spare held n f1.type ((cs.drop f1.offset).take (P.cellsOf f1.type)) = some y1 ∧
      DataW.trod enc P w base spare held n f2.type ((cs.drop f2.offset).take (P.cellsOf f2.type)) = some y2 ∧
      DataW.trod enc P w base spare held n f3.type ((cs.drop f3.offset).take (P.cellsOf f3.type)) = some y3 ∧
      DataW.trod enc P w base spare held n f4.type ((cs.drop f4.offset).take (P.cellsOf f4.type)) = some y4 ∧
      DataW.trod enc P w base spare held n f5.type ((cs.drop f5.offset).take (P.cellsOf f5.type)) = some y5 ∧
      DataW.trod enc P w base spare held n f6.type ((cs.drop f6.offset).take (P.cellsOf f6.type)) = some y6 ∧
      DataW.trod enc P w base spare held n f7.type ((cs.drop f7.offset).take (P.cellsOf f7.type)) = some y7 ∧
      DataW.trod enc P w base spare held n f8.type ((cs.drop f8.offset).take (P.cellsOf f8.type)) = some y8 := by
  obtain ⟨xs, n, _, rfl, hl, hlen, hf⟩ := DataW.trod_struct ht h
  match xs, hlen with
  | [y0, y1, y2, y3, y4, y5, y6, y7, y8], _ => exact ⟨y0, y1, y2, y3, y4, y5, y6, y7, y8, n, by simp, hl, by simpa using hf 0 f0 rfl, by simpa using hf 1 f1 rfl, by simpa using hf 2 f2 rfl, by simpa using hf 3 f3 rfl, by simpa using hf 4 f4 rfl, by simpa using hf 5 f5 rfl, by simpa using hf 6 f6 rfl, by simpa using hf 7 f7 rfl, by simpa using hf 8 f8 rfl⟩
set_option maxRecDepth 100000 in
theorem open_row {fuel : Nat} {cs : List Value} {x : DataW H × List MemPlace} (h : DataW.trod enc Tryd.prog W 0 (fun _ => true) true fuel 24 cs = some x) :
    ∃ r : Ro, cs = r.vals ∧ r.acc.size ≤ Rows.uptoBulk x.1 ∧ (-9223372036854775808 ≤ r.amt ∧ r.amt ≤ 9223372036854775807) := by
  obtain ⟨y0, y1, y2, y3, y4, y5, y6, y7, y8, n, hx, hl, g0, g1, g2, g3, g4, g5, g6, g7, g8⟩ := trod_struct9 Tryd.underlying24 h
  rw [cells24] at hl
  obtain ⟨c0, c1, c2, c3, c4, c5, c6, c7, c8, rfl⟩ := list9 hl
  clear h hl
  simp only [cells3, cells9, cells2, List.drop_zero, List.drop_succ_cons, List.take_succ_cons, List.take_zero] at g0 g1 g2 g3 g4 g5 g6 g7 g8
  obtain ⟨n0, e0, _, _⟩ := DataW.trod_int Tryd.underlying3 g0
  obtain ⟨n1, e1, _, _⟩ := DataW.trod_int Tryd.underlying3 g1
  obtain ⟨n2, e2, _, _⟩ := DataW.trod_int Tryd.underlying3 g2
  obtain ⟨n3, e3, _, _⟩ := DataW.trod_int Tryd.underlying3 g3
  obtain ⟨s4, e4, _, _⟩ := DataW.trod_string Tryd.underlying9 g4
  obtain ⟨s5, e5, x5, _⟩ := DataW.trod_string Tryd.underlying9 g5
  obtain ⟨n6, e6, _, z6⟩ := DataW.trod_int Tryd.underlying2 g6
  obtain ⟨s7, e7, _, _⟩ := DataW.trod_string Tryd.underlying9 g7
  obtain ⟨s8, e8, _, _⟩ := DataW.trod_string Tryd.underlying9 g8
  simp only [List.cons.injEq, and_true] at e0 e1 e2 e3 e4 e5 e6 e7 e8
  refine ⟨⟨n0, n1, n2, n3, s4, s5, n6, s7, s8⟩, by rw [e0, e1, e2, e3, e4, e5, e6, e7, e8]; rfl, ?_, bounds_i64 z6⟩
  show s5.size ≤ _
  rw [hx]
  have hm : Rows.uptoBulk y5.1 ≤ Rows.uptoBulkAll [y0.1, y1.1, y2.1, y3.1, y4.1, y5.1, y6.1, y7.1, y8.1] := bulk_all_mem (by simp)
  rw [x5] at hm ⊢
  simp only [Rows.uptoBulk] at hm ⊢
  have : s5.data.toList.length = s5.size := by simp
  omega
set_option maxRecDepth 100000 in
/-- a cell that is a list of rows, opened -/
theorem open_rows1 {fuel : Nat} {v : Value} {x : DataW H × List MemPlace} (h : DataW.trod enc Tryd.prog W 0 (fun _ => true) true fuel 22 [v] = some x) (hk : Rows.uptoBulk x.1 ≤ 1048576) :
    ∃ pu R cu, v = .slice pu R.length cu ∧ (pu = none → cu = 0) ∧ Lies kR W pu R ∧ Can R ∧ R.length ≤ 1048576 := by
  rcases open_slice Tryd.underlying22 h with ⟨hcs, _⟩ | ⟨a, len, cap, m, n, D, Pl, hcs, hb, hl, hm, hmm, hx, hall⟩
  · simp only [List.cons.injEq, and_true] at hcs
    exact ⟨none, [], 0, hcs, fun _ => rfl, Lies.nil W none, Can.nil, by simp⟩
  · simp only [List.cons.injEq, and_true] at hcs
    have hmm' : m = cap := by simpa using hmm
    have hd : x.1 = .slice ((List.range len).map D) ((List.range (m - len)).map fun j => D (len + j)) := by rw [hx]
    have hlk : len ≤ 1048576 := by
      refine Nat.le_trans ?_ hk
      rw [hd]
      refine Nat.le_trans ?_ (bulk_slice _ _)
      simp
    have hq : ∀ i, i < len → ∃ r : Ro, (∃ b off, some a = some (⟨b, off, none⟩ : Addr) ∧ b < W.heap.size ∧ W.rangeAt b (off + i * 9) r.vals) ∧ r.acc.size < 4611686018427387904 ∧ (-9223372036854775808 ≤ r.amt ∧ r.amt ≤ 9223372036854775807) := fun i hi => by
      obtain ⟨cs', h1, h2⟩ := hall i (by omega)
      obtain ⟨r, hr, hacc, hamt⟩ := open_row h2
      rw [cells24] at h1
      obtain ⟨_, hlen, hc⟩ := World.cells?_some h1
      have hs : a.spot = none := by
        obtain ⟨cz, hz1, hz2⟩ := hall 0 (by omega)
        obtain ⟨rz, hrz, _, _⟩ := open_row hz2
        rw [cells24] at hz1
        obtain ⟨_, _, hcz⟩ := World.cells?_some hz1
        have h3 := hcz 0 (by omega)
        rw [hrz] at h3
        simpa [Addr.add] using World.cell?_spot h3
      obtain ⟨b, off, sp⟩ := a
      simp only at hs
      subst hs
      refine ⟨r, ⟨b, off, rfl, ?_, fun j u hj => ?_⟩, ?_, hamt⟩
      · have h3 := hc 0 (by omega)
        rw [hr] at h3
        rw [add_add, Addr.add_mid] at h3
        exact World.block_lt_of_cell? W _ h3
      · have hj' : j < 9 := by
          have := (List.getElem?_eq_some_iff.1 hj).1
          exact this
        have h3 := hc j hj'
        rw [hr, hj, add_add, Addr.add_mid, ← Nat.add_assoc] at h3
        exact h3
      · have h3 : Rows.uptoBulk (D i) ≤ Rows.uptoBulkAll ((List.range len).map D) := bulk_all_mem (List.mem_map.2 ⟨i, List.mem_range.2 hi, rfl⟩)
        rw [hd] at hk
        simp only [Rows.uptoBulk] at hk
        simp only at hacc
        omega
    obtain ⟨R, hR, hall⟩ := choose_list len hq
    refine ⟨some a, R, cap, by rw [hR]; exact hcs, (fun h => by cases h), ⟨(fun h => by cases h), fun k hk => (hall k hk).1⟩, ⟨fun r hr => ?_, fun r hr => ?_⟩, by omega⟩
    · obtain ⟨k, hk, rfl⟩ := List.mem_iff_getElem.1 hr
      exact (hall k hk).2.1
    · obtain ⟨k, hk, rfl⟩ := List.mem_iff_getElem.1 hr
      exact (hall k hk).2.2
set_option maxRecDepth 100000 in
/-- an argument that is a list of rows -/
theorem open_rows {base : Nat} {v : Value} {d : DataW H} {p : List MemPlace} (hok : Value.okWide Tryd.prog W .any base 22 v) (h : ∃ fuel, DataW.trod enc Tryd.prog W 0 (fun _ => true) true fuel 22 v.cells.toList = some (d, p)) (hk : Rows.uptoBulk d ≤ 1048576) :
    ∃ pu R cu, v = .slice pu R.length cu ∧ (pu = none → cu = 0) ∧ Lies kR W pu R ∧ Can R ∧ R.length ≤ 1048576 := by
  obtain ⟨a0, len0, cap0, rfl⟩ := okWide_slice Tryd.underlying22 hok
  obtain ⟨fuel, hf⟩ := h
  exact open_rows1 (x := (d, p)) hf hk
set_option maxRecDepth 100000 in
/-- an argument that is a mixed one -/
theorem open_mixed {base : Nat} {v : Value} {d : DataW H} {p : List MemPlace} (hok : Value.okWide Tryd.prog W .any base 38 v) (h : ∃ fuel, DataW.trod enc Tryd.prog W 0 (fun _ => true) true fuel 38 v.cells.toList = some (d, p)) (hk : Rows.uptoBulk d ≤ 1048576) :
    ∃ pu R cu vP vC fuel x1 x2, v = .agg #[.slice pu R.length cu, vP, vC] ∧ (pu = none → cu = 0) ∧ Lies kR W pu R ∧ Can R ∧ R.length ≤ 1048576 ∧
      DataW.trod enc Tryd.prog W 0 (fun _ => true) true fuel 36 [vP] = some x1 ∧ DataW.trod enc Tryd.prog W 0 (fun _ => true) true fuel 36 [vC] = some x2 ∧ Rows.uptoBulk x1.1 ≤ 1048576 ∧ Rows.uptoBulk x2.1 ≤ 1048576 := by
  obtain ⟨cs, rfl, hsz⟩ := okWide_struct Tryd.underlying38 hok
  obtain ⟨fuel, hf⟩ := h
  obtain ⟨y0, y1, y2, n, hx, hl, g0, g1, g2⟩ := trod_struct3 Tryd.underlying38 hf
  rw [cells38] at hsz
  obtain ⟨cl⟩ := cs
  obtain ⟨c0, c1, c2, rfl⟩ := list3 (cs := cl) hsz
  simp only [Value.cells, cells22, cells36, List.drop_zero, List.drop_succ_cons, List.take_succ_cons, List.take_zero] at g0 g1 g2
  have hd : d = .agg [y0.1, y1.1, y2.1] := (Prod.mk.inj hx).1
  rw [hd] at hk
  simp only [Rows.uptoBulk, Rows.uptoBulkAll] at hk
  obtain ⟨pu, R, cu, rfl, h1, h2, h3, h4⟩ := open_rows1 g0 (by omega)
  exact ⟨pu, R, cu, c1, c2, n, y1, y2, rfl, h1, h2, h3, h4, g1, g2, by omega, by omega⟩
set_option maxRecDepth 100000 in
/-- an argument that is one row -/
theorem open_one {base : Nat} {v : Value} {d : DataW H} {p : List MemPlace} (hok : Value.okWide Tryd.prog W .any base 24 v) (h : ∃ fuel, DataW.trod enc Tryd.prog W 0 (fun _ => true) true fuel 24 v.cells.toList = some (d, p)) (hk : Rows.uptoBulk d ≤ 1048576) :
    ∃ r : Ro, v = .agg #[.int .i64 r.i0, .int .i64 r.i1, .int .i64 r.day, .int .i64 r.i3, .string r.s4, .string r.acc, .int .i64 r.amt, .string r.s7, .string r.s8] ∧ Can [r] := by
  obtain ⟨cs, rfl, hsz⟩ := okWide_struct Tryd.underlying24 hok
  obtain ⟨fuel, hf⟩ := h
  obtain ⟨r, hr, hacc, hamt⟩ := open_row (x := (d, p)) hf
  obtain ⟨cl⟩ := cs
  simp only [Value.cells] at hr
  subst hr
  refine ⟨r, rfl, fun q hq => ?_, fun q hq => ?_⟩
  · rw [List.mem_singleton] at hq
    subst hq
    simp only at hacc
    omega
  · rw [List.mem_singleton] at hq
    subst hq
    exact hamt
end
/-- numbers that came in -/
def IntsIn (W : World) (p : Option Addr) (n : Nat) (z : Nat → Int) : Prop :=
  ∀ k, k < n → ∃ b off, p = some ⟨b, off, none⟩ ∧ b < W.heap.size ∧ W.cell? ⟨b, off + k, none⟩ = some (.int .i64 (z k)) ∧ (-9223372036854775808 ≤ z k ∧ z k ≤ 9223372036854775807)
theorem IntsIn.below {W W' : World} {p : Option Addr} {n : Nat} {z : Nat → Int} (h : IntsIn W p n z) (hb : Below W.heap.size W W') : IntsIn W' p n z := fun k hk => by
  obtain ⟨b, off, e, hlt, hc, hz⟩ := h k hk
  exact ⟨b, off, e, Nat.lt_of_lt_of_le hlt hb.size, (hb.cell (p := ⟨b, off + k, none⟩) hlt).trans hc, hz⟩
theorem open_ints1 {H : Type} {enc : TypeId × Value → H} {W : World} {fuel : Nat} {v : Value} {x : DataW H × List MemPlace} (h : DataW.trod enc Tryd.prog W 0 (fun _ => true) true fuel 36 [v] = some x) (hk : Rows.uptoBulk x.1 ≤ 1048576) :
    ∃ p n c z, v = .slice p n c ∧ n ≤ 1048576 ∧ IntsIn W p n z := by
  rcases open_ints Tryd.underlying36 Tryd.underlying3 cells3 h with ⟨hcs, _⟩ | ⟨a, len, cap, zs, hcs, hb, hl, hm, hz, hx, hcell, hwz⟩
  · simp only [List.cons.injEq, and_true] at hcs
    exact ⟨none, 0, 0, fun _ => 0, hcs, by omega, fun k hk => by omega⟩
  · simp only [List.cons.injEq, and_true] at hcs
    have hz' : zs.length = cap := by simpa using hz
    refine ⟨some a, len, cap, fun k => zs.getD k 0, hcs, ?_, fun k hk => ?_⟩
    · refine Nat.le_trans ?_ hk
      rw [hx]
      refine Nat.le_trans ?_ (bulk_slice _ _)
      simp only [lits, List.length_map, List.length_take]
      omega
    · have hs : a.spot = none := by simpa [Addr.add] using World.cell?_spot (hcell 0 (by omega))
      obtain ⟨b, off, sp⟩ := a
      simp only at hs
      subst hs
      have hc := hcell k (by omega)
      rw [Addr.add_mid] at hc
      have h8 := hwz _ (List.getElem_mem (show k < zs.length by omega))
      have e1 : zs.getD k 0 = zs[k]'(by omega) := by simp [List.getD, show k < zs.length by omega]
      refine ⟨b, off, rfl, World.block_lt_of_cell? W _ hc, hc, ?_⟩
      show -9223372036854775808 ≤ zs.getD k 0 ∧ zs.getD k 0 ≤ 9223372036854775807
      rw [e1]
      exact bounds_i64 h8
end Go.Proofs.YtenoaechonpjgaaDoor
