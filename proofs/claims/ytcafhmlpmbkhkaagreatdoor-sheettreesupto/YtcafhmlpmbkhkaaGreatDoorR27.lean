import Derived.Test.YtcafhmlpmbkhkaaGreatDoorW28
import Derived.Test.YtcafhmlpmbkhkaaGreatDoorR17
import Derived.Test.YtcafhmlpmbkhkaaGreatDoorR16
namespace Go.Proofs.YtcafhmlpmbkhkaaGreatDoor
open Go.Deep Go Go.RowKit Go.Shelf Go.ChangeShapes Go.WideShapes Go.ChangeAt Go.Maps
set_option linter.unusedVariables false
set_option linter.unusedSimpArgs false
set_option maxRecDepth 100000
set_option maxHeartbeats 8000000
theorem cells72 : Tryz.prog.cellsOf 72 = 3 := by kernel_rfl
theorem clV {α : Type} {cs : List α} (h : cs.length = 3) : ∃ c0 c1 c2, cs = [c0, c1, c2] := by
  match cs, h with
  | [c0, c1, c2], _ => exact ⟨c0, c1, c2, rfl⟩
def wV (x : Bv) : Nat := x.acc.size + 1
structure IV (x : Bv) : Prop where
  own : -9223372036854775808 ≤ x.own ∧ x.own ≤ 9223372036854775807
  rol : -9223372036854775808 ≤ x.rol ∧ x.rol ≤ 9223372036854775807
section
variable {H : Type} {enc : TypeId × Value → H} {W : World}
theorem trodSV {P : Program} {w : World} {base : Nat} {spare : Nat → Bool} {held : Bool} {t : TypeId} {f0 f1 f2 : Field} {fuel : Nat} {cs : List Value} {x : DataW H × List MemPlace} (ht : P.underlying t = some (.struct #[f0, f1, f2])) (h : DataW.trod enc P w base spare held fuel t cs = some x) :
    ∃ (y0 y1 y2 : DataW H × List MemPlace) (n : Nat), x.1 = .agg [y0.1, y1.1, y2.1] ∧ cs.length = P.cellsOf t ∧ DataW.trod enc P w base spare held n f0.type ((cs.drop f0.offset).take (P.cellsOf f0.type)) = some y0 ∧ DataW.trod enc P w base spare held n f1.type ((cs.drop f1.offset).take (P.cellsOf f1.type)) = some y1 ∧ DataW.trod enc P w base spare held n f2.type ((cs.drop f2.offset).take (P.cellsOf f2.type)) = some y2 := by
  obtain ⟨xs, n, _, rfl, hl, hlen, hf⟩ := DataW.trod_struct ht h
  match xs, hlen with
  | [y0, y1, y2], _ => exact ⟨y0, y1, y2, n, by simp, hl, by simpa using hf 0 f0 rfl, by simpa using hf 1 f1 rfl, by simpa using hf 2 f2 rfl⟩
theorem openV {fuel : Nat} {cs : List Value} {x : DataW H × List MemPlace} (h : DataW.trod enc Tryz.prog W 0 (fun _ => true) true fuel 72 cs = some x) :
    ∃ r : Bv, cs = r.vals ∧ wV r ≤ Rows.uptoBulk x.1 ∧ IV r := by
  obtain ⟨y0, y1, y2, n, hx, hl, g0, g1, g2⟩ := trodSV Tryz.underlying72 h
  rw [cells72] at hl
  obtain ⟨c0, c1, c2, rfl⟩ := clV hl
  clear h hl
  simp only [cells2, cells3, cells4, cells9, List.drop_zero, List.drop_succ_cons, List.take_succ_cons, List.take_zero] at g0 g1 g2
  obtain ⟨s0, e0, x0, _⟩ := DataW.trod_string Tryz.underlying9 g0
  obtain ⟨s1, e1, _, z1⟩ := DataW.trod_int Tryz.underlying2 g1
  obtain ⟨s2, e2, _, z2⟩ := DataW.trod_int Tryz.underlying2 g2
  simp only [List.cons.injEq, and_true] at e0 e1 e2
  refine ⟨⟨s0, s1, s2⟩, by rw [e0, e1, e2]; rfl, ?_, ⟨i64_in z1, i64_in z2⟩⟩
  show s0.size + 1 ≤ _
  rw [hx]
  have b0 : Rows.uptoBulk y0.1 = s0.size + 1 := by rw [x0]; simp [Rows.uptoBulk]
  simp only [Rows.uptoBulk, Rows.uptoBulkAll]
  omega
theorem opensV {fuel : Nat} {v : Value} {x : DataW H × List MemPlace} (h : DataW.trod enc Tryz.prog W 0 (fun _ => true) true fuel 67 [v] = some x) :
    ∃ (p : Option Addr) (c : Nat) (L : List Bv), v = .slice p L.length c ∧ (p = none → c = 0) ∧ Lies kV W p L ∧ (L.map wV).sum + 1 ≤ Rows.uptoBulk x.1 ∧ ∀ y ∈ L, IV y := by
  rcases open_slice Tryz.underlying67 h with ⟨hcs, hx⟩ | ⟨a, len, cap, m, n, D, Pl, hcs, hb, hl, hm, hmm, hx, hall⟩
  · simp only [List.cons.injEq, and_true] at hcs
    exact ⟨none, 0, [], hcs, fun _ => rfl, Lies.nil _ _, by have := one_le x.1; simpa using this, fun y hy => (by cases hy)⟩
  · simp only [List.cons.injEq, and_true] at hcs
    have hmm' : m = cap := by simpa using hmm
    have hd : x.1 = .slice ((List.range len).map D) ((List.range (m - len)).map fun j => D (len + j)) := (Prod.mk.inj hx).1
    have hq : ∀ i, i < len → ∃ y : Bv, (∃ b off, some a = some (⟨b, off, none⟩ : Addr) ∧ b < W.heap.size ∧ W.rangeAt b (off + i * 3) y.vals) ∧ wV y ≤ Rows.uptoBulk (D i) ∧ IV y := fun i hi => by
      obtain ⟨cs', h1, h2⟩ := hall i (by omega)
      obtain ⟨y, hy, hwt, hpo⟩ := openV h2
      rw [cells72] at h1
      obtain ⟨_, hlen, hc⟩ := World.cells?_some h1
      have hs : a.spot = none := by
        obtain ⟨cz, hz1, hz2⟩ := hall 0 (by omega)
        obtain ⟨rz, hrz, _, _⟩ := openV hz2
        rw [cells72] at hz1
        obtain ⟨_, _, hcz⟩ := World.cells?_some hz1
        have h3 := hcz 0 (by omega)
        rw [hrz] at h3
        simpa [Addr.add] using World.cell?_spot h3
      obtain ⟨b, off, sp⟩ := a
      simp only at hs
      subst hs
      refine ⟨y, ⟨b, off, rfl, ?_, fun j u hj => ?_⟩, hwt, hpo⟩
      · have h3 := hc 0 (by omega)
        rw [hy] at h3
        rw [add_add, Addr.add_mid] at h3
        exact World.block_lt_of_cell? W _ h3
      · have hj' : j < 3 := (List.getElem?_eq_some_iff.1 hj).1
        have h3 := hc j hj'
        rw [hy, hj, add_add, Addr.add_mid, ← Nat.add_assoc] at h3
        exact h3
    obtain ⟨L, hL, hall⟩ := choose_list len hq
    have hsum := sum_bulk wV D L (fun i hi => (hall i hi).2.1)
    refine ⟨some a, cap, L, by rw [hL]; exact hcs, (fun h => by cases h), ⟨(fun h => by cases h), fun k hk => (hall k hk).1⟩, ?_, fun y hy => ?_⟩
    · rw [hd]
      simp only [Rows.uptoBulk]
      rw [hL] at hsum
      omega
    · obtain ⟨k, hk, rfl⟩ := List.mem_iff_getElem.1 hy
      exact (hall k hk).2.2
theorem argV {base : Nat} {v : Value} {d : DataW H} {p : List MemPlace} (hok : Value.okWide Tryz.prog W .any base 67 v) (h : ∃ fuel, DataW.trod enc Tryz.prog W 0 (fun _ => true) true fuel 67 v.cells.toList = some (d, p)) (hk : Rows.uptoBulk d ≤ 1048576) :
    ∃ pX cX X, v = .slice pX (X : List Bv).length cX ∧ (pX = none → cX = 0) ∧ Lies kV W pX X ∧ X.length ≤ 1048576 ∧ (∀ y ∈ X, wV y ≤ 1048576 ∧ IV y) := by
  obtain ⟨a0, len0, cap0, rfl⟩ := okWide_slice Tryz.underlying67 hok
  obtain ⟨fuel, hf⟩ := h
  obtain ⟨pX, cX, X, e, h0, hl, hs, hi⟩ := opensV hf
  have lX := len_sum wV (fun x => by unfold wV; omega) X
  have hs' : (X.map wV).sum + 1 ≤ Rows.uptoBulk d := hs
  refine ⟨pX, cX, X, e, h0, hl, by omega, fun y hy => ⟨?_, hi y hy⟩⟩
  have := mem_sum wV hy
  omega
end
end Go.Proofs.YtcafhmlpmbkhkaaGreatDoor
namespace Go.Proofs.YtcafhmlpmbkhkaaGreatDoor
open Go.Deep Go Go.RowKit Go.Shelf Go.ChangeShapes Go.WideShapes Go.ChangeAt Go.Maps
set_option linter.unusedVariables false
set_option maxRecDepth 100000
set_option maxHeartbeats 8000000
theorem capV {H : Type} {enc : TypeId × Value → H} {W : World} {pX : Option Addr} {n c : Nat} {d : DataW H} {p : List MemPlace} (h : ∃ fuel, DataW.trod enc Tryz.prog W 0 (fun _ => true) true fuel 67 (Value.slice pX n c).cells.toList = some (d, p)) : n ≤ c := by
  obtain ⟨fuel, hf⟩ := h
  have hf' : DataW.trod enc Tryz.prog W 0 (fun _ => true) true fuel 67 [Value.slice pX n c] = some (d, p) := hf
  rcases open_slice Tryz.underlying67 hf' with ⟨hcs, _⟩ | ⟨a, len, cap, m', n', D, Pl, hcs, hb, hl', _⟩
  · simp only [List.cons.injEq, and_true, Value.slice.injEq] at hcs
    omega
  · simp only [List.cons.injEq, and_true, Value.slice.injEq] at hcs
    omega
end Go.Proofs.YtcafhmlpmbkhkaaGreatDoor
namespace Go.Proofs.YtcafhmlpmbkhkaaGreatDoor
open Go.Deep Go Go.RowKit Go.Shelf Go.ChangeShapes Go.WideShapes Go.ChangeAt Go.Maps
set_option linter.unusedVariables false
set_option linter.unusedSimpArgs false
set_option maxRecDepth 100000
set_option maxHeartbeats 8000000
theorem cells139 : Tryz.prog.cellsOf 139 = 4 := by kernel_rfl
theorem clA {α : Type} {cs : List α} (h : cs.length = 4) : ∃ c0 c1 c2 c3, cs = [c0, c1, c2, c3] := by
  match cs, h with
  | [c0, c1, c2, c3], _ => exact ⟨c0, c1, c2, c3, rfl⟩
def wA (x : Ch.Ac) : Nat := (Ch.txN x.nm).size + 1
structure IA (x : Ch.Ac) : Prop where
  ty : -9223372036854775808 ≤ x.ty ∧ x.ty ≤ 9223372036854775807
  dy : -9223372036854775808 ≤ x.dy ∧ x.dy ≤ 9223372036854775807
section
variable {H : Type} {enc : TypeId × Value → H} {W : World}
theorem trodSA {P : Program} {w : World} {base : Nat} {spare : Nat → Bool} {held : Bool} {t : TypeId} {f0 f1 f2 f3 : Field} {fuel : Nat} {cs : List Value} {x : DataW H × List MemPlace} (ht : P.underlying t = some (.struct #[f0, f1, f2, f3])) (h : DataW.trod enc P w base spare held fuel t cs = some x) :
    ∃ (y0 y1 y2 y3 : DataW H × List MemPlace) (n : Nat), x.1 = .agg [y0.1, y1.1, y2.1, y3.1] ∧ cs.length = P.cellsOf t ∧ DataW.trod enc P w base spare held n f0.type ((cs.drop f0.offset).take (P.cellsOf f0.type)) = some y0 ∧ DataW.trod enc P w base spare held n f1.type ((cs.drop f1.offset).take (P.cellsOf f1.type)) = some y1 ∧ DataW.trod enc P w base spare held n f2.type ((cs.drop f2.offset).take (P.cellsOf f2.type)) = some y2 ∧ DataW.trod enc P w base spare held n f3.type ((cs.drop f3.offset).take (P.cellsOf f3.type)) = some y3 := by
  obtain ⟨xs, n, _, rfl, hl, hlen, hf⟩ := DataW.trod_struct ht h
  match xs, hlen with
  | [y0, y1, y2, y3], _ => exact ⟨y0, y1, y2, y3, n, by simp, hl, by simpa using hf 0 f0 rfl, by simpa using hf 1 f1 rfl, by simpa using hf 2 f2 rfl, by simpa using hf 3 f3 rfl⟩
theorem openA {fuel : Nat} {cs : List Value} {x : DataW H × List MemPlace} (h : DataW.trod enc Tryz.prog W 0 (fun _ => true) true fuel 139 cs = some x) :
    ∃ r : Ch.Ac, cs = Ch.kA.enc r ∧ wA r ≤ Rows.uptoBulk x.1 ∧ IA r := by
  obtain ⟨y0, y1, y2, y3, n, hx, hl, g0, g1, g2, g3⟩ := trodSA Tryz.underlying139 h
  rw [cells139] at hl
  obtain ⟨c0, c1, c2, c3, rfl⟩ := clA hl
  clear h hl
  simp only [cells2, cells3, cells4, cells9, List.drop_zero, List.drop_succ_cons, List.take_succ_cons, List.take_zero] at g0 g1 g2 g3
  obtain ⟨s0, e0, x0, _⟩ := DataW.trod_string Tryz.underlying9 g0
  obtain ⟨s1, e1, _, z1⟩ := DataW.trod_int Tryz.underlying3 g1
  obtain ⟨s2, e2, _, z2⟩ := DataW.trod_int Tryz.underlying3 g2
  obtain ⟨s3, e3, _⟩ := DataW.trod_bool Tryz.underlying4 g3
  simp only [List.cons.injEq, and_true] at e0 e1 e2 e3
  refine ⟨⟨s0.data.toList, s1, s2, s3⟩, by rw [e0, e1, e2, e3]; rfl, ?_, ⟨i64_in z1, i64_in z2⟩⟩
  show s0.size + 1 ≤ _
  rw [hx]
  have b0 : Rows.uptoBulk y0.1 = s0.size + 1 := by rw [x0]; simp [Rows.uptoBulk]
  simp only [Rows.uptoBulk, Rows.uptoBulkAll]
  omega
theorem opensA {fuel : Nat} {v : Value} {x : DataW H × List MemPlace} (h : DataW.trod enc Tryz.prog W 0 (fun _ => true) true fuel 55 [v] = some x) :
    ∃ (p : Option Addr) (c : Nat) (L : List Ch.Ac), v = .slice p L.length c ∧ (p = none → c = 0) ∧ Lies Ch.kA W p L ∧ (L.map wA).sum + 1 ≤ Rows.uptoBulk x.1 ∧ ∀ y ∈ L, IA y := by
  rcases open_slice Tryz.underlying55 h with ⟨hcs, hx⟩ | ⟨a, len, cap, m, n, D, Pl, hcs, hb, hl, hm, hmm, hx, hall⟩
  · simp only [List.cons.injEq, and_true] at hcs
    exact ⟨none, 0, [], hcs, fun _ => rfl, Lies.nil _ _, by have := one_le x.1; simpa using this, fun y hy => (by cases hy)⟩
  · simp only [List.cons.injEq, and_true] at hcs
    have hmm' : m = cap := by simpa using hmm
    have hd : x.1 = .slice ((List.range len).map D) ((List.range (m - len)).map fun j => D (len + j)) := (Prod.mk.inj hx).1
    have hq : ∀ i, i < len → ∃ y : Ch.Ac, (∃ b off, some a = some (⟨b, off, none⟩ : Addr) ∧ b < W.heap.size ∧ W.rangeAt b (off + i * 4) (Ch.kA.enc y)) ∧ wA y ≤ Rows.uptoBulk (D i) ∧ IA y := fun i hi => by
      obtain ⟨cs', h1, h2⟩ := hall i (by omega)
      obtain ⟨y, hy, hwt, hpo⟩ := openA h2
      rw [cells139] at h1
      obtain ⟨_, hlen, hc⟩ := World.cells?_some h1
      have hs : a.spot = none := by
        obtain ⟨cz, hz1, hz2⟩ := hall 0 (by omega)
        obtain ⟨rz, hrz, _, _⟩ := openA hz2
        rw [cells139] at hz1
        obtain ⟨_, _, hcz⟩ := World.cells?_some hz1
        have h3 := hcz 0 (by omega)
        rw [hrz] at h3
        simpa [Addr.add] using World.cell?_spot h3
      obtain ⟨b, off, sp⟩ := a
      simp only at hs
      subst hs
      refine ⟨y, ⟨b, off, rfl, ?_, fun j u hj => ?_⟩, hwt, hpo⟩
      · have h3 := hc 0 (by omega)
        rw [hy] at h3
        rw [add_add, Addr.add_mid] at h3
        exact World.block_lt_of_cell? W _ h3
      · have hj' : j < 4 := (List.getElem?_eq_some_iff.1 hj).1
        have h3 := hc j hj'
        rw [hy, hj, add_add, Addr.add_mid, ← Nat.add_assoc] at h3
        exact h3
    obtain ⟨L, hL, hall⟩ := choose_list len hq
    have hsum := sum_bulk wA D L (fun i hi => (hall i hi).2.1)
    refine ⟨some a, cap, L, by rw [hL]; exact hcs, (fun h => by cases h), ⟨(fun h => by cases h), fun k hk => (hall k hk).1⟩, ?_, fun y hy => ?_⟩
    · rw [hd]
      simp only [Rows.uptoBulk]
      rw [hL] at hsum
      omega
    · obtain ⟨k, hk, rfl⟩ := List.mem_iff_getElem.1 hy
      exact (hall k hk).2.2
theorem argA {base : Nat} {v : Value} {d : DataW H} {p : List MemPlace} (hok : Value.okWide Tryz.prog W .any base 55 v) (h : ∃ fuel, DataW.trod enc Tryz.prog W 0 (fun _ => true) true fuel 55 v.cells.toList = some (d, p)) (hk : Rows.uptoBulk d ≤ 1048576) :
    ∃ pX cX X, v = .slice pX (X : List Ch.Ac).length cX ∧ (pX = none → cX = 0) ∧ Lies Ch.kA W pX X ∧ X.length ≤ 1048576 ∧ (∀ y ∈ X, wA y ≤ 1048576 ∧ IA y) := by
  obtain ⟨a0, len0, cap0, rfl⟩ := okWide_slice Tryz.underlying55 hok
  obtain ⟨fuel, hf⟩ := h
  obtain ⟨pX, cX, X, e, h0, hl, hs, hi⟩ := opensA hf
  have lX := len_sum wA (fun x => by unfold wA; omega) X
  have hs' : (X.map wA).sum + 1 ≤ Rows.uptoBulk d := hs
  refine ⟨pX, cX, X, e, h0, hl, by omega, fun y hy => ⟨?_, hi y hy⟩⟩
  have := mem_sum wA hy
  omega
end
end Go.Proofs.YtcafhmlpmbkhkaaGreatDoor
