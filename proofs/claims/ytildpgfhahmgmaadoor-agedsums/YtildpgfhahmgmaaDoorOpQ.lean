/- A list of acts as an argument, opened. -/
import Derived.Test.YtildpgfhahmgmaaDoorTwA
import Derived.Deep.Slices
import Derived.SizedLaws
namespace Go.Proofs.YtildpgfhahmgmaaDoor
open Go Go.Shelf Go.ChangeShapes Go.WideShapes Go.ChangeAt Go.RowKit Go.Maps Go.Sort Go.Deep
set_option linter.unusedVariables false
theorem cells53 : Tryd.prog.cellsOf 53 = 15 := by kernel_rfl
theorem cells37 : Tryd.prog.cellsOf 37 = 5 := by kernel_rfl
theorem cells51 : Tryd.prog.cellsOf 51 = 4 := by kernel_rfl
theorem cells2 : Tryd.prog.cellsOf 2 = 1 := by kernel_rfl
theorem cells3 : Tryd.prog.cellsOf 3 = 1 := by kernel_rfl
theorem cells9 : Tryd.prog.cellsOf 9 = 1 := by kernel_rfl
theorem cells23 : Tryd.prog.cellsOf 23 = 1 := by kernel_rfl
theorem cells25 : Tryd.prog.cellsOf 25 = 1 := by kernel_rfl
theorem list15 {α : Type} {cs : List α} (h : cs.length = 15) : ∃ c0 c1 c2 c3 c4 c5 c6 c7 c8 c9 c10 c11 c12 c13 c14, cs = [c0, c1, c2, c3, c4, c5, c6, c7, c8, c9, c10, c11, c12, c13, c14] := by
  match cs, h with
  | [c0, c1, c2, c3, c4, c5, c6, c7, c8, c9, c10, c11, c12, c13, c14], _ => exact ⟨c0, c1, c2, c3, c4, c5, c6, c7, c8, c9, c10, c11, c12, c13, c14, rfl⟩
theorem weights_all_mem {H : Type} {P : Program} {e : TypeId} {d : DataW H} : ∀ {l : List (DataW H)}, d ∈ l → ∀ n ∈ d.weights P e, n ∈ DataW.weightsAll P e l
  | [], h, _, _ => by cases h
  | x :: r, h, n, hn => by
    simp only [DataW.weightsAll, List.mem_append]
    rcases List.mem_cons.1 h with rfl | h
    · exact .inl hn
    · exact .inr (weights_all_mem h n hn)
section
variable {H : Type} {enc : TypeId × Value → H} {W : World}
theorem trod_struct8 {P : Program} {w : World} {base : Nat} {spare : Nat → Bool} {held : Bool} {t : TypeId} {f0 f1 f2 f3 f4 f5 f6 f7 : Field} {fuel : Nat} {cs : List Value} {x : DataW H × List MemPlace} (ht : P.underlying t = some (.struct #[f0, f1, f2, f3, f4, f5, f6, f7])) (h : DataW.trod enc P w base spare held fuel t cs = some x) :
    ∃ (y0 y1 y2 y3 y4 y5 y6 y7 : DataW H × List MemPlace) (n : Nat), x.1 = .agg [y0.1, y1.1, y2.1, y3.1, y4.1, y5.1, y6.1, y7.1] ∧ cs.length = P.cellsOf t ∧
      DataW.trod enc P w base spare held n f0.type ((cs.drop f0.offset).take (P.cellsOf f0.type)) = some y0 ∧
      DataW.trod enc P w base spare held n f1.type ((cs.drop f1.offset).take (P.cellsOf f1.type)) = some y1 ∧
      DataW.trod enc P w base spare held n f2.type ((cs.drop f2.offset).take (P.cellsOf f2.type)) = some y2 ∧
      DataW.trod enc P w base spare held n f3.type ((cs.drop f3.offset).take (P.cellsOf f3.type)) = some y3 ∧
      DataW.trod enc P w base spare held n f4.type ((cs.drop f4.offset).take (P.cellsOf f4.type)) = some y4 ∧
      DataW.trod enc P w base spare held n f5.type ((cs.drop f5.offset).take (P.cellsOf f5.type)) = some y5 ∧
      DataW.trod enc P w base spare held n f6.type ((cs.drop f6.offset).take (P.cellsOf f6.type)) = some y6 ∧
      DataW.trod enc P w base spare held n f7.type ((cs.drop f7.offset).take (P.cellsOf f7.type)) = some y7 := by
  obtain ⟨xs, n, _, rfl, hl, hlen, hf⟩ := DataW.trod_struct ht h
  match xs, hlen with
  | [y0, y1, y2, y3, y4, y5, y6, y7], _ => exact ⟨y0, y1, y2, y3, y4, y5, y6, y7, n, by simp, hl, by simpa using hf 0 f0 rfl, by simpa using hf 1 f1 rfl, by simpa using hf 2 f2 rfl, by simpa using hf 3 f3 rfl, by simpa using hf 4 f4 rfl, by simpa using hf 5 f5 rfl, by simpa using hf 6 f6 rfl, by simpa using hf 7 f7 rfl⟩
theorem trod_five {P : Program} {w : World} {base : Nat} {spare : Nat → Bool} {held : Bool} {t : TypeId} {f0 f1 f2 f3 f4 : Field} {fuel : Nat} {cs : List Value} {x : DataW H × List MemPlace} (ht : P.underlying t = some (.struct #[f0, f1, f2, f3, f4])) (h : DataW.trod enc P w base spare held fuel t cs = some x) :
    ∃ (y0 y1 y2 y3 y4 : DataW H × List MemPlace) (n : Nat), x.1 = .agg [y0.1, y1.1, y2.1, y3.1, y4.1] ∧ DataW.trod enc P w base spare held n f0.type ((cs.drop f0.offset).take (P.cellsOf f0.type)) = some y0 ∧
      DataW.trod enc P w base spare held n f1.type ((cs.drop f1.offset).take (P.cellsOf f1.type)) = some y1 ∧ DataW.trod enc P w base spare held n f2.type ((cs.drop f2.offset).take (P.cellsOf f2.type)) = some y2 ∧
      DataW.trod enc P w base spare held n f3.type ((cs.drop f3.offset).take (P.cellsOf f3.type)) = some y3 ∧ DataW.trod enc P w base spare held n f4.type ((cs.drop f4.offset).take (P.cellsOf f4.type)) = some y4 := by
  obtain ⟨xs, n, _, rfl, hl, hlen, hf⟩ := DataW.trod_struct ht h
  match xs, hlen with
  | [y0, y1, y2, y3, y4], _ => exact ⟨y0, y1, y2, y3, y4, n, by simp, by simpa using hf 0 f0 rfl, by simpa using hf 1 f1 rfl, by simpa using hf 2 f2 rfl, by simpa using hf 3 f3 rfl, by simpa using hf 4 f4 rfl⟩
theorem trod_four {P : Program} {w : World} {base : Nat} {spare : Nat → Bool} {held : Bool} {t : TypeId} {f0 f1 f2 f3 : Field} {fuel : Nat} {cs : List Value} {x : DataW H × List MemPlace} (ht : P.underlying t = some (.struct #[f0, f1, f2, f3])) (h : DataW.trod enc P w base spare held fuel t cs = some x) :
    ∃ (y0 y1 y2 y3 : DataW H × List MemPlace) (n : Nat), x.1 = .agg [y0.1, y1.1, y2.1, y3.1] ∧ DataW.trod enc P w base spare held n f0.type ((cs.drop f0.offset).take (P.cellsOf f0.type)) = some y0 ∧
      DataW.trod enc P w base spare held n f1.type ((cs.drop f1.offset).take (P.cellsOf f1.type)) = some y1 ∧ DataW.trod enc P w base spare held n f2.type ((cs.drop f2.offset).take (P.cellsOf f2.type)) = some y2 ∧
      DataW.trod enc P w base spare held n f3.type ((cs.drop f3.offset).take (P.cellsOf f3.type)) = some y3 := by
  obtain ⟨xs, n, _, rfl, hl, hlen, hf⟩ := DataW.trod_struct ht h
  match xs, hlen with
  | [y0, y1, y2, y3], _ => exact ⟨y0, y1, y2, y3, n, by simp, by simpa using hf 0 f0 rfl, by simpa using hf 1 f1 rfl, by simpa using hf 2 f2 rfl, by simpa using hf 3 f3 rfl⟩
theorem size_str {s : ByteArray} {y : DataW H} (e : y = .lit (.string s.data.toList)) (hw : ∀ m ∈ y.weights Tryd.prog 9, m ≤ reachBytes) : s.size ≤ maxLen :=
  Nat.le_trans (hw s.size (by rw [e]; simp [DataW.weights])) (by decide)
set_option maxRecDepth 100000 in
theorem open_op {fuel : Nat} {cs : List Value} {x : DataW H × List MemPlace} (h : DataW.trod enc Tryd.prog W 0 (fun _ => true) true fuel 53 cs = some x) (hw : ∀ n ∈ x.1.weights Tryd.prog 53, n ≤ reachBytes) :
    ∃ o : OpV, cs = o.arr.toList ∧ OpOk o ∧ OpSl o := by
  obtain ⟨y0, y1, y2, y3, y4, y5, y6, y7, n, hx, hl, g0, g1, g2, g3, g4, g5, g6, g7⟩ := trod_struct8 Tryd.underlying53 h
  rw [cells53] at hl
  obtain ⟨c0, c1, c2, c3, c4, c5, c6, c7, c8, c9, c10, c11, c12, c13, c14, rfl⟩ := list15 hl
  clear h hl
  simp only [cells3, cells9, cells37, cells51, cells23, cells25, List.drop_zero, List.drop_succ_cons, List.take_succ_cons, List.take_zero] at g0 g1 g2 g3 g4 g5 g6 g7
  obtain ⟨n0, e0, _, _⟩ := DataW.trod_int Tryd.underlying3 g0
  obtain ⟨n1, e1, _, _⟩ := DataW.trod_int Tryd.underlying3 g1
  obtain ⟨n2, e2, _, _⟩ := DataW.trod_int Tryd.underlying3 g2
  obtain ⟨s12, e12, x12, z12⟩ := DataW.trod_string Tryd.underlying9 g5
  have w3 : ∀ m ∈ y3.1.weights Tryd.prog 37, m ≤ reachBytes := fun m hm => hw m (by
    rw [hx]
    simp only [DataW.weights, Tryd.underlying53]
    exact DataW.weights_mem_each (j := 3) (t := 37) rfl rfl m hm)
  have w4 : ∀ m ∈ y4.1.weights Tryd.prog 51, m ≤ reachBytes := fun m hm => hw m (by
    rw [hx]
    simp only [DataW.weights, Tryd.underlying53]
    exact DataW.weights_mem_each (j := 4) (t := 51) rfl rfl m hm)
  have w5 : ∀ m ∈ y5.1.weights Tryd.prog 9, m ≤ reachBytes := fun m hm => hw m (by
    rw [hx]
    simp only [DataW.weights, Tryd.underlying53]
    exact DataW.weights_mem_each (j := 5) (t := 9) rfl rfl m hm)
  obtain ⟨u0, u1, u2, u3, u4, m, hu, k0, k1, k2, k3, k4⟩ := trod_five Tryd.underlying37 g3
  obtain ⟨v0, v1, v2, v3, m', hv, l0, l1, l2, l3⟩ := trod_four Tryd.underlying51 g4
  simp only [cells3, cells9, cells2, List.drop_zero, List.drop_succ_cons, List.take_succ_cons, List.take_zero] at k0 k1 k2 k3 k4 l0 l1 l2 l3
  obtain ⟨s3, e3, x3, z3⟩ := DataW.trod_string Tryd.underlying9 k0
  obtain ⟨s4, e4, x4, z4⟩ := DataW.trod_string Tryd.underlying9 k1
  obtain ⟨n5, e5, _, _⟩ := DataW.trod_int Tryd.underlying3 k2
  obtain ⟨n6, e6, _, _⟩ := DataW.trod_int Tryd.underlying3 k3
  obtain ⟨n7, e7, hh7, hb7⟩ := DataW.trod_int Tryd.underlying2 k4
  obtain ⟨s8, e8, x8, z8⟩ := DataW.trod_string Tryd.underlying9 l0
  obtain ⟨s9, e9, x9, z9⟩ := DataW.trod_string Tryd.underlying9 l1
  obtain ⟨n10, e10, _, _⟩ := DataW.trod_int Tryd.underlying3 l2
  obtain ⟨n11, e11, _, _⟩ := DataW.trod_int Tryd.underlying2 l3
  have q0 : ∀ m ∈ u0.1.weights Tryd.prog 9, m ≤ reachBytes := fun m hm => w3 m (by
    rw [hu]
    simp only [DataW.weights, Tryd.underlying37]
    exact DataW.weights_mem_each (j := 0) (t := 9) rfl rfl m hm)
  have q1 : ∀ m ∈ u1.1.weights Tryd.prog 9, m ≤ reachBytes := fun m hm => w3 m (by
    rw [hu]
    simp only [DataW.weights, Tryd.underlying37]
    exact DataW.weights_mem_each (j := 1) (t := 9) rfl rfl m hm)
  have q2 : ∀ m ∈ v1.1.weights Tryd.prog 9, m ≤ reachBytes := fun m hm => w4 m (by
    rw [hv]
    simp only [DataW.weights, Tryd.underlying51]
    exact DataW.weights_mem_each (j := 1) (t := 9) rfl rfl m hm)
  obtain ⟨r1, m1, t1, e13⟩ : ∃ a l c, [c13] = [Value.slice a l c] := by
    rcases open_slice Tryd.underlying23 g6 with ⟨hcs, _⟩ | ⟨a', len', cap', _, _, _, _, hcs, _⟩
    · exact ⟨_, _, _, hcs⟩
    · exact ⟨_, _, _, hcs⟩
  obtain ⟨r2, m2, t2, e14⟩ : ∃ a l c, [c14] = [Value.slice a l c] := by
    rcases open_slice Tryd.underlying25 g7 with ⟨hcs, _⟩ | ⟨a', len', cap', _, _, _, _, hcs, _⟩
    · exact ⟨_, _, _, hcs⟩
    · exact ⟨_, _, _, hcs⟩
  simp only [List.cons.injEq, and_true] at e13 e14 e0 e1 e2 e3 e4 e5 e6 e7 e8 e9 e10 e11 e12
  refine ⟨⟨n0, n1, n2, ⟨s3, s4, n5, n6, n7⟩, ⟨s8, s9, n10, n11⟩, s12, c13, c14⟩, ?_, ⟨size_str (congrArg Prod.fst x3) q0, size_str (congrArg Prod.fst x4) q1, size_str (congrArg Prod.fst x9) q2, size_str (congrArg Prod.fst x12) w5, ?_⟩, ⟨r1, m1, t1, r2, m2, t2, e13, e14⟩⟩
  · rw [e0, e1, e2, e3, e4, e5, e6, e7, e8, e9, e10, e11, e12]
    rfl
  · show n7 ≤ 9223372036854775807
    simp [Lit.wf, IntKind.min, IntKind.max, IntKind.signed, IntKind.bits] at hb7
    omega
set_option maxRecDepth 100000 in
theorem spot_none {base t e : Nat} {x : Addr} {len cap : Nat} (ht : Tryd.prog.underlying t = some (.slice e)) (hok : Value.okWide Tryd.prog W .any base t (.slice (some x) len cap)) : x.spot = none := by
  have h1 : Cell.okWide Tryd.prog W .any base t (.slice (some x) len cap) := by
    have h2 := hok
    unfold Value.okWide at h2
    rw [ht] at h2
    exact h2
  unfold Cell.okWide at h1
  rw [ht] at h1
  simp only [Cell.ok, ht, World.has] at h1
  exact h1.2.2.2.1
instance : Inhabited OpV := ⟨⟨0, 0, 0, ⟨⟨#[]⟩, ⟨#[]⟩, 0, 0, 0⟩, ⟨⟨#[]⟩, ⟨#[]⟩, 0, 0⟩, ⟨#[]⟩, .bool false, .bool false⟩⟩
set_option maxRecDepth 100000 in
theorem open_ops {base : Nat} {v : Value} {d : DataW H} {p : List MemPlace} (hok : Value.okWide Tryd.prog W .any base 44 v) (h : ∃ fuel, DataW.trod enc Tryd.prog W 0 (fun _ => true) true fuel 44 v.cells.toList = some (d, p)) (hw : ∀ n ∈ d.weights Tryd.prog 44, n ≤ reachBytes) :
    ∃ (pu : Option Addr) (cu : Nat) (L : List OpV), v = .slice pu L.length cu ∧ L.length ≤ maxLen ∧ OpsIn W pu L ∧ ∀ o ∈ L, OpOk o ∧ OpSl o := by
  obtain ⟨a0, len0, cap0, rfl⟩ := okWide_slice Tryd.underlying44 hok
  obtain ⟨fuel, hf⟩ := h
  rcases open_slice Tryd.underlying44 hf with ⟨hcs, _⟩ | ⟨a, len, cap, m, n, D, Pl, hcs, hb, hl, hm, hmm, hx, hall⟩
  · simp [Value.cells] at hcs
    obtain ⟨rfl, rfl, rfl⟩ := hcs
    exact ⟨none, 0, [], rfl, Nat.zero_le _, fun k hk => by simp at hk, fun o ho => by cases ho⟩
  · simp [Value.cells] at hcs
    obtain ⟨rfl, rfl, rfl⟩ := hcs
    have hmm' : m = cap0 := by simpa using hmm
    have hspot := spot_none Tryd.underlying44 hok
    obtain ⟨b, off, sp⟩ := a
    simp only at hspot
    subst hspot
    have hd : d = .slice ((List.range len0).map D) ((List.range (m - len0)).map fun j => D (len0 + j)) := (Prod.mk.inj hx).1
    have hq : ∀ i, i < len0 → ∃ o : OpV, W.rangeAt b (off + i * 15) o.arr.toList ∧ OpOk o ∧ OpSl o := fun i hi => by
      obtain ⟨cs', h1, h2⟩ := hall i (by omega)
      obtain ⟨o, hX, hO⟩ := open_op h2 (fun n hn => hw n (by
        rw [hd]
        simp only [DataW.weights, Tryd.underlying44, List.mem_cons, List.mem_append]
        exact .inr (.inl (weights_all_mem (List.mem_map.2 ⟨i, List.mem_range.2 hi, rfl⟩) n hn))))
      refine ⟨o, fun j u hj => ?_, hO⟩
      rw [cells53] at h1
      obtain ⟨_, hlen, hc⟩ := World.cells?_some h1
      rw [← hX] at hj
      have hj' : j < 15 := by
        have := (List.getElem?_eq_some_iff.1 hj).1
        omega
      have h3 := hc j hj'
      rw [hj, add_add, Addr.add_mid] at h3
      rw [Nat.add_assoc]
      exact h3
    obtain ⟨X, hX⟩ := choose_lt (α := OpV) hq
    have hlen : ((List.range len0).map X).length = len0 := by simp
    refine ⟨some ⟨b, off, none⟩, cap0, (List.range len0).map X, by rw [hlen], by rw [hlen]; omega, fun k hk => ?_, fun o ho => ?_⟩
    · have hk' : k < len0 := by rw [hlen] at hk; exact hk
      refine ⟨b, off, rfl, ?_, ?_⟩
      · have := (hX k hk').1 0 _ rfl
        exact World.block_lt_of_cell? W _ this
      · have e : ((List.range len0).map X)[k] = X k := by simp
        rw [e]
        exact (hX k hk').1
    · obtain ⟨i, hi, rfl⟩ := List.mem_map.1 ho
      exact (hX i (List.mem_range.1 hi)).2
end
end Go.Proofs.YtildpgfhahmgmaaDoor
