/- A list of calls as an argument, opened. -/
import Derived.Test.YtgimeecklmmbjaaDoorChW
import Derived.Deep.Slices
import Derived.SizedLaws
namespace Go.Proofs.YtgimeecklmmbjaaDoor
open Go Go.Shelf Go.ChangeShapes Go.WideShapes Go.ChangeAt Go.RowKit Go.Maps Go.Sort Go.Deep
set_option linter.unusedVariables false
theorem cells33 : Tryd.prog.cellsOf 33 = 6 := by kernel_rfl
theorem bytes33 : Tryd.prog.bytesOf 33 = 64 := by kernel_rfl
theorem cells3 : Tryd.prog.cellsOf 3 = 1 := by kernel_rfl
theorem cells9 : Tryd.prog.cellsOf 9 = 1 := by kernel_rfl
theorem list6 {α : Type} {cs : List α} (h : cs.length = 6) : ∃ c0 c1 c2 c3 c4 c5, cs = [c0, c1, c2, c3, c4, c5] := by
  match cs, h with
  | [c0, c1, c2, c3, c4, c5], _ => exact ⟨c0, c1, c2, c3, c4, c5, rfl⟩
theorem weights_all_mem {H : Type} {P : Program} {e : TypeId} {d : DataW H} : ∀ {l : List (DataW H)}, d ∈ l → ∀ n ∈ d.weights P e, n ∈ DataW.weightsAll P e l
  | [], h, _, _ => by cases h
  | x :: r, h, n, hn => by
    simp only [DataW.weightsAll, List.mem_append]
    rcases List.mem_cons.1 h with rfl | h
    · exact .inl hn
    · exact .inr (weights_all_mem h n hn)
section
variable {H : Type} {enc : TypeId × Value → H} {W : World}
theorem trod_six {P : Program} {w : World} {base : Nat} {spare : Nat → Bool} {held : Bool} {t : TypeId} {f0 f1 f2 f3 f4 f5 : Field} {fuel : Nat} {cs : List Value} {x : DataW H × List MemPlace} (ht : P.underlying t = some (.struct #[f0, f1, f2, f3, f4, f5])) (h : DataW.trod enc P w base spare held fuel t cs = some x) :
    ∃ (y0 y1 y2 y3 y4 y5 : DataW H × List MemPlace) (n : Nat), x.1 = .agg [y0.1, y1.1, y2.1, y3.1, y4.1, y5.1] ∧ cs.length = P.cellsOf t ∧
      DataW.trod enc P w base spare held n f0.type ((cs.drop f0.offset).take (P.cellsOf f0.type)) = some y0 ∧
      DataW.trod enc P w base spare held n f1.type ((cs.drop f1.offset).take (P.cellsOf f1.type)) = some y1 ∧
      DataW.trod enc P w base spare held n f2.type ((cs.drop f2.offset).take (P.cellsOf f2.type)) = some y2 ∧
      DataW.trod enc P w base spare held n f3.type ((cs.drop f3.offset).take (P.cellsOf f3.type)) = some y3 ∧
      DataW.trod enc P w base spare held n f4.type ((cs.drop f4.offset).take (P.cellsOf f4.type)) = some y4 ∧
      DataW.trod enc P w base spare held n f5.type ((cs.drop f5.offset).take (P.cellsOf f5.type)) = some y5 := by
  obtain ⟨xs, n, _, rfl, hl, hlen, hf⟩ := DataW.trod_struct ht h
  match xs, hlen with
  | [y0, y1, y2, y3, y4, y5], _ => exact ⟨y0, y1, y2, y3, y4, y5, n, by simp, hl, by simpa using hf 0 f0 rfl, by simpa using hf 1 f1 rfl, by simpa using hf 2 f2 rfl, by simpa using hf 3 f3 rfl, by simpa using hf 4 f4 rfl, by simpa using hf 5 f5 rfl⟩
theorem size_str {s : ByteArray} {y : DataW H} (e : y = .lit (.string s.data.toList)) (hw : ∀ m ∈ y.weights Tryd.prog 9, m ≤ reachBytes) : s.size ≤ 140737488351232 :=
  hw s.size (by rw [e]; simp [DataW.weights])
set_option maxRecDepth 100000 in
theorem open_act {fuel : Nat} {cs : List Value} {x : DataW H × List MemPlace} (h : DataW.trod enc Tryd.prog W 0 (fun _ => true) true fuel 33 cs = some x) (hw : ∀ n ∈ x.1.weights Tryd.prog 33, n ≤ reachBytes) :
    ∃ v : Av, cs = v.vals ∧ v.ok := by
  obtain ⟨y0, y1, y2, y3, y4, y5, n, hx, hl, g0, g1, g2, g3, g4, g5⟩ := trod_six Tryd.underlying33 h
  rw [cells33] at hl
  obtain ⟨c0, c1, c2, c3, c4, c5, rfl⟩ := list6 hl
  clear h hl
  simp only [cells3, cells9, List.drop_zero, List.drop_succ_cons, List.take_succ_cons, List.take_zero] at g0 g1 g2 g3 g4 g5
  obtain ⟨n0, e0, _, _⟩ := DataW.trod_int Tryd.underlying3 g0
  obtain ⟨n1, e1, _, _⟩ := DataW.trod_int Tryd.underlying3 g1
  obtain ⟨n2, e2, hh2, hb2⟩ := DataW.trod_int Tryd.underlying3 g2
  obtain ⟨n3, e3, _, _⟩ := DataW.trod_int Tryd.underlying3 g3
  obtain ⟨s4, e4, x4, z4⟩ := DataW.trod_string Tryd.underlying9 g4
  obtain ⟨s5, e5, x5, z5⟩ := DataW.trod_string Tryd.underlying9 g5
  have w4 : ∀ m ∈ y4.1.weights Tryd.prog 9, m ≤ reachBytes := fun m hm => hw m (by
    rw [hx]
    simp only [DataW.weights, Tryd.underlying33]
    exact DataW.weights_mem_each (j := 4) (t := 9) rfl rfl m hm)
  have hs := size_str (congrArg Prod.fst x4) w4
  simp only [List.cons.injEq, and_true] at e0 e1 e2 e3 e4 e5
  refine ⟨⟨n0, n1, n2, n3, s4, s5⟩, ?_, ⟨?_, ?_⟩⟩
  · rw [e0, e1, e2, e3, e4, e5]
    rfl
  · show -9223372036854775808 ≤ n2 ∧ n2 ≤ 9223372036854775807
    simp [Lit.wf, IntKind.min, IntKind.max, IntKind.signed, IntKind.bits] at hb2
    omega
  · show s4.size < 4611686018427387904
    omega
set_option maxRecDepth 100000 in
theorem spot_none {base t e : Nat} {x : Addr} {len cap : Nat} (ht : Tryd.prog.underlying t = some (.slice e)) (hok : Value.okWide Tryd.prog W .any base t (.slice (some x) len cap)) : x.spot = none := by
  have h1 : Cell.okWide Tryd.prog W .any base t (.slice (some x) len cap) := by
    have h2 := hok
    unfold Value.okWide at h2
    rw [ht] at h2
    exact h2
  unfold Cell.okWide at h1
  rw [ht] at h1
  simp only [Cell.ok, ht, World.has] at h1
  exact h1.2.2.2.1
def av0 : Av := ⟨0, 0, 0, 0, ⟨#[]⟩, ⟨#[]⟩⟩
set_option maxRecDepth 100000 in
theorem open_acts {base : Nat} {v : Value} {d : DataW H} {p : List MemPlace} (hok : Value.okWide Tryd.prog W .any base 22 v) (h : ∃ fuel, DataW.trod enc Tryd.prog W 0 (fun _ => true) true fuel 22 v.cells.toList = some (d, p)) (hw : ∀ n ∈ d.weights Tryd.prog 22, n ≤ reachBytes) :
    ∃ (pu : Option Addr) (cu : Nat) (L : List Av), v = .slice pu L.length cu ∧ L.length ≤ 2305843009213693951 ∧ ActsAt W pu L ∧ ∀ o ∈ L, o.ok := by
  obtain ⟨a0, len0, cap0, rfl⟩ := okWide_slice Tryd.underlying22 hok
  obtain ⟨fuel, hf⟩ := h
  rcases open_slice Tryd.underlying22 hf with ⟨hcs, _⟩ | ⟨a, len, cap, m, n, D, Pl, hcs, hb, hl, hm, hmm, hx, hall⟩
  · simp [Value.cells] at hcs
    obtain ⟨rfl, rfl, rfl⟩ := hcs
    exact ⟨none, 0, [], rfl, Nat.zero_le _, fun k hk => by simp at hk, fun o ho => by cases ho⟩
  · simp [Value.cells] at hcs
    obtain ⟨rfl, rfl, rfl⟩ := hcs
    have hmm' : m = cap0 := by simpa using hmm
    have hspot := spot_none Tryd.underlying22 hok
    obtain ⟨b, off, sp⟩ := a
    simp only at hspot
    subst hspot
    have hd : d = .slice ((List.range len0).map D) ((List.range (m - len0)).map fun j => D (len0 + j)) := (Prod.mk.inj hx).1
    have hlen0 : len0 ≤ 2305843009213693951 := by
      have h5 := hw ((len0 + (m - len0)) * Tryd.prog.bytesOf 33) (by
        rw [hd]
        simp only [DataW.weights, Tryd.underlying22, List.mem_cons, List.length_map, List.length_range]
        exact .inl trivial)
      rw [bytes33] at h5
      have h6 : (len0 + (m - len0)) * 64 ≤ 140737488351232 := h5
      omega
    have hq : ∀ i, i < len0 → ∃ o : Av, W.rangeAt b (off + i * 6) o.vals ∧ o.ok := fun i hi => by
      obtain ⟨cs', h1, h2⟩ := hall i (by omega)
      obtain ⟨o, hX, hO⟩ := open_act h2 (fun n hn => hw n (by
        rw [hd]
        simp only [DataW.weights, Tryd.underlying22, List.mem_cons, List.mem_append]
        exact .inr (.inl (weights_all_mem (List.mem_map.2 ⟨i, List.mem_range.2 hi, rfl⟩) n hn))))
      refine ⟨o, fun j u hj => ?_, hO⟩
      rw [cells33] at h1
      obtain ⟨_, hlen, hc⟩ := World.cells?_some h1
      rw [← hX] at hj
      have hj' : j < 6 := by
        have := (List.getElem?_eq_some_iff.1 hj).1
        omega
      have h3 := hc j hj'
      rw [hj, add_add, Addr.add_mid] at h3
      rw [Nat.add_assoc]
      exact h3
    obtain ⟨X, hX⟩ := @choose_lt Av ⟨av0⟩ _ _ hq
    have hlen : ((List.range len0).map X).length = len0 := by simp
    refine ⟨some ⟨b, off, none⟩, cap0, (List.range len0).map X, by rw [hlen], by rw [hlen]; exact hlen0, fun k hk => ?_, fun o ho => ?_⟩
    · have hk' : k < len0 := by rw [hlen] at hk; exact hk
      refine ⟨b, off, rfl, ?_, ?_⟩
      · have := (hX k hk').1 0 _ rfl
        exact World.block_lt_of_cell? W _ this
      · have e : ((List.range len0).map X)[k] = X k := by simp
        rw [e]
        exact (hX k hk').1
    · obtain ⟨i, hi, rfl⟩ := List.mem_map.1 ho
      exact (hX i (List.mem_range.1 hi)).2
end
end Go.Proofs.YtgimeecklmmbjaaDoor
