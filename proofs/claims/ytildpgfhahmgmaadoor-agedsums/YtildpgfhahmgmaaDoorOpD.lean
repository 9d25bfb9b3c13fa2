/- A list of deals as an argument, opened. -/
import Derived.Test.YtildpgfhahmgmaaDoorDlC
import Derived.Test.YtildpgfhahmgmaaDoorOpQ
namespace Go.Proofs.YtildpgfhahmgmaaDoor
open Go Go.Shelf Go.ChangeShapes Go.WideShapes Go.ChangeAt Go.RowKit Go.Maps Go.Sort Go.Deep
set_option linter.unusedVariables false
theorem cells65 : Tryd.prog.cellsOf 65 = 5 := by kernel_rfl
theorem cells76 : Tryd.prog.cellsOf 76 = 2 := by kernel_rfl
theorem cells63 : Tryd.prog.cellsOf 63 = 1 := by kernel_rfl
theorem list5 {α : Type} {cs : List α} (h : cs.length = 5) : ∃ c0 c1 c2 c3 c4, cs = [c0, c1, c2, c3, c4] := by
  match cs, h with
  | [c0, c1, c2, c3, c4], _ => exact ⟨c0, c1, c2, c3, c4, rfl⟩
theorem list2 {α : Type} {cs : List α} (h : cs.length = 2) : ∃ c0 c1, cs = [c0, c1] := by
  match cs, h with
  | [c0, c1], _ => exact ⟨c0, c1, rfl⟩
section
variable {H : Type} {enc : TypeId × Value → H} {W : World}
theorem trod_two {P : Program} {w : World} {base : Nat} {spare : Nat → Bool} {held : Bool} {t : TypeId} {f0 f1 : Field} {fuel : Nat} {cs : List Value} {x : DataW H × List MemPlace} (ht : P.underlying t = some (.struct #[f0, f1])) (h : DataW.trod enc P w base spare held fuel t cs = some x) :
    ∃ (y0 y1 : DataW H × List MemPlace) (n : Nat), cs.length = P.cellsOf t ∧ DataW.trod enc P w base spare held n f0.type ((cs.drop f0.offset).take (P.cellsOf f0.type)) = some y0 ∧ DataW.trod enc P w base spare held n f1.type ((cs.drop f1.offset).take (P.cellsOf f1.type)) = some y1 := by
  obtain ⟨xs, n, _, rfl, hl, hlen, hf⟩ := DataW.trod_struct ht h
  match xs, hlen with
  | [y0, y1], _ => exact ⟨y0, y1, n, hl, by simpa using hf 0 f0 rfl, by simpa using hf 1 f1 rfl⟩
theorem trod_len {P : Program} {w : World} {base : Nat} {spare : Nat → Bool} {held : Bool} {t : TypeId} {fs : Array Field} {fuel : Nat} {cs : List Value} {x : DataW H × List MemPlace} (ht : P.underlying t = some (.struct fs)) (h : DataW.trod enc P w base spare held fuel t cs = some x) : cs.length = P.cellsOf t := by
  obtain ⟨xs, n, _, rfl, hl, hlen, hf⟩ := DataW.trod_struct ht h
  exact hl
theorem open_part {fuel : Nat} {cs : List Value} {x : DataW H × List MemPlace} (h : DataW.trod enc Tryd.prog W 0 (fun _ => true) true fuel 76 cs = some x) : ∃ q : Int × Int, cs = [.int .i64 q.1, .int .i64 q.2] := by
  obtain ⟨y0, y1, n, hl, g0, g1⟩ := trod_two Tryd.underlying76 h
  rw [cells76] at hl
  obtain ⟨c0, c1, rfl⟩ := list2 hl
  simp only [cells3, cells2, List.drop_zero, List.drop_succ_cons, List.take_succ_cons, List.take_zero] at g0 g1
  obtain ⟨n0, e0, _, _⟩ := DataW.trod_int Tryd.underlying3 g0
  obtain ⟨n1, e1, _, _⟩ := DataW.trod_int Tryd.underlying2 g1
  simp only [List.cons.injEq, and_true] at e0 e1
  exact ⟨(n0, n1), by rw [e0, e1]⟩
/-- the parts -/
theorem open_parts {fuel : Nat} {v : Value} {x : DataW H × List MemPlace} (h : DataW.trod enc Tryd.prog W 0 (fun _ => true) true fuel 63 [v] = some x) :
    ∃ (pp : Option Addr) (cp : Nat) (P : List (Int × Int)), v = .slice pp P.length cp ∧ P.length ≤ maxLen ∧ ∀ k (hk : k < P.length), ∃ b off, pp = some ⟨b, off, none⟩ ∧ b < W.heap.size ∧ W.rangeAt b (off + k * 2) [.int .i64 P[k].1, .int .i64 P[k].2] := by
  rcases open_slice Tryd.underlying63 h with ⟨hcs, _⟩ | ⟨a, len, cap, m, n, D, Pl, hcs, hb, hl, hm, hmm, hx, hall⟩
  · simp only [List.cons.injEq, and_true] at hcs
    exact ⟨none, 0, [], hcs, Nat.zero_le _, fun k hk => by simp at hk⟩
  · simp only [List.cons.injEq, and_true] at hcs
    have hq : ∀ i, i < len → ∃ q : Int × Int, W.cell? (a.add (i * 2 + 0)) = some (.int .i64 q.1) ∧ W.cell? (a.add (i * 2 + 1)) = some (.int .i64 q.2) := fun i hi => by
      obtain ⟨cs', h1, h2⟩ := hall i (by have : m = cap := by simpa using hmm
                                         omega)
      obtain ⟨q, hX⟩ := open_part h2
      rw [cells76] at h1
      obtain ⟨_, hlen, hc⟩ := World.cells?_some h1
      have g0 := hc 0 (by omega)
      have g1 := hc 1 (by omega)
      rw [hX, add_add] at g0 g1
      exact ⟨q, g0, g1⟩
    obtain ⟨X, hX⟩ := @choose_lt (Int × Int) ⟨(0, 0)⟩ _ _ hq
    have hlen : ((List.range len).map X).length = len := by simp
    refine ⟨some a, cap, (List.range len).map X, by rw [hlen]; exact hcs, by rw [hlen]; omega, fun k hk => ?_⟩
    have hk' : k < len := by rw [hlen] at hk; exact hk
    have e : ((List.range len).map X)[k] = X k := by simp
    obtain ⟨g0, g1⟩ := hX k hk'
    have hz := (hX 0 (by omega)).1
    have ha0 : a.add (0 * 2 + 0) = a := by simp [Addr.add]
    rw [ha0] at hz
    have hsp := World.cell?_spot hz
    obtain ⟨b, off, sp⟩ := a
    have hs2 : sp = none := hsp
    subst hs2
    refine ⟨b, off, rfl, (by have h9 := World.block_lt_of_cell? W _ g0; rw [Addr.add_mid] at h9; exact h9), fun j u hj => ?_⟩
    rw [e] at hj
    have hj2 : j < 2 := (List.getElem?_eq_some_iff.1 hj).1
    have : j = 0 ∨ j = 1 := by omega
    rcases this with rfl | rfl
    · rw [Addr.add_mid] at g0
      rw [Nat.add_assoc]
      simp only [List.getElem?_cons_zero, Option.some.injEq] at hj
      rw [← hj]
      exact g0
    · rw [Addr.add_mid] at g1
      rw [Nat.add_assoc]
      simp only [List.getElem?_cons_succ, List.getElem?_cons_zero, Option.some.injEq] at hj
      rw [← hj]
      exact g1
set_option maxRecDepth 100000 in
theorem open_deal {fuel : Nat} {cs : List Value} {x : DataW H × List MemPlace} (h : DataW.trod enc Tryd.prog W 0 (fun _ => true) true fuel 65 cs = some x) (hw : ∀ n ∈ x.1.weights Tryd.prog 65, n ≤ reachBytes) :
    ∃ d : Dl, cs = d.vals ∧ d.acc.size ≤ maxLen ∧ PtsIn W d ∧ d.np ≤ maxLen := by
  have hl := trod_len Tryd.underlying65 h
  obtain ⟨u0, u1, u2, u3, u4, m, hu, k0, k1, k2, k3, k4⟩ := trod_five Tryd.underlying65 h
  rw [cells65] at hl
  obtain ⟨c0, c1, c2, c3, c4, rfl⟩ := list5 hl
  simp only [cells3, cells9, cells2, cells63, List.drop_zero, List.drop_succ_cons, List.take_succ_cons, List.take_zero] at k0 k1 k2 k3 k4
  obtain ⟨s0, e0, x0, z0⟩ := DataW.trod_string Tryd.underlying9 k0
  obtain ⟨n1, e1, _, _⟩ := DataW.trod_int Tryd.underlying3 k1
  obtain ⟨n2, e2, _, _⟩ := DataW.trod_int Tryd.underlying3 k2
  obtain ⟨n3, e3, _, _⟩ := DataW.trod_int Tryd.underlying2 k3
  obtain ⟨pp, cp, P, e4, hP, hin⟩ := open_parts k4
  have q0 : ∀ m ∈ u0.1.weights Tryd.prog 9, m ≤ reachBytes := fun m hm => hw m (by
    rw [hu]
    simp only [DataW.weights, Tryd.underlying65]
    exact DataW.weights_mem_each (j := 0) (t := 9) rfl rfl m hm)
  simp only [List.cons.injEq, and_true] at e0 e1 e2 e3
  refine ⟨⟨s0, n1, n2, n3, pp, P.length, cp, P⟩, ?_, size_str (congrArg Prod.fst x0) q0, ⟨rfl, hin⟩, hP⟩
  rw [e0, e1, e2, e3, e4]
  rfl
set_option maxRecDepth 100000 in
theorem open_deals {base : Nat} {v : Value} {d : DataW H} {p : List MemPlace} (hok : Value.okWide Tryd.prog W .any base 22 v) (h : ∃ fuel, DataW.trod enc Tryd.prog W 0 (fun _ => true) true fuel 22 v.cells.toList = some (d, p)) (hw : ∀ n ∈ d.weights Tryd.prog 22, n ≤ reachBytes) :
    ∃ (pu : Option Addr) (cu : Nat) (L : List Dl), v = .slice pu L.length cu ∧ L.length ≤ maxLen ∧ DlsIn W pu L ∧ (∀ d ∈ L, d.acc.size ≤ maxLen) ∧ ∀ d ∈ L, PtsIn W d ∧ d.np ≤ maxLen := by
  obtain ⟨a0, len0, cap0, rfl⟩ := okWide_slice Tryd.underlying22 hok
  obtain ⟨fuel, hf⟩ := h
  rcases open_slice Tryd.underlying22 hf with ⟨hcs, _⟩ | ⟨a, len, cap, m, n, D, Pl, hcs, hb, hl, hm, hmm, hx, hall⟩
  · simp [Value.cells] at hcs
    obtain ⟨rfl, rfl, rfl⟩ := hcs
    exact ⟨none, 0, [], rfl, Nat.zero_le _, fun k hk => (by simp at hk), fun o ho => (by cases ho), fun o ho => (by cases ho)⟩
  · simp [Value.cells] at hcs
    obtain ⟨rfl, rfl, rfl⟩ := hcs
    have hmm' : m = cap0 := by simpa using hmm
    have hspot := spot_none Tryd.underlying22 hok
    obtain ⟨b, off, sp⟩ := a
    simp only at hspot
    subst hspot
    have hd : d = .slice ((List.range len0).map D) ((List.range (m - len0)).map fun j => D (len0 + j)) := (Prod.mk.inj hx).1
    have hq : ∀ i, i < len0 → ∃ o : Dl, W.rangeAt b (off + i * 5) o.vals ∧ o.acc.size ≤ maxLen ∧ PtsIn W o ∧ o.np ≤ maxLen := fun i hi => by
      obtain ⟨cs', h1, h2⟩ := hall i (by omega)
      obtain ⟨o, hX, hO⟩ := open_deal h2 (fun n hn => hw n (by
        rw [hd]
        simp only [DataW.weights, Tryd.underlying22, List.mem_cons, List.mem_append]
        exact .inr (.inl (weights_all_mem (List.mem_map.2 ⟨i, List.mem_range.2 hi, rfl⟩) n hn))))
      refine ⟨o, fun j u hj => ?_, hO⟩
      rw [cells65] at h1
      obtain ⟨_, hlen, hc⟩ := World.cells?_some h1
      rw [← hX] at hj
      have hj' : j < 5 := by
        have := (List.getElem?_eq_some_iff.1 hj).1
        omega
      have h3 := hc j hj'
      rw [hj, add_add, Addr.add_mid] at h3
      rw [Nat.add_assoc]
      exact h3
    obtain ⟨X, hX⟩ := @choose_lt Dl ⟨dl0⟩ _ _ hq
    have hlen : ((List.range len0).map X).length = len0 := by simp
    refine ⟨some ⟨b, off, none⟩, cap0, (List.range len0).map X, by rw [hlen], by rw [hlen]; omega, fun k hk => ?_, fun o ho => ?_, fun o ho => ?_⟩
    · have hk' : k < len0 := by rw [hlen] at hk; exact hk
      refine ⟨b, off, rfl, World.block_lt_of_cell? W _ ((hX k hk').1 0 _ rfl), ?_⟩
      have e : ((List.range len0).map X)[k] = X k := by simp
      rw [e]
      exact (hX k hk').1
    · obtain ⟨i, hi, rfl⟩ := List.mem_map.1 ho
      exact (hX i (List.mem_range.1 hi)).2.1
    · obtain ⟨i, hi, rfl⟩ := List.mem_map.1 ho
      exact (hX i (List.mem_range.1 hi)).2.2
end
end Go.Proofs.YtildpgfhahmgmaaDoor
