import Derived.Test.YtfclknlpdcanpaaGreatDoorW34
import Derived.Deep.Slices
import Derived.SizedLaws
import Derived.Test.YtfclknlpdcanpaaGreatDoorW26
import Derived.Laws.StructEq
/- A list of acts as an argument, opened, with the lists in it. By tools/genopg.py. -/
namespace Go.Proofs.YtfclknlpdcanpaaGreatDoor.Kg
open Go Go.Shelf Go.ChangeShapes Go.WideShapes Go.ChangeAt Go.RowKit Go.Maps Go.Sort Go.Deep
set_option linter.unusedVariables false
/-- an act -/
structure OpV where
  view : Int
  kind : Int
  day : Int
  c : Cl
  a : Al
  acct : ByteArray
  pC : Option Addr
  cC : Nat
  C : List Cl
  pA : Option Addr
  cA : Nat
  A : List Al
def OpV.arr (o : OpV) : Array Value := #[.int .i64 o.view, .int .i64 o.kind, .int .i64 o.day, .string o.c.key, .string o.c.acc, .int .i64 o.c.day, .int .i64 o.c.due, .int .i64 o.c.amt, .string o.a.pay, .string o.a.inv, .int .i64 o.a.day, .int .i64 o.a.amt, .string o.acct, .slice o.pC o.C.length o.cC, .slice o.pA o.A.length o.cA]
structure OpOk (o : OpV) : Prop where
  k : o.c.key.size ≤ maxLen
  a : o.c.acc.size ≤ maxLen
  i : o.a.inv.size ≤ maxLen
  n : o.acct.size ≤ maxLen
  m : o.c.amt ≤ 9223372036854775807
  nC : o.pC = none → o.cC = 0
  nA : o.pA = none → o.cA = 0
  bC : o.C.length ≤ 2513169434843
  bA : o.A.length ≤ 2932031007317
  wC : ∀ c ∈ o.C, (c.key.size ≤ maxLen ∧ c.acc.size ≤ maxLen) ∧ c.amt ≤ 9223372036854775807
  wA : ∀ a ∈ o.A, a.inv.size ≤ maxLen
structure OpIn (W : World) (o : OpV) : Prop where
  lC : Lies kC W o.pC o.C
  lA : Lies kA W o.pA o.A
def OpsIn (W : World) (p : Option Addr) (L : List OpV) : Prop := ∀ k (hk : k < L.length), ∃ b off, p = some ⟨b, off, none⟩ ∧ b < W.heap.size ∧ W.rangeAt b (off + k * 15) L[k].arr.toList
theorem cells62 : Tryz.prog.cellsOf 62 = 15 := by kernel_rfl
theorem cells56 : Tryz.prog.cellsOf 56 = 5 := by kernel_rfl
theorem cells58 : Tryz.prog.cellsOf 58 = 4 := by kernel_rfl
theorem cells2 : Tryz.prog.cellsOf 2 = 1 := by kernel_rfl
theorem cells3 : Tryz.prog.cellsOf 3 = 1 := by kernel_rfl
theorem cells9 : Tryz.prog.cellsOf 9 = 1 := by kernel_rfl
theorem cells59 : Tryz.prog.cellsOf 59 = 1 := by kernel_rfl
theorem cells60 : Tryz.prog.cellsOf 60 = 1 := by kernel_rfl
theorem bytes56 : Tryz.prog.bytesOf 56 = 56 := by kernel_rfl
theorem bytes58 : Tryz.prog.bytesOf 58 = 48 := by kernel_rfl
theorem list15 {α : Type} {cs : List α} (h : cs.length = 15) : ∃ c0 c1 c2 c3 c4 c5 c6 c7 c8 c9 c10 c11 c12 c13 c14, cs = [c0, c1, c2, c3, c4, c5, c6, c7, c8, c9, c10, c11, c12, c13, c14] := by
  match cs, h with
  | [c0, c1, c2, c3, c4, c5, c6, c7, c8, c9, c10, c11, c12, c13, c14], _ => exact ⟨c0, c1, c2, c3, c4, c5, c6, c7, c8, c9, c10, c11, c12, c13, c14, rfl⟩
theorem list5 {α : Type} {cs : List α} (h : cs.length = 5) : ∃ c0 c1 c2 c3 c4, cs = [c0, c1, c2, c3, c4] := by
  match cs, h with
  | [c0, c1, c2, c3, c4], _ => exact ⟨c0, c1, c2, c3, c4, rfl⟩
theorem list4 {α : Type} {cs : List α} (h : cs.length = 4) : ∃ c0 c1 c2 c3, cs = [c0, c1, c2, c3] := by
  match cs, h with
  | [c0, c1, c2, c3], _ => exact ⟨c0, c1, c2, c3, rfl⟩
theorem weights_all_mem {H : Type} {P : Program} {e : TypeId} {d : DataW H} : ∀ {l : List (DataW H)}, d ∈ l → ∀ n ∈ d.weights P e, n ∈ DataW.weightsAll P e l
  | [], h, _, _ => by cases h
  | x :: r, h, n, hn => by
    simp only [DataW.weightsAll, List.mem_append]
    rcases List.mem_cons.1 h with rfl | h
    · exact .inl hn
    · exact .inr (weights_all_mem h n hn)
section
variable {H : Type} {enc : TypeId × Value → H} {W : World}
theorem trod_struct8 {P : Program} {w : World} {base : Nat} {spare : Nat → Bool} {held : Bool} {t : TypeId} {f0 f1 f2 f3 f4 f5 f6 f7 : Field} {fuel : Nat} {cs : List Value} {x : DataW H × List MemPlace} (ht : P.underlying t = some (.struct #[f0, f1, f2, f3, f4, f5, f6, f7])) (h : DataW.trod enc P w base spare held fuel t cs = some x) :
    ∃ (y0 y1 y2 y3 y4 y5 y6 y7 : DataW H × List MemPlace) (n : Nat), x.1 = .agg [y0.1, y1.1, y2.1, y3.1, y4.1, y5.1, y6.1, y7.1] ∧ cs.length = P.cellsOf t ∧
      DataW.trod enc P w base spare held n f0.type ((cs.drop f0.offset).take (P.cellsOf f0.type)) = some y0 ∧
      DataW.trod enc P w base spare held n f1.type ((cs.drop f1.offset).take (P.cellsOf f1.type)) = some y1 ∧
      DataW.trod enc P w base spare held n f2.type ((cs.drop f2.offset).take (P.cellsOf f2.type)) = some y2 ∧
      DataW.trod enc P w base spare held n f3.type ((cs.drop f3.offset).take (P.cellsOf f3.type)) = some y3 ∧
      DataW.trod enc P w base spare held n f4.type ((cs.drop f4.offset).take (P.cellsOf f4.type)) = some y4 ∧
      DataW.trod enc P w base spare held n f5.type ((cs.drop f5.offset).take (P.cellsOf f5.type)) = some y5 ∧
      DataW.trod enc P w base spare held n f6.type ((cs.drop f6.offset).take (P.cellsOf f6.type)) = some y6 ∧
      DataW.trod enc P w base spare held n f7.type ((cs.drop f7.offset).take (P.cellsOf f7.type)) = some y7 := by
  obtain ⟨xs, n, _, rfl, hl, hlen, hf⟩ := DataW.trod_struct ht h
  match xs, hlen with
  | [y0, y1, y2, y3, y4, y5, y6, y7], _ => exact ⟨y0, y1, y2, y3, y4, y5, y6, y7, n, by simp, hl, by simpa using hf 0 f0 rfl, by simpa using hf 1 f1 rfl, by simpa using hf 2 f2 rfl, by simpa using hf 3 f3 rfl, by simpa using hf 4 f4 rfl, by simpa using hf 5 f5 rfl, by simpa using hf 6 f6 rfl, by simpa using hf 7 f7 rfl⟩
theorem trod_five {P : Program} {w : World} {base : Nat} {spare : Nat → Bool} {held : Bool} {t : TypeId} {f0 f1 f2 f3 f4 : Field} {fuel : Nat} {cs : List Value} {x : DataW H × List MemPlace} (ht : P.underlying t = some (.struct #[f0, f1, f2, f3, f4])) (h : DataW.trod enc P w base spare held fuel t cs = some x) :
    ∃ (y0 y1 y2 y3 y4 : DataW H × List MemPlace) (n : Nat), x.1 = .agg [y0.1, y1.1, y2.1, y3.1, y4.1] ∧ DataW.trod enc P w base spare held n f0.type ((cs.drop f0.offset).take (P.cellsOf f0.type)) = some y0 ∧
      DataW.trod enc P w base spare held n f1.type ((cs.drop f1.offset).take (P.cellsOf f1.type)) = some y1 ∧ DataW.trod enc P w base spare held n f2.type ((cs.drop f2.offset).take (P.cellsOf f2.type)) = some y2 ∧
      DataW.trod enc P w base spare held n f3.type ((cs.drop f3.offset).take (P.cellsOf f3.type)) = some y3 ∧ DataW.trod enc P w base spare held n f4.type ((cs.drop f4.offset).take (P.cellsOf f4.type)) = some y4 := by
  obtain ⟨xs, n, _, rfl, hl, hlen, hf⟩ := DataW.trod_struct ht h
  match xs, hlen with
  | [y0, y1, y2, y3, y4], _ => exact ⟨y0, y1, y2, y3, y4, n, by simp, by simpa using hf 0 f0 rfl, by simpa using hf 1 f1 rfl, by simpa using hf 2 f2 rfl, by simpa using hf 3 f3 rfl, by simpa using hf 4 f4 rfl⟩
theorem trod_four {P : Program} {w : World} {base : Nat} {spare : Nat → Bool} {held : Bool} {t : TypeId} {f0 f1 f2 f3 : Field} {fuel : Nat} {cs : List Value} {x : DataW H × List MemPlace} (ht : P.underlying t = some (.struct #[f0, f1, f2, f3])) (h : DataW.trod enc P w base spare held fuel t cs = some x) :
    ∃ (y0 y1 y2 y3 : DataW H × List MemPlace) (n : Nat), x.1 = .agg [y0.1, y1.1, y2.1, y3.1] ∧ DataW.trod enc P w base spare held n f0.type ((cs.drop f0.offset).take (P.cellsOf f0.type)) = some y0 ∧
      DataW.trod enc P w base spare held n f1.type ((cs.drop f1.offset).take (P.cellsOf f1.type)) = some y1 ∧ DataW.trod enc P w base spare held n f2.type ((cs.drop f2.offset).take (P.cellsOf f2.type)) = some y2 ∧
      DataW.trod enc P w base spare held n f3.type ((cs.drop f3.offset).take (P.cellsOf f3.type)) = some y3 := by
  obtain ⟨xs, n, _, rfl, hl, hlen, hf⟩ := DataW.trod_struct ht h
  match xs, hlen with
  | [y0, y1, y2, y3], _ => exact ⟨y0, y1, y2, y3, n, by simp, by simpa using hf 0 f0 rfl, by simpa using hf 1 f1 rfl, by simpa using hf 2 f2 rfl, by simpa using hf 3 f3 rfl⟩
theorem trod_len {P : Program} {w : World} {base : Nat} {spare : Nat → Bool} {held : Bool} {t : TypeId} {fs : Array Field} {fuel : Nat} {cs : List Value} {x : DataW H × List MemPlace} (ht : P.underlying t = some (.struct fs)) (h : DataW.trod enc P w base spare held fuel t cs = some x) : cs.length = P.cellsOf t := by
  obtain ⟨xs, n, _, rfl, hl, hlen, hf⟩ := DataW.trod_struct ht h
  exact hl
theorem size_str {s : ByteArray} {y : DataW H} (e : y = .lit (.string s.data.toList)) (hw : ∀ m ∈ y.weights Tryz.prog 9, m ≤ reachBytes) : s.size ≤ maxLen :=
  Nat.le_trans (hw s.size (by rw [e]; simp [DataW.weights])) (by decide)
theorem int_le {n : Int} {h : Bool} (hb : (Lit.int .i64 n).wf = h) (ht : h = true) : n ≤ 9223372036854775807 := by
  rw [ht] at hb
  simp [Lit.wf, IntKind.min, IntKind.max, IntKind.signed, IntKind.bits] at hb
  omega
set_option maxRecDepth 100000 in
theorem openCl {fuel : Nat} {cs : List Value} {x : DataW H × List MemPlace} (h : DataW.trod enc Tryz.prog W 0 (fun _ => true) true fuel 56 cs = some x) (hw : ∀ n ∈ x.1.weights Tryz.prog 56, n ≤ reachBytes) :
    ∃ x : Cl, cs = x.vals ∧ (x.key.size ≤ maxLen ∧ x.acc.size ≤ maxLen) ∧ x.amt ≤ 9223372036854775807 := by
  have hl := trod_len Tryz.underlying56 h
  obtain ⟨u0, u1, u2, u3, u4, m, hu, k0, k1, k2, k3, k4⟩ := trod_five Tryz.underlying56 h
  rw [cells56] at hl
  obtain ⟨c0, c1, c2, c3, c4, rfl⟩ := list5 hl
  simp only [cells3, cells9, cells2, List.drop_zero, List.drop_succ_cons, List.take_succ_cons, List.take_zero] at k0 k1 k2 k3 k4
  obtain ⟨s0, e0, x0, z0⟩ := DataW.trod_string Tryz.underlying9 k0
  obtain ⟨s1, e1, x1, z1⟩ := DataW.trod_string Tryz.underlying9 k1
  obtain ⟨n2, e2, hh2, hb2⟩ := DataW.trod_int Tryz.underlying3 k2
  obtain ⟨n3, e3, hh3, hb3⟩ := DataW.trod_int Tryz.underlying3 k3
  obtain ⟨n4, e4, hh4, hb4⟩ := DataW.trod_int Tryz.underlying2 k4
  have q0 : ∀ m ∈ u0.1.weights Tryz.prog 9, m ≤ reachBytes := fun m hm => hw m (by
    rw [hu]
    simp only [DataW.weights, Tryz.underlying56]
    exact DataW.weights_mem_each (j := 0) (t := 9) rfl rfl m hm)
  have q1 : ∀ m ∈ u1.1.weights Tryz.prog 9, m ≤ reachBytes := fun m hm => hw m (by
    rw [hu]
    simp only [DataW.weights, Tryz.underlying56]
    exact DataW.weights_mem_each (j := 1) (t := 9) rfl rfl m hm)
  simp only [List.cons.injEq, and_true] at e0 e1 e2 e3 e4
  refine ⟨⟨s0, s1, n2, n3, n4⟩, ?_, ⟨size_str (congrArg Prod.fst x0) q0, size_str (congrArg Prod.fst x1) q1⟩, ?_⟩
  · rw [e0, e1, e2, e3, e4]
    rfl
  · show n4 ≤ 9223372036854775807
    simp [Lit.wf, IntKind.min, IntKind.max, IntKind.signed, IntKind.bits] at hb4
    omega
set_option maxRecDepth 100000 in
theorem opensCl {fuel : Nat} {v : Value} {x : DataW H × List MemPlace} (h : DataW.trod enc Tryz.prog W 0 (fun _ => true) true fuel 59 [v] = some x) (hw : ∀ n ∈ x.1.weights Tryz.prog 59, n ≤ reachBytes) :
    ∃ (p : Option Addr) (c : Nat) (l : List Cl), v = .slice p l.length c ∧ (p = none → c = 0) ∧ Lies kC W p l ∧ l.length ≤ 2513169434843 ∧ ∀ x ∈ l, (x.key.size ≤ maxLen ∧ x.acc.size ≤ maxLen) ∧ x.amt ≤ 9223372036854775807 := by
  rcases open_slice Tryz.underlying59 h with ⟨hcs, _⟩ | ⟨a, len, cap, m, n, D, Pl, hcs, hb, hl, hm, hmm, hx, hall⟩
  · simp only [List.cons.injEq, and_true] at hcs
    exact ⟨none, 0, [], hcs, fun _ => rfl, Lies.nil _ _, by simp, fun f hf => (by cases hf)⟩
  · simp only [List.cons.injEq, and_true] at hcs
    have hmm' : m = cap := by simpa using hmm
    have hd : x.1 = .slice ((List.range len).map D) ((List.range (m - len)).map fun j => D (len + j)) := (Prod.mk.inj hx).1
    have hq : ∀ i, i < len → ∃ x : Cl, (∀ j u, x.vals[j]? = some u → W.cell? (a.add (i * 5 + j)) = some u) ∧ (x.key.size ≤ maxLen ∧ x.acc.size ≤ maxLen) ∧ x.amt ≤ 9223372036854775807 := fun i hi => by
      obtain ⟨cs', h1, h2⟩ := hall i (by omega)
      obtain ⟨x, hX, hO⟩ := openCl h2 (fun n hn => hw n (by
        rw [hd]
        simp only [DataW.weights, Tryz.underlying59, List.mem_cons, List.mem_append]
        exact .inr (.inl (weights_all_mem (List.mem_map.2 ⟨i, List.mem_range.2 hi, rfl⟩) n hn))))
      refine ⟨x, fun j u hj => ?_, hO⟩
      rw [cells56] at h1
      obtain ⟨_, hlen, hc⟩ := World.cells?_some h1
      have hj' : j < 5 := (List.getElem?_eq_some_iff.1 hj).1
      have h6 := hc j hj'
      rw [hX, hj, add_add] at h6
      exact h6
    obtain ⟨X, hX⟩ := @choose_lt Cl ⟨⟨⟨#[]⟩, ⟨#[]⟩, 0, 0, 0⟩⟩ _ _ hq
    have hln : ((List.range len).map X).length = len := by simp
    refine ⟨some a, cap, (List.range len).map X, by rw [hln]; exact hcs, fun e => (by cases e), ⟨fun e => (by cases e), fun k hk => ?_⟩, ?_, fun f hf => ?_⟩
    · have hk' : k < len := by rw [hln] at hk; exact hk
      have e : ((List.range len).map X)[k] = X k := by simp
      have hz := (hX 0 (by omega)).1 0 _ rfl
      have ha0 : a.add (0 * 5 + 0) = a := by simp [Addr.add]
      rw [ha0] at hz
      have hsp := World.cell?_spot hz
      obtain ⟨b, off, sp⟩ := a
      have hs2 : sp = none := hsp
      subst hs2
      have hc := (hX k hk').1
      refine ⟨b, off, rfl, (by have h9 := World.block_lt_of_cell? W _ (hc 0 _ rfl); rw [Addr.add_mid] at h9; exact h9), fun j u hj => ?_⟩
      rw [e] at hj
      have h3 := hc j u hj
      rw [Addr.add_mid, ← Nat.add_assoc] at h3
      exact h3
    · rw [hln]
      have h1 := hw (((List.range len).map D).length * Tryz.prog.bytesOf 56 + ((List.range (m - len)).map fun j => D (len + j)).length * Tryz.prog.bytesOf 56) (by
        rw [hd]
        simp [DataW.weights, Tryz.underlying59, Nat.add_mul])
      rw [bytes56] at h1
      simp only [List.length_map, List.length_range, reachBytes] at h1
      omega
    · obtain ⟨i, hi, rfl⟩ := List.mem_map.1 hf
      exact (hX i (List.mem_range.1 hi)).2
set_option maxRecDepth 100000 in
theorem openAl {fuel : Nat} {cs : List Value} {x : DataW H × List MemPlace} (h : DataW.trod enc Tryz.prog W 0 (fun _ => true) true fuel 58 cs = some x) (hw : ∀ n ∈ x.1.weights Tryz.prog 58, n ≤ reachBytes) :
    ∃ x : Al, cs = x.vals ∧ x.inv.size ≤ maxLen := by
  have hl := trod_len Tryz.underlying58 h
  obtain ⟨u0, u1, u2, u3, m, hu, k0, k1, k2, k3⟩ := trod_four Tryz.underlying58 h
  rw [cells58] at hl
  obtain ⟨c0, c1, c2, c3, rfl⟩ := list4 hl
  simp only [cells3, cells9, cells2, List.drop_zero, List.drop_succ_cons, List.take_succ_cons, List.take_zero] at k0 k1 k2 k3
  obtain ⟨s0, e0, x0, z0⟩ := DataW.trod_string Tryz.underlying9 k0
  obtain ⟨s1, e1, x1, z1⟩ := DataW.trod_string Tryz.underlying9 k1
  obtain ⟨n2, e2, hh2, hb2⟩ := DataW.trod_int Tryz.underlying3 k2
  obtain ⟨n3, e3, hh3, hb3⟩ := DataW.trod_int Tryz.underlying2 k3
  have q1 : ∀ m ∈ u1.1.weights Tryz.prog 9, m ≤ reachBytes := fun m hm => hw m (by
    rw [hu]
    simp only [DataW.weights, Tryz.underlying58]
    exact DataW.weights_mem_each (j := 1) (t := 9) rfl rfl m hm)
  simp only [List.cons.injEq, and_true] at e0 e1 e2 e3
  refine ⟨⟨s0, s1, n2, n3⟩, ?_, size_str (congrArg Prod.fst x1) q1⟩
  rw [e0, e1, e2, e3]
  rfl
set_option maxRecDepth 100000 in
theorem opensAl {fuel : Nat} {v : Value} {x : DataW H × List MemPlace} (h : DataW.trod enc Tryz.prog W 0 (fun _ => true) true fuel 60 [v] = some x) (hw : ∀ n ∈ x.1.weights Tryz.prog 60, n ≤ reachBytes) :
    ∃ (p : Option Addr) (c : Nat) (l : List Al), v = .slice p l.length c ∧ (p = none → c = 0) ∧ Lies kA W p l ∧ l.length ≤ 2932031007317 ∧ ∀ x ∈ l, x.inv.size ≤ maxLen := by
  rcases open_slice Tryz.underlying60 h with ⟨hcs, _⟩ | ⟨a, len, cap, m, n, D, Pl, hcs, hb, hl, hm, hmm, hx, hall⟩
  · simp only [List.cons.injEq, and_true] at hcs
    exact ⟨none, 0, [], hcs, fun _ => rfl, Lies.nil _ _, by simp, fun f hf => (by cases hf)⟩
  · simp only [List.cons.injEq, and_true] at hcs
    have hmm' : m = cap := by simpa using hmm
    have hd : x.1 = .slice ((List.range len).map D) ((List.range (m - len)).map fun j => D (len + j)) := (Prod.mk.inj hx).1
    have hq : ∀ i, i < len → ∃ x : Al, (∀ j u, x.vals[j]? = some u → W.cell? (a.add (i * 4 + j)) = some u) ∧ x.inv.size ≤ maxLen := fun i hi => by
      obtain ⟨cs', h1, h2⟩ := hall i (by omega)
      obtain ⟨x, hX, hO⟩ := openAl h2 (fun n hn => hw n (by
        rw [hd]
        simp only [DataW.weights, Tryz.underlying60, List.mem_cons, List.mem_append]
        exact .inr (.inl (weights_all_mem (List.mem_map.2 ⟨i, List.mem_range.2 hi, rfl⟩) n hn))))
      refine ⟨x, fun j u hj => ?_, hO⟩
      rw [cells58] at h1
      obtain ⟨_, hlen, hc⟩ := World.cells?_some h1
      have hj' : j < 4 := (List.getElem?_eq_some_iff.1 hj).1
      have h6 := hc j hj'
      rw [hX, hj, add_add] at h6
      exact h6
    obtain ⟨X, hX⟩ := @choose_lt Al ⟨⟨⟨#[]⟩, ⟨#[]⟩, 0, 0⟩⟩ _ _ hq
    have hln : ((List.range len).map X).length = len := by simp
    refine ⟨some a, cap, (List.range len).map X, by rw [hln]; exact hcs, fun e => (by cases e), ⟨fun e => (by cases e), fun k hk => ?_⟩, ?_, fun f hf => ?_⟩
    · have hk' : k < len := by rw [hln] at hk; exact hk
      have e : ((List.range len).map X)[k] = X k := by simp
      have hz := (hX 0 (by omega)).1 0 _ rfl
      have ha0 : a.add (0 * 4 + 0) = a := by simp [Addr.add]
      rw [ha0] at hz
      have hsp := World.cell?_spot hz
      obtain ⟨b, off, sp⟩ := a
      have hs2 : sp = none := hsp
      subst hs2
      have hc := (hX k hk').1
      refine ⟨b, off, rfl, (by have h9 := World.block_lt_of_cell? W _ (hc 0 _ rfl); rw [Addr.add_mid] at h9; exact h9), fun j u hj => ?_⟩
      rw [e] at hj
      have h3 := hc j u hj
      rw [Addr.add_mid, ← Nat.add_assoc] at h3
      exact h3
    · rw [hln]
      have h1 := hw (((List.range len).map D).length * Tryz.prog.bytesOf 58 + ((List.range (m - len)).map fun j => D (len + j)).length * Tryz.prog.bytesOf 58) (by
        rw [hd]
        simp [DataW.weights, Tryz.underlying60, Nat.add_mul])
      rw [bytes58] at h1
      simp only [List.length_map, List.length_range, reachBytes] at h1
      omega
    · obtain ⟨i, hi, rfl⟩ := List.mem_map.1 hf
      exact (hX i (List.mem_range.1 hi)).2
set_option maxRecDepth 100000 in
theorem open_op {fuel : Nat} {cs : List Value} {x : DataW H × List MemPlace} (h : DataW.trod enc Tryz.prog W 0 (fun _ => true) true fuel 62 cs = some x) (hw : ∀ n ∈ x.1.weights Tryz.prog 62, n ≤ reachBytes) :
    ∃ o : OpV, cs = o.arr.toList ∧ OpOk o ∧ OpIn W o := by
  obtain ⟨y0, y1, y2, y3, y4, y5, y6, y7, n, hx, hl, g0, g1, g2, g3, g4, g5, g6, g7⟩ := trod_struct8 Tryz.underlying62 h
  rw [cells62] at hl
  obtain ⟨c0, c1, c2, c3, c4, c5, c6, c7, c8, c9, c10, c11, c12, c13, c14, rfl⟩ := list15 hl
  clear h hl
  simp only [cells3, cells9, cells56, cells58, cells59, cells60, List.drop_zero, List.drop_succ_cons, List.take_succ_cons, List.take_zero] at g0 g1 g2 g3 g4 g5 g6 g7
  obtain ⟨n0, e0, _, _⟩ := DataW.trod_int Tryz.underlying3 g0
  obtain ⟨n1, e1, _, _⟩ := DataW.trod_int Tryz.underlying3 g1
  obtain ⟨n2, e2, _, _⟩ := DataW.trod_int Tryz.underlying3 g2
  obtain ⟨s12, e12, x12, z12⟩ := DataW.trod_string Tryz.underlying9 g5
  have w3 : ∀ m ∈ y3.1.weights Tryz.prog 56, m ≤ reachBytes := fun m hm => hw m (by
    rw [hx]
    simp only [DataW.weights, Tryz.underlying62]
    exact DataW.weights_mem_each (j := 3) (t := 56) rfl rfl m hm)
  have w4 : ∀ m ∈ y4.1.weights Tryz.prog 58, m ≤ reachBytes := fun m hm => hw m (by
    rw [hx]
    simp only [DataW.weights, Tryz.underlying62]
    exact DataW.weights_mem_each (j := 4) (t := 58) rfl rfl m hm)
  have w5 : ∀ m ∈ y5.1.weights Tryz.prog 9, m ≤ reachBytes := fun m hm => hw m (by
    rw [hx]
    simp only [DataW.weights, Tryz.underlying62]
    exact DataW.weights_mem_each (j := 5) (t := 9) rfl rfl m hm)
  obtain ⟨u0, u1, u2, u3, u4, m, hu, k0, k1, k2, k3, k4⟩ := trod_five Tryz.underlying56 g3
  obtain ⟨v0, v1, v2, v3, m', hv, l0, l1, l2, l3⟩ := trod_four Tryz.underlying58 g4
  simp only [cells3, cells9, cells2, List.drop_zero, List.drop_succ_cons, List.take_succ_cons, List.take_zero] at k0 k1 k2 k3 k4 l0 l1 l2 l3
  obtain ⟨s3, e3, x3, z3⟩ := DataW.trod_string Tryz.underlying9 k0
  obtain ⟨s4, e4, x4, z4⟩ := DataW.trod_string Tryz.underlying9 k1
  obtain ⟨n5, e5, _, _⟩ := DataW.trod_int Tryz.underlying3 k2
  obtain ⟨n6, e6, _, _⟩ := DataW.trod_int Tryz.underlying3 k3
  obtain ⟨n7, e7, hh7, hb7⟩ := DataW.trod_int Tryz.underlying2 k4
  obtain ⟨s8, e8, x8, z8⟩ := DataW.trod_string Tryz.underlying9 l0
  obtain ⟨s9, e9, x9, z9⟩ := DataW.trod_string Tryz.underlying9 l1
  obtain ⟨n10, e10, _, _⟩ := DataW.trod_int Tryz.underlying3 l2
  obtain ⟨n11, e11, _, _⟩ := DataW.trod_int Tryz.underlying2 l3
  have q0 : ∀ m ∈ u0.1.weights Tryz.prog 9, m ≤ reachBytes := fun m hm => w3 m (by
    rw [hu]
    simp only [DataW.weights, Tryz.underlying56]
    exact DataW.weights_mem_each (j := 0) (t := 9) rfl rfl m hm)
  have q1 : ∀ m ∈ u1.1.weights Tryz.prog 9, m ≤ reachBytes := fun m hm => w3 m (by
    rw [hu]
    simp only [DataW.weights, Tryz.underlying56]
    exact DataW.weights_mem_each (j := 1) (t := 9) rfl rfl m hm)
  have q2 : ∀ m ∈ v1.1.weights Tryz.prog 9, m ≤ reachBytes := fun m hm => w4 m (by
    rw [hv]
    simp only [DataW.weights, Tryz.underlying58]
    exact DataW.weights_mem_each (j := 1) (t := 9) rfl rfl m hm)
  have w6 : ∀ m ∈ y6.1.weights Tryz.prog 59, m ≤ reachBytes := fun m hm => hw m (by
    rw [hx]
    simp only [DataW.weights, Tryz.underlying62]
    exact DataW.weights_mem_each (j := 6) (t := 59) rfl rfl m hm)
  have w7 : ∀ m ∈ y7.1.weights Tryz.prog 60, m ≤ reachBytes := fun m hm => hw m (by
    rw [hx]
    simp only [DataW.weights, Tryz.underlying62]
    exact DataW.weights_mem_each (j := 7) (t := 60) rfl rfl m hm)
  obtain ⟨r1, t1, lC, e13, nC, hC, bC, okC⟩ := opensCl g6 w6
  obtain ⟨r2, t2, lA, e14, nA, hA, bA, okA⟩ := opensAl g7 w7
  simp only [List.cons.injEq, and_true] at e0 e1 e2 e3 e4 e5 e6 e7 e8 e9 e10 e11 e12
  refine ⟨⟨n0, n1, n2, ⟨s3, s4, n5, n6, n7⟩, ⟨s8, s9, n10, n11⟩, s12, r1, t1, lC, r2, t2, lA⟩, ?_, ⟨size_str (congrArg Prod.fst x3) q0, size_str (congrArg Prod.fst x4) q1, size_str (congrArg Prod.fst x9) q2, size_str (congrArg Prod.fst x12) w5, ?_, nC, nA, bC, bA, okC, okA⟩, ⟨hC, hA⟩⟩
  · rw [e0, e1, e2, e3, e4, e5, e6, e7, e8, e9, e10, e11, e12, e13, e14]
    rfl
  · show n7 ≤ 9223372036854775807
    simp [Lit.wf, IntKind.min, IntKind.max, IntKind.signed, IntKind.bits] at hb7
    omega
set_option maxRecDepth 100000 in
theorem spot_none {base t e : Nat} {x : Addr} {len cap : Nat} (ht : Tryz.prog.underlying t = some (.slice e)) (hok : Value.okWide Tryz.prog W .any base t (.slice (some x) len cap)) : x.spot = none := by
  have h1 : Cell.okWide Tryz.prog W .any base t (.slice (some x) len cap) := by
    have h2 := hok
    unfold Value.okWide at h2
    rw [ht] at h2
    exact h2
  unfold Cell.okWide at h1
  rw [ht] at h1
  simp only [Cell.ok, ht, World.has] at h1
  exact h1.2.2.2.1
def opV0 : OpV := ⟨0, 0, 0, ⟨⟨#[]⟩, ⟨#[]⟩, 0, 0, 0⟩, ⟨⟨#[]⟩, ⟨#[]⟩, 0, 0⟩, ⟨#[]⟩, none, 0, [], none, 0, []⟩
set_option maxRecDepth 100000 in
theorem open_ops {base : Nat} {v : Value} {d : DataW H} {p : List MemPlace} (hok : Value.okWide Tryz.prog W .any base 22 v) (h : ∃ fuel, DataW.trod enc Tryz.prog W 0 (fun _ => true) true fuel 22 v.cells.toList = some (d, p)) (hw : ∀ n ∈ d.weights Tryz.prog 22, n ≤ reachBytes) :
    ∃ (pu : Option Addr) (cu : Nat) (L : List OpV), v = .slice pu L.length cu ∧ L.length ≤ maxLen ∧ OpsIn W pu L ∧ ∀ o ∈ L, OpOk o ∧ OpIn W o := by
  obtain ⟨a0, len0, cap0, rfl⟩ := okWide_slice Tryz.underlying22 hok
  obtain ⟨fuel, hf⟩ := h
  rcases open_slice Tryz.underlying22 hf with ⟨hcs, _⟩ | ⟨a, len, cap, m, n, D, Pl, hcs, hb, hl, hm, hmm, hx, hall⟩
  · simp [Value.cells] at hcs
    obtain ⟨rfl, rfl, rfl⟩ := hcs
    exact ⟨none, 0, [], rfl, Nat.zero_le _, fun k hk => by simp at hk, fun o ho => by cases ho⟩
  · simp [Value.cells] at hcs
    obtain ⟨rfl, rfl, rfl⟩ := hcs
    have hmm' : m = cap0 := by simpa using hmm
    have hspot := spot_none Tryz.underlying22 hok
    obtain ⟨b, off, sp⟩ := a
    simp only at hspot
    subst hspot
    have hd : d = .slice ((List.range len0).map D) ((List.range (m - len0)).map fun j => D (len0 + j)) := (Prod.mk.inj hx).1
    have hq : ∀ i, i < len0 → ∃ o : OpV, W.rangeAt b (off + i * 15) o.arr.toList ∧ OpOk o ∧ OpIn W o := fun i hi => by
      obtain ⟨cs', h1, h2⟩ := hall i (by omega)
      obtain ⟨o, hX, hO⟩ := open_op h2 (fun n hn => hw n (by
        rw [hd]
        simp only [DataW.weights, Tryz.underlying22, List.mem_cons, List.mem_append]
        exact .inr (.inl (weights_all_mem (List.mem_map.2 ⟨i, List.mem_range.2 hi, rfl⟩) n hn))))
      refine ⟨o, fun j u hj => ?_, hO⟩
      rw [cells62] at h1
      obtain ⟨_, hlen, hc⟩ := World.cells?_some h1
      rw [← hX] at hj
      have hj' : j < 15 := by
        have := (List.getElem?_eq_some_iff.1 hj).1
        omega
      have h3 := hc j hj'
      rw [hj, add_add, Addr.add_mid] at h3
      rw [Nat.add_assoc]
      exact h3
    obtain ⟨X, hX⟩ := @choose_lt OpV ⟨opV0⟩ _ _ hq
    have hlen : ((List.range len0).map X).length = len0 := by simp
    refine ⟨some ⟨b, off, none⟩, cap0, (List.range len0).map X, by rw [hlen], by rw [hlen]; omega, fun k hk => ?_, fun o ho => ?_⟩
    · have hk' : k < len0 := by rw [hlen] at hk; exact hk
      refine ⟨b, off, rfl, ?_, ?_⟩
      · have := (hX k hk').1 0 _ rfl
        exact World.block_lt_of_cell? W _ this
      · have e : ((List.range len0).map X)[k] = X k := by simp
        rw [e]
        exact (hX k hk').1
    · obtain ⟨i, hi, rfl⟩ := List.mem_map.1 ho
      exact (hX i (List.mem_range.1 hi)).2
end
end Go.Proofs.YtfclknlpdcanpaaGreatDoor.Kg
/- aged: SameClaims (29), SameAllots (43) of equal lists. -/
namespace Go.Proofs.YtfclknlpdcanpaaGreatDoor
open Go Go.RowKit Go.Shelf Go.ChangeShapes Go.WideShapes Go.ChangeAt Go.Maps
set_option linter.unusedVariables false
theorem sd37 : Tryz.prog.underlying 56 = some (.struct (Tryz.prog.fieldsOf 56)) := by kernel_rfl
theorem sh37 : Tryz.prog.stoodInHeld 56 = false := by kernel_rfl
theorem eg37 : Tryz.prog.eqGuardType Tryz.prog.depth 56 = false := by kernel_rfl
theorem fl37 : (Tryz.prog.fieldsOf 56).toList.map (fun f => (f.type, f.offset, f.name == "_")) = [(9, 0, false), (9, 1, false), (3, 2, false), (3, 3, false), (2, 4, false)] := by kernel_rfl
theorem eq37_same (x0 : ByteArray) (x1 : ByteArray) (x2 : Int) (x3 : Int) (x4 : Int) (w : World) : (Op.equalIn 10000 56 (.agg #[.string x0, .string x1, .int .i64 x2, .int .i64 x3, .int .i64 x4]) (.agg #[.string x0, .string x1, .int .i64 x2, .int .i64 x3, .int .i64 x4])).run Tryz.prog w = .ok true w := by
  rw [run_equalIn_agg w 9999 56 _ _ sd37 sh37]
  obtain ⟨f0, f1, f2, f3, f4, hf⟩ : ∃ f0 f1 f2 f3 f4, (Tryz.prog.fieldsOf 56).toList = [f0, f1, f2, f3, f4] := by
    have h := congrArg List.length fl37
    rw [List.length_map] at h
    match hq : (Tryz.prog.fieldsOf 56).toList, h with
    | [a, b, c, d, e], _ => exact ⟨a, b, c, d, e, rfl⟩
  have h := fl37
  rw [hf] at h ⊢
  simp at h
  simp [Op.eqFields, go_sem, h, Tryz.underlying9, Tryz.underlying2, Tryz.underlying3]
attribute [local go_sem ↓] ld37_is
set_option maxRecDepth 100000 in
set_option maxHeartbeats 4000000 in
theorem sameC_any {W : World} {p1 p2 : Option Addr} {c1 c2 n : Nat} {L : List Cl} (hn : L.length = n) (hn2 : n ≤ 1099511627776) (h : Lies kC W p1 L) (h' : Lies kC W p2 L) :
    Calls Tryz.prog 90 #[.slice p1 n c1, .slice p2 n c2] W fun e w' => e = .returned (.bool true) ∧ ∃ m, w' = W.drewN m := by
  have H := hide h; have H' := hide h'; have HN := hide hn
  have hst := sd37
  have hsh := sh37
  have heg := eg37
  have heq := eq37_same
  clear h h' hn
  go_enter Tryz.func90, Tryz.ntmps90
  go_wp2_with fail
  go_loopw [5] (fun i wr => ∃ (k m : Nat), i = .int .i64 k ∧ k ≤ n ∧ Hid (wr = W.drewN m)) (fun i _ => n - (intOf i).toNat)
  case atStart => exact ⟨0, 0, rfl, by omega, rfl⟩
  case round =>
    obtain ⟨k, m, rfl, hk, hw⟩ := hrel
    by_cases hlt : k < n
    · have hkl : k < L.length := by rw [unhide HN]; exact hlt
      obtain ⟨b1, o1, e1, _, r1⟩ := (unhide H).2 k hkl
      obtain ⟨b2, o2, e2, _, r2⟩ := (unhide H').2 k hkl
      subst e1 e2
      obtain ⟨c, hc⟩ : ∃ c, c = L[k] := ⟨_, rfl⟩
      rw [← hc] at r1 r2
      have l1 : ∀ d', (ld37 (.pointer (some ⟨b1, o1 + k * 5, none⟩))).run Tryz.prog (wr.drewN d') = .ok (.agg #[.string c.key, .string c.acc, .int .i64 c.day, .int .i64 c.due, .int .i64 c.amt]) (wr.drewN d') := fun d' => by
        rw [unhide hw]
        exact run_ld37 (fun j u hu => by have h1 : W.cell? ⟨b1, o1 + k * 5 + j, none⟩ = some u := r1 j u hu; simpa using h1)
      have l2 : ∀ d', (ld37 (.pointer (some ⟨b2, o2 + k * 5, none⟩))).run Tryz.prog (wr.drewN d') = .ok (.agg #[.string c.key, .string c.acc, .int .i64 c.day, .int .i64 c.due, .int .i64 c.amt]) (wr.drewN d') := fun d' => by
        rw [unhide hw]
        exact run_ld37 (fun j u hu => by have h1 : W.cell? ⟨b2, o2 + k * 5 + j, none⟩ = some u := r2 j u hu; simpa using h1)
      clear r1 r2 hc hkl
      go_wp2_with fail
      go_quiet (fail)
      go_wp2_with fail
      refine ⟨⟨k + 1, m + nq, by simp, by omega, ?_⟩, by simp [intOf]; omega⟩
      show _ = _
      rw [unhide hw, drew_two]
    · have hkn : k = n := by omega
      subst hkn
      go_wp2_with fail
      go_ret
      exact ⟨rfl, m, unhide hw⟩
theorem sd51 : Tryz.prog.underlying 58 = some (.struct (Tryz.prog.fieldsOf 58)) := by kernel_rfl
theorem sh51 : Tryz.prog.stoodInHeld 58 = false := by kernel_rfl
theorem eg51 : Tryz.prog.eqGuardType Tryz.prog.depth 58 = false := by kernel_rfl
theorem fl51 : (Tryz.prog.fieldsOf 58).toList.map (fun f => (f.type, f.offset, f.name == "_")) = [(9, 0, false), (9, 1, false), (3, 2, false), (2, 3, false)] := by kernel_rfl
theorem eq51_same (x0 : ByteArray) (x1 : ByteArray) (x2 : Int) (x3 : Int) (w : World) : (Op.equalIn 10000 58 (.agg #[.string x0, .string x1, .int .i64 x2, .int .i64 x3]) (.agg #[.string x0, .string x1, .int .i64 x2, .int .i64 x3])).run Tryz.prog w = .ok true w := by
  rw [run_equalIn_agg w 9999 58 _ _ sd51 sh51]
  obtain ⟨f0, f1, f2, f3, hf⟩ : ∃ f0 f1 f2 f3, (Tryz.prog.fieldsOf 58).toList = [f0, f1, f2, f3] := by
    have h := congrArg List.length fl51
    rw [List.length_map] at h
    match hq : (Tryz.prog.fieldsOf 58).toList, h with
    | [a, b, c, d], _ => exact ⟨a, b, c, d, rfl⟩
  have h := fl51
  rw [hf] at h ⊢
  simp at h
  simp [Op.eqFields, go_sem, h, Tryz.underlying9, Tryz.underlying2, Tryz.underlying3]
attribute [local go_sem ↓] ld51_is
set_option maxRecDepth 100000 in
set_option maxHeartbeats 4000000 in
theorem sameA_any {W : World} {p1 p2 : Option Addr} {c1 c2 n : Nat} {L : List Al} (hn : L.length = n) (hn2 : n ≤ 1099511627776) (h : Lies kA W p1 L) (h' : Lies kA W p2 L) :
    Calls Tryz.prog 92 #[.slice p1 n c1, .slice p2 n c2] W fun e w' => e = .returned (.bool true) ∧ ∃ m, w' = W.drewN m := by
  have H := hide h; have H' := hide h'; have HN := hide hn
  have hst := sd51
  have hsh := sh51
  have heg := eg51
  have heq := eq51_same
  clear h h' hn
  go_enter Tryz.func92, Tryz.ntmps92
  go_wp2_with fail
  go_loopw [5] (fun i wr => ∃ (k m : Nat), i = .int .i64 k ∧ k ≤ n ∧ Hid (wr = W.drewN m)) (fun i _ => n - (intOf i).toNat)
  case atStart => exact ⟨0, 0, rfl, by omega, rfl⟩
  case round =>
    obtain ⟨k, m, rfl, hk, hw⟩ := hrel
    by_cases hlt : k < n
    · have hkl : k < L.length := by rw [unhide HN]; exact hlt
      obtain ⟨b1, o1, e1, _, r1⟩ := (unhide H).2 k hkl
      obtain ⟨b2, o2, e2, _, r2⟩ := (unhide H').2 k hkl
      subst e1 e2
      obtain ⟨c, hc⟩ : ∃ c, c = L[k] := ⟨_, rfl⟩
      rw [← hc] at r1 r2
      have l1 : ∀ d', (ld51 (.pointer (some ⟨b1, o1 + k * 4, none⟩))).run Tryz.prog (wr.drewN d') = .ok (.agg #[.string c.pay, .string c.inv, .int .i64 c.day, .int .i64 c.amt]) (wr.drewN d') := fun d' => by
        rw [unhide hw]
        exact run_ld51 (fun j u hu => by have h1 : W.cell? ⟨b1, o1 + k * 4 + j, none⟩ = some u := r1 j u hu; simpa using h1)
      have l2 : ∀ d', (ld51 (.pointer (some ⟨b2, o2 + k * 4, none⟩))).run Tryz.prog (wr.drewN d') = .ok (.agg #[.string c.pay, .string c.inv, .int .i64 c.day, .int .i64 c.amt]) (wr.drewN d') := fun d' => by
        rw [unhide hw]
        exact run_ld51 (fun j u hu => by have h1 : W.cell? ⟨b2, o2 + k * 4 + j, none⟩ = some u := r2 j u hu; simpa using h1)
      clear r1 r2 hc hkl
      go_wp2_with fail
      go_quiet (fail)
      go_wp2_with fail
      refine ⟨⟨k + 1, m + nq, by simp, by omega, ?_⟩, by simp [intOf]; omega⟩
      show _ = _
      rw [unhide hw, drew_two]
    · have hkn : k = n := by omega
      subst hkn
      go_wp2_with fail
      go_ret
      exact ⟨rfl, m, unhide hw⟩
end Go.Proofs.YtfclknlpdcanpaaGreatDoor
