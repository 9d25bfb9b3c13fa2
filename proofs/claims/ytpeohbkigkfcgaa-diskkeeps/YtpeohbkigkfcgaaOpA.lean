/- A list of operations as an argument, opened. -/
import Derived.Test.YtpeohbkigkfcgaaDkU
import Derived.Deep.Slices
import Derived.SizedLaws
namespace Go.Proofs.Ytpeohbkigkfcgaa
open Go Go.Shelf Go.ChangeShapes Go.WideShapes Go.ChangeAt Go.RowKit Go.Maps Go.Sort Go.Deep
set_option linter.unusedVariables false
theorem cells33 : Try.prog.cellsOf 33 = 12 := by kernel_rfl
theorem cells31 : Try.prog.cellsOf 31 = 4 := by kernel_rfl
theorem cells3 : Try.prog.cellsOf 3 = 1 := by kernel_rfl
theorem cells4 : Try.prog.cellsOf 4 = 1 := by kernel_rfl
theorem cells5 : Try.prog.cellsOf 5 = 1 := by kernel_rfl
theorem cells9 : Try.prog.cellsOf 9 = 1 := by kernel_rfl
theorem cells27 : Try.prog.cellsOf 27 = 1 := by kernel_rfl
theorem cells28 : Try.prog.cellsOf 28 = 1 := by kernel_rfl
theorem cells29 : Try.prog.cellsOf 29 = 1 := by kernel_rfl
theorem bytes5 : Try.prog.bytesOf 5 = 1 := by kernel_rfl
theorem bytes3 : Try.prog.bytesOf 3 = 8 := by kernel_rfl
theorem list12 {α : Type} {cs : List α} (h : cs.length = 12) : ∃ c0 c1 c2 c3 c4 c5 c6 c7 c8 c9 c10 c11, cs = [c0, c1, c2, c3, c4, c5, c6, c7, c8, c9, c10, c11] := by
  match cs, h with
  | [c0, c1, c2, c3, c4, c5, c6, c7, c8, c9, c10, c11], _ => exact ⟨c0, c1, c2, c3, c4, c5, c6, c7, c8, c9, c10, c11, rfl⟩
theorem weights_all_mem {H : Type} {P : Program} {e : TypeId} {d : DataW H} : ∀ {l : List (DataW H)}, d ∈ l → ∀ n ∈ d.weights P e, n ∈ DataW.weightsAll P e l
  | [], h, _, _ => by cases h
  | x :: r, h, n, hn => by
    simp only [DataW.weightsAll, List.mem_append]
    rcases List.mem_cons.1 h with rfl | h
    · exact .inl hn
    · exact .inr (weights_all_mem h n hn)
section
variable {H : Type} {enc : TypeId × Value → H} {W : World}
theorem open_bs {fuel : Nat} {v : Value} {x : DataW H × List MemPlace} (h : DataW.trod enc Try.prog W 0 (fun _ => true) true fuel 27 [v] = some x) (hw : ∀ n ∈ x.1.weights Try.prog 27, n ≤ reachBytes) :
    ∃ p c bs, v = .slice p bs.length c ∧ BytesIn W (.slice p bs.length c) bs ∧ bs.length ≤ 140737488351232 := by
  rcases open_ints Try.underlying27 Try.underlying5 cells5 h with ⟨hcs, _⟩ | ⟨a, len, cap, zs, hcs, hb, hl, hm, hz, hx, hcell, hwz⟩
  · simp only [List.cons.injEq, and_true] at hcs
    exact ⟨none, 0, [], hcs, .inl ⟨rfl, rfl⟩, by simp⟩
  · simp only [List.cons.injEq, and_true] at hcs
    have hz' : zs.length = cap := by simpa using hz
    have hbl : ((zs.take len).map fun z => UInt8.ofNat z.toNat).length = len := by simp; omega
    refine ⟨some a, cap, (zs.take len).map fun z => UInt8.ofNat z.toNat, by rw [hbl]; exact hcs, .inr ⟨a, cap, rfl, fun j u hj => ?_⟩, ?_⟩
    · have hj' : j < len := by
        have := (List.getElem?_eq_some_iff.1 hj).1
        rw [bcs_len, hbl] at this
        exact this
      rw [hcell j (by omega)]
      have h8 := hwz _ (List.getElem_mem (show j < zs.length by omega))
      simp only [Lit.wf, IntKind.min, IntKind.max, IntKind.signed] at h8
      simp at h8
      have e8 : (2 : Int) ^ IntKind.u8.bits = 256 := by decide
      have e1 : zs.getD j 0 = zs[j]'(by omega) := by simp [List.getD, show j < zs.length by omega]
      have e2 : ((UInt8.ofNat (zs[j]'(by omega)).toNat).toNat : Int) = zs[j]'(by omega) := by
        rw [UInt8.toNat_ofNat']
        omega
      simp only [bcs, List.getElem?_map] at hj
      rw [List.getElem?_take_of_lt hj', List.getElem?_eq_getElem (show j < zs.length by omega)] at hj
      simp only [Option.map_some, Option.some.injEq] at hj
      rw [← hj, e1, e2]
    · rw [hbl]
      have h1 := hw (((lits .u8 (zs.take len) : List (DataW H)).length + (lits .u8 (zs.drop len) : List (DataW H)).length) * Try.prog.bytesOf 5) (by rw [(Prod.mk.inj hx).1]; simp [DataW.weights, Try.underlying27])
      rw [bytes5] at h1
      simp only [lits, List.length_map, List.length_take, List.length_drop, reachBytes] at h1
      omega
theorem open_ks {fuel : Nat} {v : Value} {x : DataW H × List MemPlace} (h : DataW.trod enc Try.prog W 0 (fun _ => true) true fuel 28 [v] = some x) (hw : ∀ n ∈ x.1.weights Try.prog 28, n ≤ reachBytes) :
    ∃ p c ks, v = .slice p ks.length c ∧ KsIn W (.slice p ks.length c) ks ∧ ks.length ≤ 17592186043904 := by
  rcases open_ints Try.underlying28 Try.underlying3 cells3 h with ⟨hcs, _⟩ | ⟨a, len, cap, zs, hcs, hb, hl, hm, hz, hx, hcell, hwz⟩
  · simp only [List.cons.injEq, and_true] at hcs
    exact ⟨none, 0, [], hcs, .inl ⟨rfl, rfl⟩, by simp⟩
  · simp only [List.cons.injEq, and_true] at hcs
    have hz' : zs.length = cap := by simpa using hz
    have hbl : (zs.take len).length = len := by simp; omega
    refine ⟨some a, cap, zs.take len, by rw [hbl]; exact hcs, .inr ⟨a, cap, rfl, fun j u hj => ?_⟩, ?_⟩
    · have hj' : j < len := by
        have := (List.getElem?_eq_some_iff.1 hj).1
        unfold kcs at this
        rw [List.length_map, hbl] at this
        exact this
      rw [hcell j (by omega)]
      have e1 : zs.getD j 0 = zs[j]'(by omega) := by simp [List.getD, show j < zs.length by omega]
      simp only [kcs, List.getElem?_map] at hj
      rw [List.getElem?_take_of_lt hj', List.getElem?_eq_getElem (show j < zs.length by omega)] at hj
      simp only [Option.map_some, Option.some.injEq] at hj
      rw [← hj, e1]
    · rw [hbl]
      have h1 := hw (((lits .i64 (zs.take len) : List (DataW H)).length + (lits .i64 (zs.drop len) : List (DataW H)).length) * Try.prog.bytesOf 3) (by rw [(Prod.mk.inj hx).1]; simp [DataW.weights, Try.underlying28])
      rw [bytes3] at h1
      simp only [lits, List.length_map, List.length_take, List.length_drop, reachBytes] at h1
      omega
end
/-- an operation and what lies beside it -/
structure OpX where
  o : OpV
  dk : Int
  at0 : Int
  pb : Option Addr
  cb : Nat
  pk : Option Addr
  ck : Nat
  c1 : Int
  pf : Option Addr
  lf : Nat
  cf : Nat
  f1 : Int
  b1 : Bool
instance : Inhabited OpX := ⟨⟨⟨0, ⟨#[]⟩, ⟨#[]⟩, [], 0, []⟩, 0, 0, none, 0, none, 0, 0, none, 0, 0, 0, false⟩⟩
def OpX.cells (x : OpX) : List Value := [.int .i64 x.dk, .int .i64 x.o.kind, .string x.o.nm, .string x.o.to, .slice x.pb x.o.bs.length x.cb, .int .i64 x.at0, .int .i64 x.o.n, .slice x.pk x.o.ks.length x.ck, .int .i64 x.c1, .slice x.pf x.lf x.cf, .int .i64 x.f1, .bool x.b1]
section
variable {H : Type} {enc : TypeId × Value → H} {W : World}
theorem trod_struct9 {P : Program} {w : World} {base : Nat} {spare : Nat → Bool} {held : Bool} {t : TypeId} {f0 f1 f2 f3 f4 f5 f6 f7 f8 : Field} {fuel : Nat} {cs : List Value} {x : DataW H × List MemPlace} (ht : P.underlying t = some (.struct #[f0, f1, f2, f3, f4, f5, f6, f7, f8])) (h : DataW.trod enc P w base spare held fuel t cs = some x) :
    ∃ (y0 y1 y2 y3 y4 y5 y6 y7 y8 : DataW H × List MemPlace) (n : Nat), x.1 = .agg [y0.1, y1.1, y2.1, y3.1, y4.1, y5.1, y6.1, y7.1, y8.1] ∧ cs.length = P.cellsOf t ∧
      DataW.trod enc P w base spare held n f0.type ((cs.drop f0.offset).take (P.cellsOf f0.type)) = some y0 ∧
      DataW.trod enc P w base spare held n f1.type ((cs.drop f1.offset).take (P.cellsOf f1.type)) = some y1 ∧
      DataW.trod enc P w base spare held n f2.type ((cs.drop f2.offset).take (P.cellsOf f2.type)) = some y2 ∧
      DataW.trod enc P w base spare held n f3.type ((cs.drop f3.offset).take (P.cellsOf f3.type)) = some y3 ∧
      DataW.trod enc P w base spare held n f4.type ((cs.drop f4.offset).take (P.cellsOf f4.type)) = some y4 ∧
      DataW.trod enc P w base spare held n f5.type ((cs.drop f5.offset).take (P.cellsOf f5.type)) = some y5 ∧
      DataW.trod enc P w base spare held n f6.type ((cs.drop f6.offset).take (P.cellsOf f6.type)) = some y6 ∧
      DataW.trod enc P w base spare held n f7.type ((cs.drop f7.offset).take (P.cellsOf f7.type)) = some y7 ∧
      DataW.trod enc P w base spare held n f8.type ((cs.drop f8.offset).take (P.cellsOf f8.type)) = some y8 := by
  obtain ⟨xs, n, _, rfl, hl, hlen, hf⟩ := DataW.trod_struct ht h
  match xs, hlen with
  | [y0, y1, y2, y3, y4, y5, y6, y7, y8], _ => exact ⟨y0, y1, y2, y3, y4, y5, y6, y7, y8, n, by simp, hl, by simpa using hf 0 f0 rfl, by simpa using hf 1 f1 rfl, by simpa using hf 2 f2 rfl, by simpa using hf 3 f3 rfl, by simpa using hf 4 f4 rfl, by simpa using hf 5 f5 rfl, by simpa using hf 6 f6 rfl, by simpa using hf 7 f7 rfl, by simpa using hf 8 f8 rfl⟩
theorem trod_four {P : Program} {w : World} {base : Nat} {spare : Nat → Bool} {held : Bool} {t : TypeId} {f0 f1 f2 f3 : Field} {fuel : Nat} {cs : List Value} {x : DataW H × List MemPlace} (ht : P.underlying t = some (.struct #[f0, f1, f2, f3])) (h : DataW.trod enc P w base spare held fuel t cs = some x) :
    ∃ (y0 y1 y2 y3 : DataW H × List MemPlace) (n : Nat), DataW.trod enc P w base spare held n f0.type ((cs.drop f0.offset).take (P.cellsOf f0.type)) = some y0 ∧
      DataW.trod enc P w base spare held n f1.type ((cs.drop f1.offset).take (P.cellsOf f1.type)) = some y1 ∧ DataW.trod enc P w base spare held n f2.type ((cs.drop f2.offset).take (P.cellsOf f2.type)) = some y2 ∧
      DataW.trod enc P w base spare held n f3.type ((cs.drop f3.offset).take (P.cellsOf f3.type)) = some y3 := by
  obtain ⟨xs, n, _, rfl, hl, hlen, hf⟩ := DataW.trod_struct ht h
  match xs, hlen with
  | [y0, y1, y2, y3], _ => exact ⟨y0, y1, y2, y3, n, by simpa using hf 0 f0 rfl, by simpa using hf 1 f1 rfl, by simpa using hf 2 f2 rfl, by simpa using hf 3 f3 rfl⟩
set_option maxRecDepth 100000 in
theorem open_op {fuel : Nat} {cs : List Value} {x : DataW H × List MemPlace} (h : DataW.trod enc Try.prog W 0 (fun _ => true) true fuel 33 cs = some x) (hw : ∀ n ∈ x.1.weights Try.prog 33, n ≤ reachBytes) :
    ∃ X : OpX, cs = X.cells ∧ OpAt W X.o X.pb X.cb X.pk X.ck := by
  obtain ⟨y0, y1, y2, y3, y4, y5, y6, y7, y8, n, hx, hl, g0, g1, g2, g3, g4, g5, g6, g7, g8⟩ := trod_struct9 Try.underlying33 h
  rw [cells33] at hl
  obtain ⟨c0, c1, c2, c3, c4, c5, c6, c7, c8, c9, c10, c11, rfl⟩ := list12 hl
  clear h hl
  simp only [cells3, cells9, cells27, cells28, cells31, List.drop_zero, List.drop_succ_cons, List.take_succ_cons, List.take_zero] at g0 g1 g2 g3 g4 g5 g6 g7 g8
  obtain ⟨n0, e0, _, _⟩ := DataW.trod_int Try.underlying3 g0
  obtain ⟨n1, e1, _, _⟩ := DataW.trod_int Try.underlying3 g1
  obtain ⟨s2, e2, x2, z2⟩ := DataW.trod_string Try.underlying9 g2
  obtain ⟨s3, e3, x3, z3⟩ := DataW.trod_string Try.underlying9 g3
  obtain ⟨n5, e5, _, _⟩ := DataW.trod_int Try.underlying3 g5
  obtain ⟨n6, e6, _, _⟩ := DataW.trod_int Try.underlying3 g6
  have w2 : ∀ m ∈ y2.1.weights Try.prog 9, m ≤ reachBytes := fun m hm => hw m (by
    rw [hx]
    simp only [DataW.weights, Try.underlying33]
    exact DataW.weights_mem_each (j := 2) (t := 9) rfl rfl m hm)
  have w3 : ∀ m ∈ y3.1.weights Try.prog 9, m ≤ reachBytes := fun m hm => hw m (by
    rw [hx]
    simp only [DataW.weights, Try.underlying33]
    exact DataW.weights_mem_each (j := 3) (t := 9) rfl rfl m hm)
  have w4 : ∀ m ∈ y4.1.weights Try.prog 27, m ≤ reachBytes := fun m hm => hw m (by
    rw [hx]
    simp only [DataW.weights, Try.underlying33]
    exact DataW.weights_mem_each (j := 4) (t := 27) rfl rfl m hm)
  have w7 : ∀ m ∈ y7.1.weights Try.prog 28, m ≤ reachBytes := fun m hm => hw m (by
    rw [hx]
    simp only [DataW.weights, Try.underlying33]
    exact DataW.weights_mem_each (j := 7) (t := 28) rfl rfl m hm)
  obtain ⟨pb, cb, bs, e4, hbs, lbs⟩ := open_bs g4 w4
  obtain ⟨pk, ck, ks, e7, hks, lks⟩ := open_ks g7 w7
  obtain ⟨u0, u1, u2, u3, m, k0, k1, k2, k3⟩ := trod_four Try.underlying31 g8
  simp only [cells3, cells29, cells4, List.drop_zero, List.drop_succ_cons, List.take_succ_cons, List.take_zero] at k0 k1 k2 k3
  obtain ⟨n8, e8, _, _⟩ := DataW.trod_int Try.underlying3 k0
  obtain ⟨pf, lf, cf, e9⟩ : ∃ a l c, [c9] = [Value.slice a l c] := by
    rcases open_slice Try.underlying29 k1 with ⟨hcs, _⟩ | ⟨a', len', cap', _, _, _, _, hcs, _⟩
    · exact ⟨_, _, _, hcs⟩
    · exact ⟨_, _, _, hcs⟩
  obtain ⟨n10, e10, _, _⟩ := DataW.trod_int Try.underlying3 k2
  obtain ⟨b11, e11, _⟩ := DataW.trod_bool Try.underlying4 k3
  simp only [List.cons.injEq, and_true] at e0 e1 e2 e3 e5 e6 e8 e9 e10 e11
  refine ⟨⟨⟨n1, s2, s3, bs, n6, ks⟩, n0, n5, pb, cb, pk, ck, n8, pf, lf, cf, n10, b11⟩, ?_, ⟨?_, ?_, lbs, hbs, lks, hks⟩⟩
  · rw [e0, e1, e2, e3, e4, e5, e6, e7, e8, e9, e10, e11]
    rfl
  · show s2.size ≤ 9223372036854775806
    exact Nat.le_trans (w2 s2.size (by rw [x2]; simp [DataW.weights])) (by decide)
  · show s3.size ≤ 9223372036854775806
    exact Nat.le_trans (w3 s3.size (by rw [x3]; simp [DataW.weights])) (by decide)
set_option maxRecDepth 100000 in
/-- operations that lie one behind the other -/
def OpsAt (W : World) (v : Value) (K : Nat) (X : Nat → OpX) : Prop :=
  (K = 0 ∧ ∃ c, v = .slice none 0 c) ∨ ∃ b off c, v = .slice (some ⟨b, off, none⟩) K c ∧ (0 < K → b < W.heap.size) ∧ ∀ i, i < K → ∀ j u, (X i).cells[j]? = some u → W.cell? ⟨b, off + (i * 12 + j), none⟩ = some u
set_option maxRecDepth 100000 in
theorem spot_none {base t e : Nat} {x : Addr} {len cap : Nat} (ht : Try.prog.underlying t = some (.slice e)) (hok : Value.okWide Try.prog W .any base t (.slice (some x) len cap)) : x.spot = none := by
  have h1 : Cell.okWide Try.prog W .any base t (.slice (some x) len cap) := by
    have h2 := hok
    unfold Value.okWide at h2
    rw [ht] at h2
    exact h2
  unfold Cell.okWide at h1
  rw [ht] at h1
  simp only [Cell.ok, ht, World.has] at h1
  exact h1.2.2.2.1
set_option maxRecDepth 100000 in
theorem open_ops {base : Nat} {v : Value} {d : DataW H} {p : List MemPlace} (hok : Value.okWide Try.prog W .any base 22 v) (h : ∃ fuel, DataW.trod enc Try.prog W 0 (fun _ => true) true fuel 22 v.cells.toList = some (d, p)) (hw : ∀ n ∈ d.weights Try.prog 22, n ≤ reachBytes) :
    ∃ (pu : Option Addr) (K cu : Nat) (X : Nat → OpX), v = .slice pu K cu ∧ K ≤ maxLen ∧ OpsAt W (.slice pu K cu) K X ∧ ∀ i, i < K → OpAt W (X i).o (X i).pb (X i).cb (X i).pk (X i).ck := by
  obtain ⟨a0, len0, cap0, rfl⟩ := okWide_slice Try.underlying22 hok
  obtain ⟨fuel, hf⟩ := h
  rcases open_slice Try.underlying22 hf with ⟨hcs, _⟩ | ⟨a, len, cap, m, n, D, Pl, hcs, hb, hl, hm, hmm, hx, hall⟩
  · simp [Value.cells] at hcs
    obtain ⟨rfl, rfl, rfl⟩ := hcs
    exact ⟨none, 0, 0, fun _ => default, rfl, Nat.zero_le _, .inl ⟨rfl, 0, rfl⟩, fun i hi => by omega⟩
  · simp [Value.cells] at hcs
    obtain ⟨rfl, rfl, rfl⟩ := hcs
    have hmm' : m = cap0 := by simpa using hmm
    have hspot := spot_none Try.underlying22 hok
    obtain ⟨b, off, sp⟩ := a
    simp only at hspot
    subst hspot
    have hd : d = .slice ((List.range len0).map D) ((List.range (m - len0)).map fun j => D (len0 + j)) := (Prod.mk.inj hx).1
    have hq : ∀ i, i < len0 → ∃ X : OpX, (∀ j u, X.cells[j]? = some u → W.cell? ⟨b, off + (i * 12 + j), none⟩ = some u) ∧ OpAt W X.o X.pb X.cb X.pk X.ck := fun i hi => by
      obtain ⟨cs', h1, h2⟩ := hall i (by omega)
      obtain ⟨X, hX, hO⟩ := open_op h2 (fun n hn => hw n (by
        rw [hd]
        simp only [DataW.weights, Try.underlying22, List.mem_cons, List.mem_append]
        exact .inr (.inl (weights_all_mem (List.mem_map.2 ⟨i, List.mem_range.2 hi, rfl⟩) n hn))))
      refine ⟨X, fun j u hj => ?_, hO⟩
      rw [cells33] at h1
      obtain ⟨_, hlen, hc⟩ := World.cells?_some h1
      rw [← hX] at hj
      have hj' : j < 12 := by
        have := (List.getElem?_eq_some_iff.1 hj).1
        omega
      have h3 := hc j hj'
      rw [hj, add_add, Addr.add_mid] at h3
      exact h3
    obtain ⟨X, hX⟩ := choose_lt (α := OpX) hq
    refine ⟨_, _, _, X, rfl, by omega, .inr ⟨b, off, cap0, rfl, fun h0 => ?_, fun i hi => (hX i hi).1⟩, fun i hi => (hX i hi).2⟩
    have := (hX 0 h0).1 0 _ rfl
    exact World.block_lt_of_cell? W _ this
end
end Go.Proofs.Ytpeohbkigkfcgaa
