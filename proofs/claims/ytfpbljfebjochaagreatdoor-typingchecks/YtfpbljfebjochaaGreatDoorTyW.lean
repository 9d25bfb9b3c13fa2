/- typing: a query as an argument, opened. -/
import Derived.Test.YtfpbljfebjochaaGreatDoorTyT
import Derived.Test.YtfpbljfebjochaaGreatDoorTyL
import Derived.Deep.Slices
import Derived.Deep.Strs
import Derived.SizedLaws
import Derived.ChangeMaps5
namespace Go.Proofs.YtfpbljfebjochaaGreatDoor
open Go Go.RowKit Go.Shelf Go.ChangeShapes Go.WideShapes Go.ChangeAt Go.Maps Go.Deep
set_option linter.unusedVariables false
theorem c27 : Tryz.prog.cellsOf 22 = 1 := by kernel_rfl
theorem c28 : Tryz.prog.cellsOf 23 = 1 := by kernel_rfl
theorem c29 : Tryz.prog.cellsOf 24 = 1 := by kernel_rfl
theorem c30 : Tryz.prog.cellsOf 25 = 1 := by kernel_rfl
theorem c32 : Tryz.prog.cellsOf 27 = 6 := by kernel_rfl
theorem c37 : Tryz.prog.cellsOf 61 = 6 := by kernel_rfl
theorem c45 : Tryz.prog.cellsOf 75 = 2 := by kernel_rfl
theorem c74 : Tryz.prog.cellsOf 77 = 2 := by kernel_rfl
theorem c2 : Tryz.prog.cellsOf 2 = 1 := by kernel_rfl
theorem c3 : Tryz.prog.cellsOf 3 = 1 := by kernel_rfl
theorem c4 : Tryz.prog.cellsOf 4 = 1 := by kernel_rfl
theorem c9 : Tryz.prog.cellsOf 9 = 1 := by kernel_rfl
theorem list6 {α : Type} {cs : List α} (h : cs.length = 6) : ∃ c0 c1 c2 c3 c4 c5, cs = [c0, c1, c2, c3, c4, c5] := by
  match cs, h with
  | [c0, c1, c2, c3, c4, c5], _ => exact ⟨c0, c1, c2, c3, c4, c5, rfl⟩
theorem choose_list {α : Type} {P : Nat → α → Prop} : ∀ n, (∀ i, i < n → ∃ x, P i x) → ∃ L : List α, L.length = n ∧ ∀ i (h : i < L.length), P i L[i]
  | 0, _ => ⟨[], rfl, fun i h => by simp at h⟩
  | n + 1, h => by
    obtain ⟨L, hl, hL⟩ := choose_list n (fun i hi => h i (by omega))
    obtain ⟨x, hx⟩ := h n (by omega)
    refine ⟨L ++ [x], by simp [hl], fun i hi => ?_⟩
    by_cases hi' : i < L.length
    · rw [List.getElem_append_left hi']
      exact hL i hi'
    · have : i = n := by simp [hl] at hi hi'; omega
      subst this
      rw [List.getElem_append_right (by omega)]
      simpa [hl] using hx
section
variable {H : Type} {enc : TypeId × Value → H} {W : World}
set_option maxRecDepth 100000 in
/-- a cell that is a list of any kind, opened -/
theorem open_list {α : Type} {K : Kd α} (hK : KdOK K) (hcells : Tryz.prog.cellsOf K.e = K.s) (hbytes : Tryz.prog.bytesOf K.e = K.by') (opn : ∀ (fuel : Nat) (cs : List Value) (x : DataW H × List MemPlace), DataW.trod enc Tryz.prog W 0 (fun _ => true) true fuel K.e cs = some x → ∃ y, cs = K.enc y)
    {fuel : Nat} {v : Value} {x : DataW H × List MemPlace} (h : DataW.trod enc Tryz.prog W 0 (fun _ => true) true fuel K.t [v] = some x) (hw : ∀ n ∈ x.1.weights Tryz.prog K.t, n ≤ reachBytes) :
    ∃ pu L cu, v = .slice pu L.length cu ∧ (pu = none → cu = 0) ∧ Lies K W pu L ∧ L.length * K.by' ≤ reachBytes := by
  rcases open_slice hK.und h with ⟨hcs, _⟩ | ⟨a, len, cap, m, n, D, Pl, hcs, hb, hl, hm, hmm, hx, hall⟩
  · simp only [List.cons.injEq, and_true] at hcs
    exact ⟨none, [], 0, hcs, fun _ => rfl, Lies.nil W none, by simp⟩
  · simp only [List.cons.injEq, and_true] at hcs
    have hmm' : m = cap := by simpa using hmm
    have hd : x.1 = .slice ((List.range len).map D) ((List.range (m - len)).map fun j => D (len + j)) := by rw [hx]
    have hlk : len * K.by' ≤ reachBytes := by
      have h1 := hw ((((List.range len).map D).length + ((List.range (m - len)).map fun j => D (len + j)).length) * Tryz.prog.bytesOf K.e) (by
        rw [hd]
        simp only [DataW.weights, hK.und, List.mem_cons, true_or])
      rw [hbytes] at h1
      refine Nat.le_trans (Nat.mul_le_mul_right _ ?_) h1
      simp
    have hpos := hK.pos
    have hq : ∀ i, i < len → ∃ r : α, ∃ b off, some a = some (⟨b, off, none⟩ : Addr) ∧ b < W.heap.size ∧ W.rangeAt b (off + i * K.s) (K.enc r) := fun i hi => by
      obtain ⟨cs', h1, h2⟩ := hall i (by omega)
      obtain ⟨r, hr⟩ := opn _ _ _ h2
      rw [hcells] at h1
      obtain ⟨_, hlen, hc⟩ := World.cells?_some h1
      have hs : a.spot = none := by
        obtain ⟨cz, hz1, hz2⟩ := hall 0 (by omega)
        obtain ⟨rz, hrz⟩ := opn _ _ _ hz2
        rw [hcells] at hz1
        obtain ⟨_, _, hcz⟩ := World.cells?_some hz1
        have h3 := hcz 0 hpos
        rw [hrz] at h3
        have h4 : 0 < (K.enc rz).length := by rw [hK.len]; exact hpos
        rw [List.getElem?_eq_getElem h4] at h3
        simpa [Addr.add] using World.cell?_spot h3
      obtain ⟨b, off, sp⟩ := a
      simp only at hs
      subst hs
      refine ⟨r, b, off, rfl, ?_, fun j u hj => ?_⟩
      · have h3 := hc 0 hpos
        rw [hr] at h3
        have h4 : 0 < (K.enc r).length := by rw [hK.len]; exact hpos
        rw [List.getElem?_eq_getElem h4, add_add, Addr.add_mid] at h3
        exact World.block_lt_of_cell? W _ h3
      · have hj' : j < K.s := by
          have := (List.getElem?_eq_some_iff.1 hj).1
          rwa [hK.len] at this
        have h3 := hc j hj'
        rw [hr, hj, add_add, Addr.add_mid, ← Nat.add_assoc] at h3
        exact h3
    obtain ⟨R, hR, hall⟩ := choose_list len hq
    exact ⟨some a, R, cap, by rw [hR]; exact hcs, (fun h => by cases h), ⟨(fun h => by cases h), fun k hk => hall k hk⟩, by rw [hR]; exact hlk⟩
theorem open_i (fuel : Nat) (cs : List Value) (x : DataW H × List MemPlace) (h : DataW.trod enc Tryz.prog W 0 (fun _ => true) true fuel 3 cs = some x) : ∃ y : Int, cs = kI.enc y := by
  obtain ⟨n, e, _, _⟩ := DataW.trod_int Tryz.underlying3 h
  exact ⟨n, e⟩
theorem open_g (fuel : Nat) (cs : List Value) (x : DataW H × List MemPlace) (h : DataW.trod enc Tryz.prog W 0 (fun _ => true) true fuel 75 cs = some x) : ∃ y : Int × Int, cs = kG.enc y := by
  obtain ⟨y0, y1, n, rfl, hl, h0, h1⟩ := trod_struct2 Tryz.underlying75 h
  rw [c45] at hl
  obtain ⟨a, b, rfl⟩ := len2 hl
  obtain ⟨z0, e0, _, _⟩ := DataW.trod_int Tryz.underlying3 h0
  obtain ⟨z1, e1, _, _⟩ := DataW.trod_int Tryz.underlying3 h1
  simp [c3] at e0 e1
  exact ⟨(z0, z1), by rw [e0, e1]; rfl⟩
theorem open_o (fuel : Nat) (cs : List Value) (x : DataW H × List MemPlace) (h : DataW.trod enc Tryz.prog W 0 (fun _ => true) true fuel 77 cs = some x) : ∃ y : Int × Bool, cs = kO.enc y := by
  obtain ⟨y0, y1, n, rfl, hl, h0, h1⟩ := trod_struct2 Tryz.underlying77 h
  rw [c74] at hl
  obtain ⟨a, b, rfl⟩ := len2 hl
  obtain ⟨z0, e0, _, _⟩ := DataW.trod_int Tryz.underlying3 h0
  obtain ⟨z1, e1, _⟩ := DataW.trod_bool Tryz.underlying4 h1
  simp [c3, c4] at e0 e1
  exact ⟨(z0, z1), by rw [e0, e1]; rfl⟩
theorem open_n (fuel : Nat) (cs : List Value) (x : DataW H × List MemPlace) (h : DataW.trod enc Tryz.prog W 0 (fun _ => true) true fuel 61 cs = some x) : ∃ y : Nd, cs = kN.enc y := by
  obtain ⟨xs, n, _, rfl, hl, hlen, hf⟩ := DataW.trod_struct Tryz.underlying61 h
  rw [c37] at hl
  obtain ⟨a0, a1, a2, a3, a4, a5, rfl⟩ := list6 hl
  match xs, hlen with
  | [y0, y1, y2, y3, y4, y5], _ =>
    obtain ⟨z0, e0, _, _⟩ := DataW.trod_int Tryz.underlying3 (hf 0 _ rfl)
    obtain ⟨z1, e1, _, _⟩ := DataW.trod_int Tryz.underlying3 (hf 1 _ rfl)
    obtain ⟨z2, e2, _, _⟩ := DataW.trod_int Tryz.underlying3 (hf 2 _ rfl)
    obtain ⟨z3, e3, _, _⟩ := DataW.trod_int Tryz.underlying3 (hf 3 _ rfl)
    obtain ⟨z4, e4, _, _⟩ := DataW.trod_int Tryz.underlying2 (hf 4 _ rfl)
    obtain ⟨z5, e5, _, _⟩ := DataW.trod_string Tryz.underlying9 (hf 5 _ rfl)
    simp [c3, c2, c9] at e0 e1 e2 e3 e4 e5
    exact ⟨⟨z0, z1, z2, z3, z4, z5⟩, by rw [e0, e1, e2, e3, e4, e5]; rfl⟩
set_option maxRecDepth 100000 in
/-- an argument that is a query -/
theorem open_query {base : Nat} {v : Value} {d : DataW H} {p : List MemPlace} (hok : Value.okWide Tryz.prog W .any base 27 v) (h : ∃ fuel, DataW.trod enc Tryz.prog W 0 (fun _ => true) true fuel 27 v.cells.toList = some (d, p)) (hw : ∀ n ∈ d.weights Tryz.prog 27, n ≤ reachBytes) :
    ∃ q a, v = qV q a ∧ QIn W q a ∧ QCp a ∧ (q.nodes.length * 56 ≤ reachBytes ∧ q.by'.length * 8 ≤ reachBytes ∧ q.sh.length * 16 ≤ reachBytes ∧ q.ords.length * 16 ≤ reachBytes) ∧ ((-9223372036854775808 ≤ q.wh ∧ q.wh ≤ 9223372036854775807) ∧ (-9223372036854775808 ≤ q.lim ∧ q.lim ≤ 9223372036854775807)) := by
  obtain ⟨cs, rfl, hsz⟩ := okWide_struct Tryz.underlying27 hok
  obtain ⟨fuel, hf⟩ := h
  obtain ⟨xs, n, _, hx, hl, hlen, hg⟩ := DataW.trod_struct Tryz.underlying27 hf
  rw [c32] at hsz
  obtain ⟨cl⟩ := cs
  obtain ⟨a0, a1, a2, a3, a4, a5, rfl⟩ := list6 (cs := cl) hsz
  match xs, hlen with
  | [y0, y1, y2, y3, y4, y5], _ =>
    have hd : d = .agg [y0.1, y1.1, y2.1, y3.1, y4.1, y5.1] := (Prod.mk.inj hx).1
    have g0 := hg 0 _ rfl
    have g1 := hg 1 _ rfl
    have g2 := hg 2 _ rfl
    have g3 := hg 3 _ rfl
    have g4 := hg 4 _ rfl
    have g5 := hg 5 _ rfl
    simp [Value.cells, c27] at g0
    simp [Value.cells, c3] at g1
    simp [Value.cells, c28] at g2
    simp [Value.cells, c29] at g3
    simp [Value.cells, c30] at g4
    simp [Value.cells, c3] at g5
    have wts : ∀ (j : Nat) (t : TypeId) (y : DataW H), [22, 3, 23, 24, 25, 3][j]? = some t → [y0.1, y1.1, y2.1, y3.1, y4.1, y5.1][j]? = some y → ∀ m ∈ y.weights Tryz.prog t, m ≤ reachBytes := fun j t y h1 h2 m hm => hw m (by
      rw [hd]
      simp only [DataW.weights, Tryz.underlying27]
      exact DataW.weights_mem_each (j := j) (t := t) (d := y) h1 h2 m hm)
    obtain ⟨pN, LN, cN, rfl, h01, h02, h03⟩ := open_list kN_ok c37 (by kernel_rfl) open_n g0 (wts 0 22 y0.1 rfl rfl)
    obtain ⟨z1, e1, _, w1⟩ := DataW.trod_int Tryz.underlying3 g1
    obtain ⟨pB, LB, cB, rfl, h21, h22, h23⟩ := open_list kI_ok c3 (by kernel_rfl) open_i g2 (wts 2 23 y2.1 rfl rfl)
    obtain ⟨pS, LS, cS, rfl, h31, h32, h33⟩ := open_list kG_ok c45 (by kernel_rfl) open_g g3 (wts 3 24 y3.1 rfl rfl)
    obtain ⟨pO, LO, cO, rfl, h41, h42, h43⟩ := open_list kO_ok c74 (by kernel_rfl) open_o g4 (wts 4 25 y4.1 rfl rfl)
    obtain ⟨z5, e5, _, w5⟩ := DataW.trod_int Tryz.underlying3 g5
    simp only [List.cons.injEq, and_true] at e1 e5
    subst e1 e5
    have r56 : LN.length * 56 ≤ reachBytes := h03
    have r8 : LB.length * 8 ≤ reachBytes := h23
    have r16 : LS.length * 16 ≤ reachBytes := h33
    have r16' : LO.length * 16 ≤ reachBytes := h43
    refine ⟨⟨LN, z1, LB, LS, LO, z5⟩, ⟨pN, cN, pB, cB, pS, cS, pO, cO⟩, rfl, ⟨h02, h22, h32, h42, ?_, ?_, ?_, ?_⟩, ⟨h01, h21, h31, h41⟩, ⟨r56, r8, r16, r16'⟩, bounds_i64 w1, bounds_i64 w5⟩
    all_goals (unfold reachBytes at *; simp only at *; omega)
end
end Go.Proofs.YtfpbljfebjochaaGreatDoor
