import Derived.Test.YtbenciieenbmeaaGreatDoorW24
import Derived.Test.YtbenciieenbmeaaGreatDoorW21
/- answer: layOut 30. -/
namespace Go.Proofs.YtbenciieenbmeaaGreatDoor
open Go Go.Shelf Go.ChangeShapes Go.WideShapes Go.ChangeAt Go.RowKit Go.Maps
set_option linter.unusedVariables false
set_option maxRecDepth 100000
set_option maxHeartbeats 4000000
section
variable {α : Type} {K : Kd α}
theorem flat_part (hK : KdOK K) (L : List α) (i : Nat) (hi : i < L.length) : K.flat L = K.flat (L.take i) ++ K.enc L[i] ++ K.flat (L.drop (i + 1)) ∧ (K.flat (L.take i)).length = i * K.s := by
  constructor
  · have e : L = L.take i ++ [L[i]] ++ L.drop (i + 1) := by simp
    conv => lhs; rw [e]
    rw [flat_append, flat_append, flat_sing]
  · rw [flat_len hK, List.length_take, Nat.min_eq_left (by omega)]
/-- an element of a list in a block written anew -/
theorem Bk.stE (hK : KdOK K) {X : World} {g : Nat} {t : TypeId} {L : List α} (h : Bk X g t (K.flat L)) (i : Nat) (hi : i < L.length) (x : α) :
    ∃ Y, (Instr.storeAt K.e (.pointer (some ⟨g, i * K.s, none⟩)) (.agg (K.enc x).toArray)).run Tryz.prog X = .ok () Y ∧ Bk Y g t (K.flat (L.set i x)) ∧ Fr X Y (fun j => j = g) := by
  obtain ⟨e1, e2⟩ := flat_part hK L i hi
  obtain ⟨e3, _⟩ := flat_part hK (L.set i x) i (by rw [List.length_set]; exact hi)
  rw [e1] at h
  obtain ⟨inf, z, h1, h2, h3, h4, h5⟩ := hK.info
  obtain ⟨Y, y1, y2, y3⟩ := h.store K.e (K.enc x).toArray (by simp [hK.len]) (by rw [h1]; simp [h3, hK.len]) (by
    rw [Array.all_eq_true_iff_forall_mem]
    intro u hu
    exact hK.one x u (by simpa using hu))
  rw [e2] at y1
  refine ⟨Y, y1, ?_, y3⟩
  rw [e3, List.getElem_set_self, List.take_set_of_le (Nat.le_refl _), List.drop_set_of_lt (by omega)]
  exact y2
end
/-- an aggregate of a query with its column's type -/
def shA (T : List Int) (nB : Nat) (i : Nat) (x : Int × Int) : Ag := ⟨x.1, if x.1 = 1 then 0 else x.2, T.getD (nB + i) 0⟩
def shL (T : List Int) (nB : Nat) (L : List (Int × Int)) : List Ag := L.mapIdx (fun i x => shA T nB i x)
/-- how far the aggregates are laid -/
def shP (T : List Int) (nB : Nat) (L : List (Int × Int)) (k : Nat) : List Ag := (shL T nB L).take k ++ List.replicate (L.length - k) ⟨0, 0, 0⟩
theorem shL_len (T : List Int) (nB : Nat) (L : List (Int × Int)) : (shL T nB L).length = L.length := by unfold shL; rw [List.length_mapIdx]
theorem shP_len {T : List Int} {nB : Nat} {L : List (Int × Int)} {k : Nat} (h : k ≤ L.length) : (shP T nB L k).length = L.length := by
  unfold shP; rw [List.length_append, List.length_take, shL_len, List.length_replicate]; omega
theorem shP_set {T : List Int} {nB : Nat} {L : List (Int × Int)} {k : Nat} (h : k < L.length) : (shP T nB L k).set k (shA T nB k L[k]) = shP T nB L (k + 1) := by
  unfold shP
  have hk : k < (shL T nB L).length := by rw [shL_len]; exact h
  rw [List.take_succ_eq_append_getElem hk, List.set_append_right _ _ (by rw [List.length_take, shL_len]; omega)]
  have e : k - ((shL T nB L).take k).length = 0 := by rw [List.length_take, shL_len]; omega
  have e2 : L.length - k = (L.length - (k + 1)) + 1 := by omega
  have e3 : (shL T nB L)[k] = shA T nB k L[k] := List.getElem_mapIdx
  rw [e, e2, List.replicate_succ, List.set_cons_zero, List.append_assoc, e3]
  rfl
theorem shP_end {T : List Int} {nB : Nat} {L : List (Int × Int)} : shP T nB L L.length = shL T nB L := by
  unfold shP
  rw [Nat.sub_self, List.replicate_zero, List.append_nil, List.take_of_length_le (by rw [shL_len]; exact Nat.le_refl _)]
theorem shP_zero {T : List Int} {nB : Nat} {L : List (Int × Int)} : shP T nB L 0 = List.replicate L.length ⟨0, 0, 0⟩ := by
  unfold shP; rw [List.take_zero, List.nil_append, Nat.sub_zero]
def zA : Value := .agg #[.int .i64 0, .int .i64 0, .int .i64 0]
theorem info104 : (Tryz.prog.info? 104).map (fun i => (i.zero, i.size, i.bytes)) = some (some zA, 3, 24) := by kernel_rfl
theorem made_ags (n : Nat) : madeCells zA.cells (n * 3) = (kA.flat (List.replicate n ⟨0, 0, 0⟩)).toArray := by
  apply Array.ext
  · rw [size_madeCells]
    have := flat_len kA_ok (List.replicate n (⟨0, 0, 0⟩ : Ag))
    rw [List.length_replicate] at this
    rw [List.size_toArray, this]
    rfl
  · intro i h1 h2
    have hi : i < n * 3 := by rw [size_madeCells] at h1; exact h1
    have hq : i / 3 < n := by omega
    have h3 := flat_get kA_ok (List.replicate n (⟨0, 0, 0⟩ : Ag)) (i / 3) (by rw [List.length_replicate]; exact hq) (i % 3) (Nat.mod_lt _ (by decide))
    rw [List.getElem_replicate] at h3
    have e : i / 3 * kA.s + i % 3 = i := Nat.div_add_mod' i 3
    rw [e] at h3
    have hm : i % 3 = 0 ∨ i % 3 = 1 ∨ i % 3 = 2 := by omega
    have h4 : (kA.flat (List.replicate n (⟨0, 0, 0⟩ : Ag)))[i]? = some (.int .i64 0) := by rw [h3]; rcases hm with h | h | h <;> (rw [h]; rfl)
    have h5 : (kA.flat (List.replicate n (⟨0, 0, 0⟩ : Ag))).toArray[i] = .int .i64 0 := by
      have := List.getElem?_eq_some_iff.1 h4
      obtain ⟨hl, he⟩ := this
      simpa using he
    rw [h5]
    have h6 : (madeCells zA.cells (n * 3))[i] = zA.cells[i % 3]! := by simp [madeCells, zA, Value.cells]
    rw [h6]
    rcases hm with h | h | h <;> (rw [h]; rfl)

/-- a list that lies where a growing list does not -/
structure Apt {α : Type} (K : Kd α) (w : World) (vP : Value) (p : Option Addr) (L : List α) : Prop where
  l : Lies K w p L
  b : ∀ b o, p = some ⟨b, o, none⟩ → b < w.heap.size ∧ vP.ownBlock ≠ some b
theorem Apt.app {α : Type} {K : Kd α} {w w' : World} {vP vP' : Value} {p : Option Addr} {L : List α} (h : Apt K w vP p L) (st : ∀ k, k < w.heap.size → vP.ownBlock ≠ some k → w'.heap[k]? = w.heap[k]?) (lo : vP'.ownBlock = vP.ownBlock ∨ vP'.ownBlock = some (w.heap.size + 1)) (sz : w.heap.size ≤ w'.heap.size) : Apt K w' vP' p L := by
  refine ⟨⟨h.l.1, fun k hk => ?_⟩, fun b o e => ?_⟩
  · obtain ⟨b, off, e, hlt, hr⟩ := h.l.2 k hk
    exact ⟨b, off, e, Nat.lt_of_lt_of_le hlt sz, fun j u hu => (World.cell?_of_block (a := ⟨b, off + k * K.s + j, none⟩) (st b hlt (h.b b off e).2)).trans (hr j u hu)⟩
  · obtain ⟨h1, h2⟩ := h.b b o e
    refine ⟨by omega, ?_⟩
    rcases lo with e2 | e2
    · rw [e2]; exact h2
    · rw [e2]; intro e3; have := Option.some.inj e3; omega
theorem Apt.below {α : Type} {K : Kd α} {w w' : World} {vP : Value} {p : Option Addr} {L : List α} (h : Apt K w vP p L) (hb : Below w.heap.size w w') : Apt K w' vP p L :=
  ⟨h.l.below hb, fun b o e => ⟨Nat.lt_of_lt_of_le (h.b b o e).1 hb.size, (h.b b o e).2⟩⟩
/-- what layOut answers -/
def LayOut (W : World) (F : List Int) (S : List Ag) (P : List Int) (e : Ending) (w' : World) : Prop :=
  ∃ pF cF pS cS pP cP, e = .returned (.agg #[.slice pF F.length cF, .slice pS S.length cS, .slice pP P.length cP]) ∧ Below W.heap.size W w' ∧ Lies kI w' pF F ∧ Lies kA w' pS S ∧ Lies kI w' pP P
/-- the columns' places -/
def plL (q : Qy) (T : List Int) : List Int := onP q.by' ++ (onP (shL T q.by'.length q.sh)).map (fun z => ((onD q.by').length : Int) + z)
def st104 (x y : Value) : Sem Unit := Instr.storeAt 104 x y
theorem st104_is (x y : Value) : Instr.storeAt 104 x y = st104 x y := rfl
theorem row_apt {α β : Type} {K : Kd α} {K' : Kd β} (hK : KdOK K) {w : World} {B B' n m : Nat} {p : Option Addr} {c : Nat} {vP : Value} {L : List α} {M : List β} (hn : L.length = n) (h : w.ownsRow B K.e K.s (.slice p n c) n (K.flat L)) (hne : ∀ g, (Value.slice p n c).ownBlock = some g → vP.ownBlock ≠ some g) : Apt K w vP p L := by
  refine ⟨own_lies hK hn h, fun b o e => ?_⟩
  have hob : (Value.slice p n c).ownBlock = some b := by rw [e]; rfl
  exact ⟨(row_block h hob).2.1, hne b hob⟩
def st80 (x y : Value) : Sem Unit := Instr.storeAt 80 x y
theorem st80_is (x y : Value) : Instr.storeAt 80 x y = st80 x y := rfl
section
attribute [local go_sem ↓] ld45_is st104_is st80_is
theorem layOut_any {W : World} {q : Qy} {a : Qa} (hq : QIn W q a) {pT : Option Addr} {nT cT : Nat} {T : List Int} (hT : Lies kI W pT T) (hnT : T.length = nT) (hTn : nT = q.by'.length + q.sh.length) (hB : q.by'.length ≤ 1048576) (hS : q.sh.length ≤ 1048576) (hbI : ∀ x ∈ q.by', inI x) (hsI : ∀ x ∈ q.sh, inI x.1 ∧ inI x.2) (hTI : ∀ x ∈ T, inI x) :
    Calls Tryz.prog 30 #[qV q a, .slice pT nT cT] W (LayOut W (onD q.by') (onD (shL T q.by'.length q.sh)) (plL q T)) := by
  obtain ⟨pN, cN, pB, cB, pA, cA, pO, cO⟩ := a
  obtain ⟨nB, hnB⟩ : ∃ n, n = q.by'.length := ⟨_, rfl⟩
  obtain ⟨nS, hnS⟩ : ∃ n, n = q.sh.length := ⟨_, rfl⟩
  obtain ⟨SH, hSH⟩ : ∃ L, L = shL T q.by'.length q.sh := ⟨_, rfl⟩
  have hSHl : SH.length = nS := by rw [hSH, shL_len, hnS]
  have hSHo : ∀ x ∈ SH, x.ok := fun x hx => by
    rw [hSH] at hx
    obtain ⟨i, hi, rfl⟩ := List.mem_iff_getElem.1 hx
    rw [shL_len] at hi
    have e : (shL T q.by'.length q.sh)[i]'(by rw [shL_len]; exact hi) = shA T q.by'.length i q.sh[i] := List.getElem_mapIdx
    rw [e]
    have h1 := hsI _ (List.getElem_mem hi)
    refine ⟨h1.1, ?_, ?_⟩
    · show inI (if _ then _ else _)
      split
      · exact in0
      · exact h1.2
    · show inI (T.getD _ 0)
      rw [List.getD_eq_getElem?_getD, List.getElem?_eq_getElem (by omega)]
      exact hTI _ (List.getElem_mem _)
  obtain ⟨A, hA⟩ : ∃ A, A = (W.alloc (.cells (qC q ⟨pN, cN, pB, cB, pA, cA, pO, cO⟩).toArray 27)).alloc (.cells #[.slice none 0 0, .slice none 0 0, .slice none 0 0] 80) := ⟨_, rfl⟩
  have hAs : A.heap.size = W.heap.size + 2 := by rw [hA]; simp
  have hBA : Below W.heap.size W A := by rw [hA]; exact Below.a2 W _ _
  have b27 : Bk A W.heap.size 27 (qC q ⟨pN, cN, pB, cB, pA, cA, pO, cO⟩) := by
    show A.heap[_]? = _
    rw [hA, Below.heap_alloc _ _ _ (by simp)]
    exact heap_new _ _
  have b80 : Bk A (W.heap.size + 1) 80 [.slice none 0 0, .slice none 0 0, .slice none 0 0] := by
    show A.heap[_]? = _
    have := heap_new (W.alloc (.cells (qC q ⟨pN, cN, pB, cB, pA, cA, pO, cO⟩).toArray 27)) (.cells #[.slice none 0 0, .slice none 0 0, .slice none 0 0] 80)
    simp only [World.size_alloc] at this
    rw [hA]; exact this
  have a3 : A.cell? ⟨W.heap.size, 3, none⟩ = some (.slice pA nS cA) := by rw [b27.cell, hnS]; rfl
  have hmk : (Instr.makeSlice 78 (.int .i64 (nS : Int)) (.int .i64 (nS : Int))).run Tryz.prog A = .ok (.slice (some ⟨A.heap.size, 0, none⟩) nS nS) (A.alloc (.cells (madeCells zA.cells (nS * 3)) 104)) := run_mk A 78 104 Tryz.underlying78 info104 nS (by omega) (by omega)
  obtain ⟨L0, hL0⟩ : ∃ L, L = A.alloc (.cells (madeCells zA.cells (nS * 3)) 104) := ⟨_, rfl⟩
  rw [← hL0] at hmk
  have hL0s : L0.heap.size = A.heap.size + 1 := by rw [hL0]; simp
  have hBL : Below A.heap.size A L0 := by rw [hL0]; exact Below.a1 A _
  have hb0 : Bk L0 A.heap.size 104 (kA.flat (shP T nB q.sh 0)) := by
    rw [shP_zero, ← hnS, hL0]
    show (A.alloc _).heap[_]? = some (Obj.cells _ 104 (0, 0))
    rw [← made_ags]
    exact heap_new _ _
  have a3b : L0.cell? ⟨W.heap.size, 3, none⟩ = some (.slice pA nS cA) := (hBL.cell (p := ⟨W.heap.size, 3, none⟩) (by show W.heap.size < _; omega)).trans a3
  -- what a round finds (30)
  have RD : Hid (∀ wr k, Fr L0 wr (fun j => j = A.heap.size) → Bk wr A.heap.size 104 (kA.flat (shP T nB q.sh k)) → (hk : k < nS) → ∃ b off x tb toff ty, pA = some ⟨b, off, none⟩ ∧ pT = some ⟨tb, toff, none⟩ ∧ q.sh[k]? = some x ∧ (ld45 (.pointer (some ⟨b, off + k * 2, none⟩))).run Tryz.prog wr = .ok (.agg #[.int .i64 x.1, .int .i64 x.2]) wr ∧ T.getD (nB + k) 0 = ty ∧
      ∀ w1, Below wr.heap.size wr w1 → w1.cell? ⟨W.heap.size, 2, none⟩ = some (.slice pB nB cB) ∧ w1.cell? ⟨tb, toff + (nB + k), none⟩ = some (.int .i64 ty) ∧
        ∃ Y, (st104 (.pointer (some ⟨A.heap.size, k * 3, none⟩)) (.agg #[.int .i64 x.1, .int .i64 x.2, .int .i64 ty])).run Tryz.prog w1 = .ok () Y ∧ Fr w1 Y (fun j => j = A.heap.size) ∧ Fr L0 Y (fun j => j = A.heap.size) ∧ Bk Y A.heap.size 104 (kA.flat ((shP T nB q.sh k).set k ⟨x.1, x.2, ty⟩))) := by
    intro wr k hF hB hk
    have hkl : k < q.sh.length := by omega
    obtain ⟨b, off, e1, hbl, hrr⟩ := hq.s.2 k hkl
    obtain ⟨tb, toff, e2, htl, htr⟩ := hT.2 (nB + k) (by omega)
    have hBW : Below W.heap.size W wr := (hBA.trans (hBL.mono (by omega))).trans (hF.below (by omega) (fun j hj e => by omega))
    refine ⟨b, off, q.sh[k], tb, toff, T[nB + k], e1, e2, List.getElem?_eq_getElem hkl, ?_, ?_, fun w1 hb1 => ?_⟩
    · exact run_ld45 (fun j u hu => (hBW.cell (p := ⟨b, off + k * 2 + j, none⟩) hbl).trans (hrr j u hu))
    · rw [List.getD_eq_getElem?_getD, List.getElem?_eq_getElem (by omega)]; rfl
    · have hF1 : Fr L0 w1 (fun j => j = A.heap.size) := hF.trans (Fr.of_below hb1 _) (fun _ _ h => h)
      have hB1 := hB.same (hb1.block _ hB.lt)
      obtain ⟨Y, y1, y2, y3⟩ := hB1.stE kA_ok k (by rw [shP_len (by omega)]; exact hkl) ⟨q.sh[k].1, q.sh[k].2, T[nB + k]⟩
      have hBW1 : Below W.heap.size W w1 := hBW.trans (hb1.mono hBW.size)
      refine ⟨?_, ?_, Y, y1, y3, hF1.trans y3 (fun _ _ h => h), y2⟩
      · have h27 : Bk w1 W.heap.size 27 (qC q ⟨pN, cN, pB, cB, pA, cA, pO, cO⟩) := b27.same ((hF1.block _ (by omega) (by show ¬ W.heap.size = _; omega)).trans (hBL.block _ (by omega)))
        rw [h27.cell, hnB]; rfl
      · have := htr 0 (.int .i64 T[nB + k]) rfl
        rw [← this]
        have e : (⟨tb, toff + (nB + k) * kI.s + 0, none⟩ : Addr) = ⟨tb, toff + (nB + k), none⟩ := by simp [kI]
        rw [e]
        exact hBW1.cell (p := ⟨tb, toff + (nB + k), none⟩) htl
  have RS : Hid (∀ (Y : World) k x ty, Bk Y A.heap.size 104 (kA.flat ((shP T nB q.sh k).set k ⟨x.1, x.2, ty⟩)) → q.sh[k]? = some x → T.getD (nB + k) 0 = ty → Fr L0 Y (fun j => j = A.heap.size) →
      (x.1 = 1 → Y.cell? ⟨A.heap.size, k * 3 + 1, none⟩ = some (.int .i64 x.2) ∧ Y.frozen? ⟨A.heap.size, k * 3 + 1, none⟩ = false ∧ Fr L0 (Y.setCell ⟨A.heap.size, k * 3 + 1, none⟩ (.int .i64 0)) (fun j => j = A.heap.size) ∧ Bk (Y.setCell ⟨A.heap.size, k * 3 + 1, none⟩ (.int .i64 0)) A.heap.size 104 (kA.flat (shP T nB q.sh (k + 1)))) ∧ (¬ x.1 = 1 → Bk Y A.heap.size 104 (kA.flat (shP T nB q.sh (k + 1))))) := by
    intro Y k x ty hB hx hty hF
    obtain ⟨hkl, hxe⟩ := List.getElem?_eq_some_iff.1 hx
    have hset := shP_set (T := T) (nB := nB) hkl
    have hl : k < ((shP T nB q.sh k).set k (⟨x.1, x.2, ty⟩ : Ag)).length := by rw [List.length_set, shP_len (by omega)]; exact hkl
    have hl' : k < (shP T nB q.sh k).length := by rw [shP_len (by omega)]; exact hkl
    refine ⟨fun h1 => ?_, fun h1 => ?_⟩
    · have h3 := flat_get kA_ok ((shP T nB q.sh k).set k (⟨x.1, x.2, ty⟩ : Ag)) k hl 1 (by decide)
      rw [List.getElem_set_self] at h3
      obtain ⟨p1, p2⟩ := flat_part kA_ok ((shP T nB q.sh k).set k (⟨x.1, x.2, ty⟩ : Ag)) k hl
      rw [List.getElem_set_self] at p1
      obtain ⟨r1, _⟩ := flat_part kA_ok ((shP T nB q.sh k).set k (shA T nB k q.sh[k])) k (by rw [List.length_set, shP_len (by omega)]; exact hkl)
      rw [List.getElem_set_self] at r1
      have hx1 : shA T nB k q.sh[k] = ⟨x.1, 0, ty⟩ := by
        rw [hxe]; unfold shA; rw [if_pos h1, hty]
      rw [hx1] at r1 hset
      refine ⟨?_, ?_, hF.setCell (p := ⟨A.heap.size, k * 3 + 1, none⟩) (.inl rfl) _, ?_⟩
      · rw [hB.cell]; exact h3
      · simp [World.frozen?, show Y.heap[A.heap.size]? = some _ from hB]
      · unfold Bk at hB ⊢
        rw [setC hB]
        have e : (kA.flat ((shP T nB q.sh k).set k (⟨x.1, x.2, ty⟩ : Ag))).set (k * 3 + 1) (.int .i64 0) = kA.flat (shP T nB q.sh (k + 1)) := by
          rw [p1, ← hset, r1]
          simp only [List.take_set_of_le (Nat.le_refl _), List.drop_set_of_lt (Nat.lt_succ_self k)] at p2 ⊢
          rw [List.append_assoc, List.append_assoc, List.set_append_right _ _ (by rw [p2]; show k * 3 ≤ _; omega), p2]
          have e2 : k * 3 + 1 - k * kA.s = 1 := by show k * 3 + 1 - k * 3 = 1; omega
          rw [e2]
          rfl
        rw [← e]
        simp
    · rw [← hset]
      have hx1 : shA T nB k q.sh[k] = ⟨x.1, x.2, ty⟩ := by rw [hxe]; unfold shA; rw [if_neg h1, hty]
      rw [hx1]
      exact hB
  have D45 : Hid (∀ w, Fr L0 w (fun j => j = A.heap.size) → w.cell? ⟨W.heap.size, 2, none⟩ = some (.slice pB nB cB) ∧ Calls Tryz.prog 45 #[.slice pB nB cB] w fun e w' => ∃ b p2 c2 p3 c3, e = .returned (.tuple #[.slice p2 (onD q.by').length c2, .slice p3 nB c3]) ∧ On kI yI w w' b (.slice p2 (onD q.by').length c2) (.slice p3 nB c3) q.by') := fun w hF => by
    have hBW : Below W.heap.size W w := (hBA.trans (hBL.mono (by omega))).trans (hF.below (by omega) (fun j hj e => by omega))
    refine ⟨?_, once45 hnB.symm (by omega) (hq.b.below hBW) hbI⟩
    have h27 : Bk w W.heap.size 27 (qC q ⟨pN, cN, pB, cB, pA, cA, pO, cO⟩) := b27.same ((hF.block _ (by omega) (by show ¬ W.heap.size = _; omega)).trans (hBL.block _ (by omega)))
    rw [h27.cell, hnB]; rfl
  have D46 : Hid (∀ w, Bk w A.heap.size 104 (kA.flat (shP T nB q.sh nS)) → Calls Tryz.prog 46 #[.slice (some ⟨A.heap.size, 0, none⟩) nS nS] w fun e w' => ∃ b p2 c2 p3 c3, e = .returned (.tuple #[.slice p2 (onD SH).length c2, .slice p3 nS c3]) ∧ On kA yA w w' b (.slice p2 (onD SH).length c2) (.slice p3 nS c3) SH) := fun w hB => by
    refine once46 hSHl (by omega) ⟨(fun h => by cases h), fun k hk => ⟨A.heap.size, 0, rfl, hB.lt, fun j u hu => ?_⟩⟩ hSHo
    have e : shP T nB q.sh nS = SH := by rw [hSH, hnS, hnB]; exact shP_end
    rw [e] at hB
    have hj : j < kA.s := by have := (List.getElem?_eq_some_iff.1 hu).1; rwa [kA_ok.len] at this
    rw [hB.cell, Nat.zero_add, flat_get kA_ok SH k hk j hj]
    exact hu
  have HB80 : Hid (∀ w, Below A.heap.size A w → Bk w (W.heap.size + 1) 80 [.slice none 0 0, .slice none 0 0, .slice none 0 0]) := fun w hb => b80.same (hb.block _ (by omega))
  have HBL := hide hBL; have HBA := hide hBA; have HAS := hide hAs; have HL0S := hide hL0s; have HB0 := hide hb0
  have HA : Hid (A = (W.alloc (.cells #[.slice pN q.nodes.length cN, .int .i64 q.wh, .slice pB nB cB, .slice pA nS cA, .slice pO q.ords.length cO, .int .i64 q.lim] 27)).alloc (.cells #[.slice none 0 0, .slice none 0 0, .slice none 0 0] 80)) := by rw [hnB, hnS]; exact hA
  have HPL : Hid (plL q T = onP q.by' ++ (onP SH).map (fun z => ((onD q.by').length : Int) + z)) := by
    show plL q T = _
    rw [hSH]; rfl
  have HOUT : Hid (LayOut W (onD q.by') (onD (shL T q.by'.length q.sh)) (plL q T) = LayOut W (onD q.by') (onD SH) (plL q T)) := by
    show LayOut _ _ _ _ = LayOut _ _ _ _
    rw [hSH]
  have HNB := hide hnB
  have HSHL := hide hSHl
  have hnb1 : nB ≤ 1048576 := by omega
  have hns1 : nS ≤ 1048576 := by omega
  have hTs : nT = nB + nS := by omega
  have hqv : qV q ⟨pN, cN, pB, cB, pA, cA, pO, cO⟩ = .agg #[.slice pN q.nodes.length cN, .int .i64 q.wh, .slice pB nB cB, .slice pA nS cA, .slice pO q.ords.length cO, .int .i64 q.lim] := by rw [hnB, hnS]; rfl
  rw [unhide HOUT, hqv]
  clear HOUT hqv hq hT hnT hTn hB hS hbI hsI hTI hSHo hA hAs hBA b27 b80 hL0 hL0s hBL hb0 hSH hSHl hnB hnS
  go_enter Tryz.func30, Tryz.ntmps30
  go_upto_region 1 with fail
  rw [← unhide HA]
  go_wp2_with fail
  clear hmk a3 a3b
  go_loopw [21] (fun v21 wr => ∃ (k : Nat), v21 = .int .i64 k ∧ k ≤ nS ∧ Hid (Fr L0 wr (fun j => j = A.heap.size)) ∧ Hid (Bk wr A.heap.size 104 (kA.flat (shP T nB q.sh k)))) (fun v21 _ => nS - (intOf v21).toNat)
  case atStart => exact ⟨0, rfl, by omega, Fr.refl _ _, unhide HB0⟩
  case round =>
    obtain ⟨k, rfl, hk, hF, hB⟩ := hrel
    by_cases hlt : k < nS
    · obtain ⟨b, off, x, tb, toff, ty, e1, e2, hx, l1, hty, hfacts⟩ := unhide RD wr k (unhide hF) (unhide hB) hlt
      obtain ⟨x1, x2⟩ := x
      have HF := hide hfacts
      have HX := hide hx
      have HTY := hide hty
      have hkn : (k : Int) < (nS : Int) := by omega
      have h3 : ¬ (k : Int) < 0 := by omega
      have hbk : (nB : Int) + (k : Int) < (nT : Int) := by omega
      have hbk0 : 0 ≤ (nB : Int) + (k : Int) := by omega
      have htn : ((nB : Int) + (k : Int)).toNat = nB + k := by omega
      have hwr : IntKind.i64.wrap ((nB : Int) + (k : Int)) = (nB : Int) + (k : Int) := by rw [IntKind.wrap_i64]; omega
      simp only at l1
      subst e1
      subst e2
      clear hfacts hx hty RD
      go_upto_region 5 with fail
      obtain ⟨Z, hZ⟩ : ∃ Z, Z = wr.alloc (.cells #[.int .i64 x1, .int .i64 x2] 56) := ⟨_, rfl⟩
      have hbZ : Below wr.heap.size wr Z.drew := by rw [hZ]; exact below_drewN (Below.a1 wr _) 1
      obtain ⟨f1, f2, Y, y1, y2, y3, y4⟩ := unhide HF _ hbZ
      have z0 : Z.drew.cell? ⟨wr.heap.size, 0, none⟩ = some (.int .i64 x1) := by rw [hZ]; show (wr.alloc _).cell? _ = _; simp
      have z1 : Z.drew.cell? ⟨wr.heap.size, 1, none⟩ = some (.int .i64 x2) := by rw [hZ]; show (wr.alloc _).cell? _ = _; simp
      have hzl : wr.heap.size < Z.drew.heap.size := by show _ < Z.heap.size; rw [hZ]; simp
      have hne : wr.heap.size ≠ A.heap.size := by have := (unhide hB).lt; omega
      have zY : Y.cell? ⟨wr.heap.size, 0, none⟩ = some (.int .i64 x1) := by rw [y2.cell (p := ⟨wr.heap.size, 0, none⟩) hzl (by show ¬ wr.heap.size = _; omega)]; exact z0
      obtain ⟨rs1, rs2⟩ := unhide RS Y k (x1, x2) ty y4 (unhide HX) (unhide HTY) y3
      have RS1 := hide rs1
      have RS2 := hide rs2
      have HY3 := hide y3
      have HZ := hide hZ
      rw [← unhide HZ]
      clear y2 y3 y4 rs1 rs2 hzl hne hZ hbZ HF
      refine wp_region_last (n := 16) (S := fun W' => W'.cell? ⟨wr.heap.size, 0, none⟩ = some (.int .i64 x1) ∧ W'.cell? ⟨wr.heap.size, 1, none⟩ = some (.int .i64 x2) ∧ W'.cell? ⟨W.heap.size, 2, none⟩ = some (.slice pB nB cB) ∧ W'.cell? ⟨tb, toff + (nB + k), none⟩ = some (.int .i64 ty)) (by kernel_rfl) ⟨z0, z1, f1, f2⟩ (fun hHeld => ?_)
      refine tkW 0 ?_; refine tkW 1 ?_; refine tkW 2 ?_; refine tkS 3 ?_; refine tkW 4 ?_; refine tkS 5 ?_; refine tkW 6 ?_; refine tkW 7 ?_; refine tkS 8 ?_; refine tkW 9 ?_; refine tkW 10 ?_; refine tkW 11 ?_; refine tkW 12 ?_
      refine tkS 13 ?_; refine tkW 14 ?_; refine tkW 15 ?_
      refine wpAnyL_past (i := 16) (by kernel_rfl) rfl (by kernel_rfl) (fun KK hK => ?_)
      refine step_store rfl 104 _ _ rfl _ _ _ rfl rfl y1 ?_
      refine hK.out _ _ ?_
      clear hK KK hHeld z0 z1 f1 f2 y1
      refine wpAnyL_done (by kernel_rfl) ?_
      by_cases h1 : x1 = 1
      · obtain ⟨q1, q2, q3, q4⟩ := unhide RS1 h1
        have HQ3 := hide q3
        have HQ4 := hide q4
        subst h1
        clear q3 q4 RS1 RS2
        go_wp2_with fail
        exact ⟨⟨.int .i64 (k : Int), _, .int .i64 ((k : Int) + 1), ⟨k + 1, by go_num, by omega, unhide HQ4⟩, rfl, rfl, rfl⟩, by simp [intOf]; omega⟩
      · have HQ4 := hide (unhide RS2 h1)
        have h1' := beqF h1
        clear RS1 RS2
        go_wp2_with fail
        exact ⟨⟨.int .i64 (k : Int), _, .int .i64 ((k : Int) + 1), ⟨k + 1, by go_num, by omega, unhide HQ4⟩, rfl, rfl, rfl⟩, by simp [intOf]; omega⟩
    · have hkn : k = nS := by omega
      subst hkn
      obtain ⟨f1, d45⟩ := unhide D45 wr (unhide hF)
      have D45' := hide d45
      clear d45 RD RS
      go_wp2_with fail
      refine (unhide D45').mono ?_
      rintro e w1 ⟨b1, p2, c2, p3, c3, rfl, hon⟩
      have HON := hide hon
      have hB1 : Hid (Bk w1 A.heap.size 104 (kA.flat (shP T nB q.sh k))) := (unhide hB).same (hon.bel.block _ (unhide hB).lt)
      have D46' := hide (unhide D46 w1 (unhide hB1))
      clear hon D45' f1
      go_wp2_with fail
      refine (unhide D46').mono ?_
      rintro e w2 ⟨b2, p5, c5, p6, c6, rfl, hon2⟩
      obtain ⟨nF, hnF⟩ : ∃ n, n = (onD q.by').length := ⟨_, rfl⟩
      obtain ⟨nU, hnU⟩ : ∃ n, n = (onD SH).length := ⟨_, rfl⟩
      have HNF := hide hnF
      have HNU := hide hnU
      have hFb : nF ≤ nB := by rw [hnF, unhide HNB]; exact len_onD _
      -- what lies side by side
      have HAW : Hid (Below W.heap.size W w2) := by
        have h0 := (unhide HBA).trans ((unhide HBL).mono (unhide HBA).size)
        have h1 := h0.trans ((unhide hF).below (by have := h0.size; omega) (fun j hj e => by have := (unhide HBA).size; omega))
        have h2 := h1.trans ((unhide HON).bel.mono h1.size)
        exact h2.trans (hon2.bel.mono h2.size)
      have HAA : Hid (Below A.heap.size A w2) := by
        have h0 := unhide HBL
        have h1 := h0.trans ((unhide hF).below (by have := h0.size; omega) (fun j hj e => by omega))
        have h2 := h1.trans ((unhide HON).bel.mono h1.size)
        exact h2.trans (hon2.bel.mono h2.size)
      have HW2S : Hid (A.heap.size + 1 ≤ w2.heap.size) := by
        have h3 := (unhide hF).size
        have h4 := (unhide HON).bel.size
        have h5 := hon2.bel.size
        rw [unhide HL0S] at h3
        show _ ≤ _
        omega
      have RP : Hid (w2.ownsRow (A.heap.size + 1) kI.e kI.s (.slice p3 nB c3) nB (kI.flat (onP q.by'))) := by
        have h := (unhide HON).r3
        rw [← unhide HNB] at h
        have h2 := row_keep h (fun g hg => hon2.bel.block g (row_block h hg).2.1)
        refine row_le h2 ?_
        have h3 := (unhide hF).size
        rw [unhide HL0S] at h3
        exact h3
      have AF : Hid (Apt kI w2 (.slice p3 nB c3) p2 (onD q.by')) := by
        have h := (unhide HON).r2
        have h2 := row_keep h (fun g hg => hon2.bel.block g (row_block h hg).2.1)
        exact row_apt (K' := kI) (B' := 0) (m := 0) (M := []) kI_ok rfl h2 (fun g hg e => (unhide HON).ap g hg e)
      have nP : ∀ g, (Value.slice p3 nB c3).ownBlock = some g → g < w1.heap.size := fun g hg => (row_block (unhide HON).r3 hg).2.1
      have AS : Hid (Apt kA w2 (.slice p3 nB c3) p5 (onD SH)) := row_apt (K' := kI) (B' := 0) (m := 0) (M := []) kA_ok rfl hon2.r2 (fun g hg e => by have := (row_block hon2.r2 hg).1; have := nP g e; omega)
      have r3' : w2.ownsRow w1.heap.size kI.e kI.s (.slice p6 k c6) k (kI.flat (onP SH)) := by have := hon2.r3; rwa [unhide HSHL] at this
      have AB : Hid (Apt kI w2 (.slice p3 nB c3) p6 (onP SH)) := row_apt (K' := kI) (B' := 0) (m := 0) (M := []) kI_ok (by rw [onP_len, unhide HSHL]) (r3') (fun g hg e => by have := (row_block r3' hg).1; have := nP g e; omega)
      have PF : Hid (∀ b o, p2 = some ⟨b, o, none⟩ → ¬ W.heap.size + 1 = b) := fun b o e => by
        have hob : (Value.slice p2 (onD q.by').length c2).ownBlock = some b := by rw [e]; rfl
        have h1 := (row_block (unhide HON).r2 hob).1
        have h2 := (unhide hF).size
        have h3 := unhide HL0S
        have h4 := unhide HAS
        omega
      have PS : Hid (∀ b o, p5 = some ⟨b, o, none⟩ → ¬ W.heap.size + 1 = b) := fun b o e => by
        have hob : (Value.slice p5 (onD SH).length c5).ownBlock = some b := by rw [e]; rfl
        have h1 := (row_block hon2.r2 hob).1
        have h2 := (unhide hF).size
        have h3 := unhide HL0S
        have h4 := unhide HAS
        have h5 := (unhide HON).bel.size
        omega
      rw [← hnF, ← hnU]
      clear hon2 nP r3' hnF hnU D46 D46' D45 hB1 HON
      go_wp2_with fail
      go_loopw [9, 63] (fun v9 v63 wr => ∃ (j : Nat) (p : Option Addr) (c : Nat), v63 = .int .i64 j ∧ j ≤ k ∧ v9 = .slice p (nB + j) c ∧ Hid (wr.ownsRow (A.heap.size + 1) kI.e kI.s (.slice p (nB + j) c) (nB + j) (kI.flat (onP q.by' ++ ((onP SH).take j).map (fun z => (nF : Int) + z)))) ∧ Hid (Apt kI wr (.slice p (nB + j) c) p2 (onD q.by')) ∧ Hid (Apt kA wr (.slice p (nB + j) c) p5 (onD SH)) ∧ Hid (Apt kI wr (.slice p (nB + j) c) p6 (onP SH)) ∧ Hid (Below (A.heap.size + 1) w2 wr)) (fun _ v63 _ => k - (intOf v63).toNat)
      case atStart => exact ⟨0, p3, c3, rfl, by omega, rfl, by show World.ownsRow _ _ _ _ _ _ _; rw [List.take_zero, List.map_nil, List.append_nil]; exact unhide RP, unhide AF, unhide AS, unhide AB, Below.refl _ _⟩
      case round =>
        obtain ⟨j, p, c, rfl, hj, rfl, hR, hF2, hS2, hB2, hbe⟩ := hrel
        clear RP AF AS AB
        have hzlt : Hid (A.heap.size + 1 ≤ wr.heap.size) := Nat.le_trans (unhide HW2S) (unhide hbe).size
        by_cases hlt2 : j < k
        · have hjl : j < (onP SH).length := by rw [onP_len, unhide HSHL]; exact hlt2
          obtain ⟨b, off, e1, hbl, hr⟩ := (unhide hB2).l.2 j hjl
          have htk : Hid (((onP SH).take (j + 1)).map (fun z => (nF : Int) + z) = ((onP SH).take j).map (fun z => (nF : Int) + z) ++ [(nF : Int) + (onP SH)[j]]) := by
            show _ = _
            rw [List.take_succ_eq_append_getElem hjl, List.map_append]; rfl
          have hjS : j < SH.length := by rw [onP_len] at hjl; exact hjl
          have hzb : 0 ≤ (onP SH)[j] ∧ (onP SH)[j] < 1048577 := by
            have e : (onP SH)[j] = (((onD SH).idxOf (SH[j]) : Nat) : Int) := List.getElem_map _
            rw [e]
            have h1 := len_onD SH
            have h0 : SH[j] ∈ onD SH := (mem_onD SH _).2 (List.getElem_mem hjS)
            have h2 := List.idxOf_lt_length_iff.2 h0
            have h3 := unhide HSHL
            omega
          obtain ⟨z, hz⟩ : ∃ z, z = (onP SH)[j] := ⟨_, rfl⟩
          rw [← hz] at hr htk hzb
          have hc := hr 0 (.int .i64 z) rfl
          simp only [kI, Nat.mul_one, Nat.add_zero] at hc
          obtain ⟨p8, c8, w8, r8, o8, b8, s8, l8, z8⟩ := app1 kI_ok (unhide hR) (unhide hzlt) ((nF : Int) + z) #[.int .i64 ((nF : Int) + z)] rfl 23 (by omega)
          have r8 : (Builtin.append_ #[23, 23] 23 #[.slice p (nB + j) c, .slice (some ⟨wr.heap.size, 0, none⟩) 1 1]).run Tryz.prog (wr.alloc (.cells #[.int .i64 ((nF : Int) + z)] 3)) = .ok (.slice p8 (nB + j + 1) c8) w8 := r8
          have HR8 := hide r8
          have HO8 : Hid (w8.ownsRow (A.heap.size + 1) kI.e kI.s (.slice p8 (nB + (j + 1)) c8) (nB + (j + 1)) (kI.flat (onP q.by' ++ ((onP SH).take (j + 1)).map (fun z => (nF : Int) + z)))) := by
            show World.ownsRow _ _ _ _ _ _ _
            rw [unhide htk, ← List.append_assoc]; exact o8
          have HF8 := hide ((unhide hF2).app s8 l8 z8)
          have HS8 := hide ((unhide hS2).app s8 l8 z8)
          have HB8 := hide ((unhide hB2).app s8 l8 z8)
          have HE8 := hide ((unhide hbe).trans b8)
          have hkn : (j : Int) < (k : Int) := by omega
          have hj0 : ¬ (j : Int) < 0 := by omega
          have hwz : IntKind.i64.wrap ((nF : Int) + z) = (nF : Int) + z := by rw [IntKind.wrap_i64]; omega
          subst e1
          clear r8 o8 b8 s8 l8 z8 hr hz hbl hjl
          go_wp2_with (first | (at_builtin; refine wpList_append_run rfl _ _ 23 rfl _ _ _ _ rfl rfl (unhide HR8) ?_))
          exact ⟨⟨j + 1, p8, c8, by go_num, by omega, rfl, unhide HO8, unhide HF8, unhide HS8, unhide HB8, unhide HE8⟩, by simp [intOf]; omega⟩
        · have hjk : j = k := by omega
          subst hjk
          have hA2 : Below A.heap.size A wr := (unhide HAA).trans ((unhide hbe).mono (by omega))
          have b80 := unhide HB80 wr hA2
          have hW2 : Below W.heap.size W wr := (unhide HAW).trans ((unhide hbe).mono (by have := unhide HAS; omega))
          have etk : (onP SH).take j = onP SH := List.take_of_length_le (by rw [onP_len, unhide HSHL]; exact Nat.le_refl _)
          have hR2 := unhide hR
          rw [etk] at hR2
          have hpl : plL q T = onP q.by' ++ (onP SH).map (fun z => (nF : Int) + z) := by rw [unhide HPL, ← unhide HNF]
          have hpll : (plL q T).length = nB + j := by rw [hpl, List.length_append, List.length_map, onP_len, onP_len, unhide HSHL, ← unhide HNB]
          have b80' : Bk wr (W.heap.size + 1) 80 ([] ++ [.slice none 0 0, .slice none 0 0, .slice none 0 0] ++ []) := b80
          obtain ⟨Y, y1, y2, y3⟩ := b80'.store 80 #[.slice p2 nF c2, .slice p5 nU c5, .slice p (nB + j) c] rfl sz80 (by simp; exact ⟨rfl, rfl, rfl⟩)
          have y1 : (st80 (.pointer (some ⟨W.heap.size + 1, 0, none⟩)) (.agg #[.slice p2 nF c2, .slice p5 nU c5, .slice p (nB + j) c])).run Tryz.prog wr = .ok () Y := y1
          have y2 : Bk Y (W.heap.size + 1) 80 [.slice p2 nF c2, .slice p5 nU c5, .slice p (nB + j) c] := by simpa using y2
          have hlv : (loadVar 80 ⟨W.heap.size + 1, 0, none⟩).run Tryz.prog Y = .ok (.agg #[.slice p2 nF c2, .slice p5 nU c5, .slice p (nB + j) c]) Y := run_loadVar_mid Y (W.heap.size + 1) 0 80 [.slice p2 nF c2, .slice p5 nU c5, .slice p (nB + j) c] _ (fun j' u hu => by rw [y2.cell, Nat.zero_add]; exact hu) Tryz.underlying80 rfl sz80
          have hfar : ∀ {α : Type} {K : Kd α} {p' : Option Addr} {L : List α}, (∀ b o, p' = some ⟨b, o, none⟩ → W.heap.size + 1 ≠ b) → Lies K wr p' L → Lies K Y p' L := fun {α K p' L} h1 h2 => h2.fr y3 (fun b o e e2 => h1 b o e e2.symm)
          have HO : Hid (LayOut W (onD q.by') (onD SH) (plL q T) (.returned (.agg #[.slice p2 nF c2, .slice p5 nU c5, .slice p (nB + j) c])) Y) := by
            refine ⟨p2, c2, p5, c5, p, c, by rw [unhide HNF, unhide HNU, hpll], hW2.trans (y3.below hW2.size (fun i hi e => by omega)), ?_, ?_, ?_⟩
            · exact hfar (fun b o e e2 => unhide PF b o e e2) (unhide hF2).l
            · exact hfar (fun b o e e2 => unhide PS b o e e2) (unhide hS2).l
            · rw [hpl]
              refine hfar (fun b o e e2 => ?_) (own_lies kI_ok (by rw [← hpl, hpll]) hR2)
              have hob : (Value.slice p (nB + j) c).ownBlock = some b := by rw [e]; rfl
              have := (row_block hR2 hob).1
              have := unhide HAS
              omega
          clear b80 b80' y2 y3 hfar hpl hpll hR2 etk hW2 hA2
          go_wp2_with fail
          refine bodyPost_ret (results_c Tryz.results30 rfl hlv) rfl ?_
          have hE := unhide HO
          exact hE
end
end Go.Proofs.YtbenciieenbmeaaGreatDoor
/- typing: isBareSum 25. -/
namespace Go.Proofs.YtbenciieenbmeaaGreatDoor
open Go Go.Shelf Go.ChangeShapes Go.WideShapes Go.ChangeAt Go.RowKit Go.Maps
set_option linter.unusedVariables false
set_option maxRecDepth 100000
set_option maxHeartbeats 8000000
theorem rec_nz {op a b : Int} (h : recS op a b ≠ 0) : a ≠ 0 ∧ b ≠ 0 := by
  by_cases hh : ∃ k, k < 11 ∧ rHit k op a b
  · obtain ⟨k, hk, h1, h2, h3⟩ := hh
    rw [← h2, ← h3]
    match k, hk with
    | 0, _ => exact ⟨by decide, by decide⟩
    | 1, _ => exact ⟨by decide, by decide⟩
    | 2, _ => exact ⟨by decide, by decide⟩
    | 3, _ => exact ⟨by decide, by decide⟩
    | 4, _ => exact ⟨by decide, by decide⟩
    | 5, _ => exact ⟨by decide, by decide⟩
    | 6, _ => exact ⟨by decide, by decide⟩
    | 7, _ => exact ⟨by decide, by decide⟩
    | 8, _ => exact ⟨by decide, by decide⟩
    | 9, _ => exact ⟨by decide, by decide⟩
    | 10, _ => exact ⟨by decide, by decide⟩
  · exact absurd (rec_none (fun j hj hr => hh ⟨j, hj, hr⟩)) h
theorem alike_nz {a b : Int} (h : alike a b = true) : a ≠ 0 ∧ b ≠ 0 := by
  unfold alike at h
  by_cases e : a = b
  · rw [if_pos e] at h
    have : a ≠ 0 := by simpa using h
    exact ⟨this, by rw [← e]; exact this⟩
  · rw [if_neg e] at h
    simp only [Bool.or_eq_true, Bool.and_eq_true, beq_iff_eq] at h
    omega
theorem tif_nz {b : Bool} {t : Int} (h : tif b t ≠ 0) : b = true := by
  cases b
  · exact absurd rfl h
  · rfl
theorem pr_nz {op a b : Int} (h : prS op a b ≠ 0) : a ≠ 0 ∧ b ≠ 0 := by
  unfold prS at h
  split at h
  · have := tif_nz h
    simp only [Bool.and_eq_true, beq_iff_eq] at this
    omega
  · split at h
    · exact alike_nz (tif_nz h)
    · split at h
      · have := tif_nz h
        rw [Bool.and_eq_true] at this
        exact alike_nz this.1
      · split at h
        · have := tif_nz h
          simp only [Bool.and_eq_true, beq_iff_eq] at this
          omega
        · exact rec_nz h
theorem tat_nz {T : List Int} {i : Int} (h : tat T i ≠ 0) : 0 ≤ i ∧ i < (T.length : Int) := by
  unfold tat at h
  split at h
  · exact absurd rfl h
  · omega
attribute [local go_sem ↓] ld32_is ld37_is ld45_is
end Go.Proofs.YtbenciieenbmeaaGreatDoor
