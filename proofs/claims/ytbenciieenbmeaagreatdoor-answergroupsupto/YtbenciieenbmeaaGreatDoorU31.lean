import Derived.Test.YtbenciieenbmeaaGreatDoorU29
import Derived.Laws.StructEq
/- the law's shaped 12. -/
namespace Go.Proofs.YtbenciieenbmeaaGreatDoor
open Go Go.Shelf Go.ChangeShapes Go.WideShapes Go.ChangeAt Go.RowKit Go.Maps Go.Sort
set_option linter.unusedVariables false
set_option maxRecDepth 100000
set_option maxHeartbeats 4000000
theorem shaped_yes {B : Nat} {W : World} {v : Value} {T : List Int} {LL : List (List Cl)} (h : TblOut B W v T LL) (hs : ∀ L ∈ LL, L.map Cl.ty = T) (hTb : T.length ≤ 4194304) (hLb : LL.length ≤ 4194304) :
    Calls Tryz.prog 12 #[v] W fun e w' => e = .returned (.bool true) ∧ Below W.heap.size W w' := by
  obtain ⟨pT, cT, pR, cR, ts, rfl, ⟨h2, _⟩, ⟨h4, _⟩, h6, h7⟩ := h
  obtain ⟨nT, hnT⟩ : ∃ n, n = T.length := ⟨_, rfl⟩
  obtain ⟨nL, hnL⟩ : ∃ n, n = LL.length := ⟨_, rfl⟩
  obtain ⟨A, hA⟩ : ∃ A, A = W.alloc (.cells #[.slice pT nT cT, .slice pR nL cR] 34) := ⟨_, rfl⟩
  have hBA : Below W.heap.size W A := by rw [hA]; exact Below.a1 W _
  have b34 : Bk A W.heap.size 34 [.slice pT nT cT, .slice pR nL cR] := by show A.heap[_]? = _; rw [hA]; exact heap_new _ _
  have CC : Hid (∀ wr, Below A.heap.size A wr → wr.cell? ⟨W.heap.size, 0, none⟩ = some (.slice pT nT cT) ∧ wr.cell? ⟨W.heap.size, 1, none⟩ = some (.slice pR nL cR)) := fun wr hb => by
    have b := b34.same (hb.block _ b34.lt)
    exact ⟨b.cell 0, b.cell 1⟩
  have RO : Hid (∀ i, i < nL → ∃ b off p c, pR = some ⟨b, off, none⟩ ∧ (∀ wr, Below A.heap.size A wr → wr.cell? ⟨b, off + i, none⟩ = some (.slice p nT c)) ∧ ∀ k, k < nT → ∃ b2 off2 b3 off3 t, p = some ⟨b2, off2, none⟩ ∧ pT = some ⟨b3, off3, none⟩ ∧ ∀ wr, Below A.heap.size A wr → wr.cell? ⟨b2, off2 + k * 3, none⟩ = some (.int .i64 t) ∧ wr.cell? ⟨b3, off3 + k, none⟩ = some (.int .i64 t)) := fun i hi => by
    have hil : i < LL.length := by omega
    obtain ⟨p, c, e1, e2, _⟩ := h7 i hil
    have hit : i < ts.length := by omega
    obtain ⟨b, off, e, hlt, hr⟩ := h4.2 i hit
    have hmap := hs _ (List.getElem_mem hil)
    have hll : LL[i].length = nT := by rw [hnT, ← hmap, List.length_map]
    refine ⟨b, off, p, c, e, fun wr hb => ?_, fun k hk => ?_⟩
    · have hts : ts[i] = (p, LL[i].length, c) := by
        have := List.getElem?_eq_getElem hit
        rw [this] at e1
        exact Option.some.inj e1
      have := hr 0 (.slice p nT c) (by rw [hts, hll]; rfl)
      have hb0 := hBA.trans (hb.mono hBA.size)
      have e3 : (⟨b, off + i * kS.s + 0, none⟩ : Addr) = ⟨b, off + i, none⟩ := by simp [kS]
      rw [e3] at this
      exact (hb0.cell (p := ⟨b, off + i, none⟩) hlt).trans this
    · have hk2 : k < LL[i].length := by omega
      have hk3 : k < T.length := by omega
      obtain ⟨b2, off2, e2', hlt2, hr2⟩ := e2.2 k hk2
      obtain ⟨b3, off3, e3', hlt3, hr3⟩ := h2.2 k hk3
      have ety : LL[i][k].ty = T[k] := by
        have h1 : (LL[i].map Cl.ty)[k]? = T[k]? := by rw [hmap]
        rw [List.getElem?_map, List.getElem?_eq_getElem hk2, List.getElem?_eq_getElem hk3] at h1
        exact Option.some.inj h1
      refine ⟨b2, off2, b3, off3, T[k], e2', e3', fun wr hb => ?_⟩
      have hb0 := hBA.trans (hb.mono hBA.size)
      have g2 := hr2 0 (.int .i64 (LL[i][k]).ty) rfl
      have g3 := hr3 0 (.int .i64 T[k]) rfl
      rw [ety] at g2
      have x2 : (⟨b2, off2 + k * kC.s + 0, none⟩ : Addr) = ⟨b2, off2 + k * 3, none⟩ := rfl
      have x3 : (⟨b3, off3 + k * kI.s + 0, none⟩ : Addr) = ⟨b3, off3 + k, none⟩ := by simp [kI]
      rw [x2] at g2
      rw [x3] at g3
      exact ⟨(hb0.cell (p := ⟨b2, off2 + k * 3, none⟩) hlt2).trans g2, (hb0.cell (p := ⟨b3, off3 + k, none⟩) hlt3).trans g3⟩
  have HA := hide hA; have HBA := hide hBA
  rw [← hnT] at hTb ⊢
  rw [← hnL] at hLb ⊢
  clear h2 h4 h6 h7 hs hnT hnL hA hBA b34
  go_enter Tryz.func12, Tryz.ntmps12
  go_upto_region 1 with fail
  rw [← unhide HA]
  go_wp2_with fail
  go_loopw [3] (fun v3 wr => ∃ (i : Nat), v3 = .int .i64 i ∧ i ≤ nL ∧ Hid (Below A.heap.size A wr)) (fun v3 _ => nL - (intOf v3).toNat)
  case atStart => exact ⟨0, rfl, by omega, Below.refl _ _⟩
  case round =>
    obtain ⟨i, rfl, hi, hB⟩ := hrel
    obtain ⟨c0, c1⟩ := unhide CC wr (unhide hB)
    by_cases hlt : i < nL
    · obtain ⟨b, off, p, c, e1, hrow, hcell⟩ := unhide RO i hlt
      subst e1
      have cr := hrow wr (unhide hB)
      have HROW := hide hrow
      have HCELL := hide hcell
      have hin : (i : Int) < (nL : Int) := by omega
      have hi0 : ¬ (i : Int) < 0 := by omega
      clear hrow hcell RO
      go_upto_region 4 with fail
      go_quiet (fail)
      go_wp2_with fail
      obtain ⟨wo, hwo⟩ : ∃ x, x = wr.drewN nq := ⟨_, rfl⟩
      have HBo : Hid (Below A.heap.size A wo) := by rw [hwo]; exact below_drewN (unhide hB) nq
      rw [← hwo]
      clear hwo c0 c1 cr hB
      try clear nq
      try clear wr
      go_loopw [4] (fun v4 w2 => ∃ (k : Nat), v4 = .int .i64 k ∧ k ≤ nT ∧ Hid (Below A.heap.size A w2)) (fun v4 _ => nT - (intOf v4).toNat)
      case atStart => exact ⟨0, rfl, by omega, unhide HBo⟩
      case round =>
        obtain ⟨k, rfl, hk, hB⟩ := hrel
        obtain ⟨c0, c1⟩ := unhide CC wr (unhide hB)
        have cr := unhide HROW wr (unhide hB)
        by_cases hlk : k < nT
        · obtain ⟨b2, off2, b3, off3, t, e2, e3, hcc⟩ := unhide HCELL k hlk
          subst e2
          subst e3
          obtain ⟨g2, g3⟩ := hcc wr (unhide hB)
          have hkn : (k : Int) < (nT : Int) := by omega
          have hk0 : ¬ (k : Int) < 0 := by omega
          clear hcc HCELL HROW
          go_upto_region 9 with fail
          go_quiet (fail)
          go_wp2_with fail
          exact ⟨⟨k + 1, by go_num, by omega, below_drewN (unhide hB) _⟩, by simp [intOf]; omega⟩
        · have hkn : k = nT := by omega
          subst hkn
          clear HCELL HROW
          go_wp2_with fail
          exact ⟨⟨i + 1, by go_num, by omega, unhide hB⟩, by simp [intOf]; omega⟩
    · have hin : i = nL := by omega
      subst hin
      go_wp2_with fail
      go_ret
      exact ⟨rfl, (unhide HBA).trans ((unhide hB).mono (unhide HBA).size)⟩
end Go.Proofs.YtbenciieenbmeaaGreatDoor
/- ref15.Same 11 of two tables that tell the same. -/
namespace Go.Proofs.YtbenciieenbmeaaGreatDoor
open Go Go.Shelf Go.ChangeShapes Go.WideShapes Go.ChangeAt Go.RowKit Go.Maps Go.Sort
set_option linter.unusedVariables false
set_option maxRecDepth 100000
set_option maxHeartbeats 4000000
theorem sf45 : Tryz.prog.underlying 45 = some (.struct (Tryz.prog.fieldsOf 45)) := by kernel_rfl
theorem sh45 : Tryz.prog.stoodInHeld 45 = false := by kernel_rfl
theorem eg45 : Tryz.prog.eqGuardType Tryz.prog.depth 45 = false := by kernel_rfl
theorem eq45 (t n : Int) (s : ByteArray) (w : World) : (Op.equalIn 10000 45 (.agg #[.int .i64 t, .int .i64 n, .string s]) (.agg #[.int .i64 t, .int .i64 n, .string s])).run Tryz.prog w = .ok true w := by
  rw [run_equalIn_agg w 9999 45 _ _ sf45 sh45]
  have fl : (Tryz.prog.fieldsOf 45).toList.map (fun f => (f.type, f.offset, f.name == "_")) = [(3, 0, false), (2, 1, false), (9, 2, false)] := by kernel_rfl
  obtain ⟨f0, f1, f2, hf⟩ : ∃ f0 f1 f2, (Tryz.prog.fieldsOf 45).toList = [f0, f1, f2] := by
    have h := congrArg List.length fl
    rw [List.length_map] at h
    match hq : (Tryz.prog.fieldsOf 45).toList, h with
    | [f0, f1, f2], _ => exact ⟨f0, f1, f2, rfl⟩
  have h := fl
  rw [hf] at h ⊢
  simp at h
  simp [Op.eqFields, go_sem, h, Tryz.underlying9, Tryz.underlying2, Tryz.underlying3]
/-- what is read of a table, wherever its box stands -/
structure TbR (W A : World) (pT : Option Addr) (pR : Option Addr) (T : List Int) (LL : List (List Cl)) : Prop where
  t : ∀ k t, T[k]? = some t → ∃ b off, pT = some ⟨b, off, none⟩ ∧ ∀ wr, Below A.heap.size A wr → wr.cell? ⟨b, off + k, none⟩ = some (.int .i64 t)
  r : ∀ i L, LL[i]? = some L → ∃ b off p c, pR = some ⟨b, off, none⟩ ∧ (∀ wr, Below A.heap.size A wr → wr.cell? ⟨b, off + i, none⟩ = some (.slice p L.length c)) ∧ ∀ k x, L[k]? = some x → ∃ b2 off2, p = some ⟨b2, off2, none⟩ ∧ ∀ wr, Below A.heap.size A wr → (ldC (.pointer (some ⟨b2, off2 + k * 3, none⟩))).run Tryz.prog wr = .ok x.val wr
theorem tbr_of {W A : World} {pT pR : Option Addr} {T : List Int} {LL : List (List Cl)} {ts : List (Option Addr × Nat × Nat)} (hBA : Below W.heap.size W A) (h2 : Lies kI W pT T) (h4 : Lies kS W pR ts) (h6 : ts.length = LL.length) (h7 : ∀ i (h : i < LL.length), ∃ p c, ts[i]? = some (p, LL[i].length, c) ∧ Lies kC W p LL[i]) : TbR W A pT pR T LL := by
  refine ⟨fun k t hk => ?_, fun i L hi => ?_⟩
  · obtain ⟨hkl, e⟩ := List.getElem?_eq_some_iff.1 hk
    obtain ⟨b, off, e1, hlt, hr⟩ := h2.2 k hkl
    refine ⟨b, off, e1, fun wr hb => ?_⟩
    have hb0 := hBA.trans (hb.mono hBA.size)
    have g3 := hr 0 (.int .i64 t) (by rw [e]; rfl)
    have x3 : (⟨b, off + k * kI.s + 0, none⟩ : Addr) = ⟨b, off + k, none⟩ := by simp [kI]
    rw [x3] at g3
    exact (hb0.cell (p := ⟨b, off + k, none⟩) hlt).trans g3
  · obtain ⟨hil, e⟩ := List.getElem?_eq_some_iff.1 hi
    subst e
    obtain ⟨p, c, e1, e2⟩ := h7 i hil
    have hit : i < ts.length := by omega
    obtain ⟨b, off, e, hlt, hr⟩ := h4.2 i hit
    refine ⟨b, off, p, c, e, fun wr hb => ?_, fun k x hk => ?_⟩
    · have hts : ts[i] = (p, LL[i].length, c) := by
        have := List.getElem?_eq_getElem hit
        rw [this] at e1
        exact Option.some.inj e1
      have := hr 0 (.slice p LL[i].length c) (by rw [hts]; rfl)
      have hb0 := hBA.trans (hb.mono hBA.size)
      have e3 : (⟨b, off + i * kS.s + 0, none⟩ : Addr) = ⟨b, off + i, none⟩ := by simp [kS]
      rw [e3] at this
      exact (hb0.cell (p := ⟨b, off + i, none⟩) hlt).trans this
    · obtain ⟨hkl, ex⟩ := List.getElem?_eq_some_iff.1 hk
      subst ex
      obtain ⟨b2, off2, e2', hlt2, hr2⟩ := e2.2 k hkl
      refine ⟨b2, off2, e2', fun wr hb => ?_⟩
      have hb0 := hBA.trans (hb.mono hBA.size)
      exact run_ldC (fun j u hu => (hb0.cell (p := ⟨b2, off2 + k * 3 + j, none⟩) hlt2).trans (hr2 j u hu))
section
attribute [local go_sem ↓] ldC_is
theorem same_yes {B B' : Nat} {W : World} {v v' : Value} {T : List Int} {LL : List (List Cl)} (h : TblOut B W v T LL) (h' : TblOut B' W v' T LL) (hTb : T.length ≤ 4194304) (hLb : LL.length ≤ 4194304) (hRb : ∀ L ∈ LL, L.length ≤ 4194304) :
    Calls Tryz.prog 11 #[v, v'] W fun e w' => e = .returned (.bool true) ∧ Below W.heap.size W w' := by
  obtain ⟨pT, cT, pR, cR, ts, rfl, ⟨h2, _⟩, ⟨h4, _⟩, h6, h7⟩ := h
  obtain ⟨pU, cU, pV, cV, us, rfl, ⟨k2, _⟩, ⟨k4, _⟩, k6, k7⟩ := h'
  obtain ⟨nT, hnT⟩ : ∃ n, n = T.length := ⟨_, rfl⟩
  obtain ⟨nL, hnL⟩ : ∃ n, n = LL.length := ⟨_, rfl⟩
  obtain ⟨A, hA⟩ : ∃ A, A = (W.alloc (.cells #[.slice pT nT cT, .slice pR nL cR] 34)).alloc (.cells #[.slice pU nT cU, .slice pV nL cV] 34) := ⟨_, rfl⟩
  have hBA : Below W.heap.size W A := by rw [hA]; exact Below.a2 W _ _
  have b34 : Bk A W.heap.size 34 [.slice pT nT cT, .slice pR nL cR] := by
    show A.heap[_]? = _
    rw [hA, Below.heap_alloc _ _ _ (by simp)]
    exact heap_new _ _
  have b35 : Bk A (W.heap.size + 1) 34 [.slice pU nT cU, .slice pV nL cV] := by
    show A.heap[_]? = _
    have := heap_new (W.alloc (.cells #[.slice pT nT cT, .slice pR nL cR] 34)) (.cells #[.slice pU nT cU, .slice pV nL cV] 34)
    simp only [World.size_alloc] at this
    rw [hA]; exact this
  have CC : Hid (∀ wr, Below A.heap.size A wr → wr.cell? ⟨W.heap.size, 0, none⟩ = some (.slice pT nT cT) ∧ wr.cell? ⟨W.heap.size, 1, none⟩ = some (.slice pR nL cR) ∧ wr.cell? ⟨W.heap.size + 1, 0, none⟩ = some (.slice pU nT cU) ∧ wr.cell? ⟨W.heap.size + 1, 1, none⟩ = some (.slice pV nL cV)) := fun wr hb => by
    have b := b34.same (hb.block _ b34.lt)
    have b' := b35.same (hb.block _ b35.lt)
    exact ⟨b.cell 0, b.cell 1, b'.cell 0, b'.cell 1⟩
  have R1 := hide (tbr_of hBA h2 h4 h6 (fun i hi => by obtain ⟨p, c, e1, e2, _⟩ := h7 i hi; exact ⟨p, c, e1, e2⟩))
  have R2 := hide (tbr_of hBA k2 k4 k6 (fun i hi => by obtain ⟨p, c, e1, e2, _⟩ := k7 i hi; exact ⟨p, c, e1, e2⟩))
  have HT : Hid (∀ k, k < nT → ∃ t, T[k]? = some t) := fun k hk => ⟨_, List.getElem?_eq_getElem (by omega)⟩
  have HL : Hid (∀ i, i < nL → ∃ L, LL[i]? = some L ∧ L.length ≤ 4194304) := fun i hi => ⟨_, List.getElem?_eq_getElem (by omega), hRb _ (List.getElem_mem _)⟩
  have HA := hide hA; have HBA := hide hBA
  rw [← hnT] at hTb ⊢
  rw [← hnL] at hLb ⊢
  obtain ⟨a0, a1, a2, a3⟩ := unhide CC A (Below.refl _ _)
  clear h2 h4 h6 h7 k2 k4 k6 k7 hnT hnL hA hBA b34 b35 hRb
  go_enter Tryz.func11, Tryz.ntmps11
  go_upto_region 1 with fail
  rw [← unhide HA]
  go_wp2_with fail
  clear a0 a1 a2 a3
  go_loopw [5] (fun v5 wr => ∃ (i : Nat), v5 = .int .i64 i ∧ i ≤ nT ∧ Hid (Below A.heap.size A wr)) (fun v5 _ => nT - (intOf v5).toNat)
  case atStart => exact ⟨0, rfl, by omega, Below.refl _ _⟩
  case round =>
    obtain ⟨i, rfl, hi, hB⟩ := hrel
    obtain ⟨a0, a1, a2, a3⟩ := unhide CC wr (unhide hB)
    by_cases hlt : i < nT
    · obtain ⟨t, ht⟩ := unhide HT i hlt
      obtain ⟨b, off, e1, g1⟩ := (unhide R1).t i t ht
      obtain ⟨b', off', e1', g1'⟩ := (unhide R2).t i t ht
      subst e1
      subst e1'
      have g1 := g1 wr (unhide hB)
      have g1' := g1' wr (unhide hB)
      have hin : (i : Int) < (nT : Int) := by omega
      have hi0 : ¬ (i : Int) < 0 := by omega
      clear R1 R2 HT HL
      go_upto_region 6 with fail
      go_quiet (fail)
      go_wp2_with fail
      exact ⟨⟨i + 1, by go_num, by omega, below_drewN (unhide hB) _⟩, by simp [intOf]; omega⟩
    · have hin : i = nT := by omega
      subst hin
      go_wp2_with fail
      obtain ⟨wo, hwo⟩ : ∃ x, x = wr := ⟨_, rfl⟩
      have HBo : Hid (Below A.heap.size A wo) := by rw [hwo]; exact unhide hB
      rw [← hwo]
      clear hwo a0 a1 a2 a3 hB
      go_loopw [6] (fun v6 wr => ∃ (j : Nat), v6 = .int .i64 j ∧ j ≤ nL ∧ Hid (Below A.heap.size A wr)) (fun v6 _ => nL - (intOf v6).toNat)
      case atStart => exact ⟨0, rfl, by omega, unhide HBo⟩
      case round =>
        obtain ⟨j, rfl, hj, hB⟩ := hrel
        obtain ⟨a0, a1, a2, a3⟩ := unhide CC wr (unhide hB)
        by_cases hlj : j < nL
        · obtain ⟨L, hL, hLm⟩ := unhide HL j hlj
          obtain ⟨b, off, p, c, e1, hrow, hcell⟩ := (unhide R1).r j L hL
          obtain ⟨b', off', p', c', e1', hrow', hcell'⟩ := (unhide R2).r j L hL
          obtain ⟨m, hm⟩ : ∃ m, m = L.length := ⟨_, rfl⟩
          rw [← hm] at hrow hrow' hLm
          have HX : Hid (∀ k, k < m → ∃ x, L[k]? = some x) := fun k hk => ⟨_, List.getElem?_eq_getElem (by omega)⟩
          subst e1
          subst e1'
          have HROW := hide hrow
          have HROW' := hide hrow'
          have HCELL := hide hcell
          have HCELL' := hide hcell'
          have r1 := hrow wr (unhide hB)
          have r2 := hrow' wr (unhide hB)
          have hjn : (j : Int) < (nL : Int) := by omega
          have hj0 : ¬ (j : Int) < 0 := by omega
          clear hrow hrow' hcell hcell' hm R1 R2 HT HL
          go_upto_region 11 with fail
          go_quiet (fail)
          go_wp2_with fail
          obtain ⟨wq, hwq⟩ : ∃ x, x = wr.drewN nq := ⟨_, rfl⟩
          have HBq : Hid (Below A.heap.size A wq) := by rw [hwq]; exact below_drewN (unhide hB) nq
          rw [← hwq]
          clear hwq a0 a1 a2 a3 hB r1 r2
          go_loopw [7] (fun v7 wr => ∃ (k : Nat), v7 = .int .i64 k ∧ k ≤ m ∧ Hid (Below A.heap.size A wr)) (fun v7 _ => m - (intOf v7).toNat)
          case atStart => exact ⟨0, rfl, by omega, unhide HBq⟩
          case round =>
            obtain ⟨k, rfl, hk, hB⟩ := hrel
            obtain ⟨a0, a1, a2, a3⟩ := unhide CC wr (unhide hB)
            have r1 := unhide HROW wr (unhide hB)
            have r2 := unhide HROW' wr (unhide hB)
            by_cases hlk : k < m
            · obtain ⟨x, hx⟩ := unhide HX k hlk
              obtain ⟨b2, off2, e2, g2⟩ := unhide HCELL k x hx
              obtain ⟨b3, off3, e3, g3⟩ := unhide HCELL' k x hx
              subst e2
              subst e3
              obtain ⟨t, n, sx⟩ := x
              have hBd : Below A.heap.size A wr.drew := below_drewN (unhide hB) 1
              have g2 : (ldC (.pointer (some ⟨b2, off2 + k * 3, none⟩))).run Tryz.prog wr.drew = .ok (.agg #[.int .i64 t, .int .i64 n, .string sx]) wr.drew := g2 wr.drew hBd
              have g3 : (ldC (.pointer (some ⟨b3, off3 + k * 3, none⟩))).run Tryz.prog wr.drew = .ok (.agg #[.int .i64 t, .int .i64 n, .string sx]) wr.drew := g3 wr.drew hBd
              obtain ⟨_, d1, _, d3⟩ := unhide CC wr.drew hBd
              have s1 := unhide HROW wr.drew hBd
              have s2 := unhide HROW' wr.drew hBd
              have HBD := hide hBd
              have hkn : (k : Int) < (m : Int) := by omega
              have hk0 : ¬ (k : Int) < 0 := by omega
              have q1 := eg45
              have q2 := eq45 t n sx
              clear HCELL HCELL' HROW HROW' HX
              clear hBd
              go_upto_region 16 with fail
              refine wp_region_last (n := 17) (S := fun W' => W'.cell? ⟨W.heap.size, 1, none⟩ = some (.slice (some ⟨b, off, none⟩) nL cR) ∧ W'.cell? ⟨W.heap.size + 1, 1, none⟩ = some (.slice (some ⟨b', off', none⟩) nL cV) ∧ W'.cell? ⟨b, off + j, none⟩ = some (.slice (some ⟨b2, off2, none⟩) m c) ∧ W'.cell? ⟨b', off' + j, none⟩ = some (.slice (some ⟨b3, off3, none⟩) m c') ∧ (ldC (.pointer (some ⟨b2, off2 + k * 3, none⟩))).run Tryz.prog W' = .ok (.agg #[.int .i64 t, .int .i64 n, .string sx]) W' ∧ (ldC (.pointer (some ⟨b3, off3 + k * 3, none⟩))).run Tryz.prog W' = .ok (.agg #[.int .i64 t, .int .i64 n, .string sx]) W') (by kernel_rfl) ⟨d1, d3, s1, s2, g2, g3⟩ (fun hHeld => ?_)
              refine tkW 0 ?_; refine tkN 1 ?_; refine tkW 2 ?_; refine tkW 3 ?_; refine tkN 4 ?_; refine tkW 5 ?_; refine tkW 6 ?_; refine tkN 7 ?_; refine tkW 8 ?_; refine tkN 9 ?_; refine tkW 10 ?_; refine tkW 11 ?_; refine tkN 12 ?_; refine tkW 13 ?_; refine tkW 14 ?_; refine tkN 15 ?_; refine tkW 16 ?_
              refine wpAnyL_done (by kernel_rfl) ?_
              go_wp2_with fail
              exact ⟨⟨k + 1, by go_num, by omega, unhide HBD⟩, by simp [intOf]; omega⟩
            · have hkn : k = m := by omega
              subst hkn
              clear HCELL HCELL' HROW HROW' HX
              go_wp2_with fail
              exact ⟨⟨j + 1, by go_num, by omega, unhide hB⟩, by simp [intOf]; omega⟩
        · have hjn : j = nL := by omega
          subst hjn
          go_wp2_with fail
          go_ret
          exact ⟨rfl, (unhide HBA).trans ((unhide hB).mono (unhide HBA).size)⟩
end
end Go.Proofs.YtbenciieenbmeaaGreatDoor
/- answer: what a scan answers, as a table whatever it is. -/
namespace Go.Proofs.YtbenciieenbmeaaGreatDoor
open Go Go.Shelf Go.ChangeShapes Go.WideShapes Go.ChangeAt Go.RowKit Go.Maps Go.Sort
set_option linter.unusedVariables false
set_option maxRecDepth 100000
set_option maxHeartbeats 4000000
theorem tbl_none (B : Nat) (w : World) : TblOut B w (.agg #[.slice none 0 0, .slice none 0 0]) [] [] :=
  ⟨none, 0, none, 0, [], rfl, ⟨⟨fun _ => rfl, fun k hk => by cases hk⟩, fun b o e => by cases e⟩, ⟨⟨fun _ => rfl, fun k hk => by cases hk⟩, fun b o e => (by cases e), Nat.le_refl _⟩, rfl, fun i hi => by cases hi⟩
/-- the error of a scan -/
noncomputable def scE (q : Qy) (R : List Ro) : Int := if okQ q = true then (if overB q (scF q) (scS q) R = true then 11 else 0) else 140
/-- a scan's lines in their order -/
def ScL (q : Qy) (R : List Ro) (LL : List (List Cl)) : Prop := LL.Perm (linesL q (scF q) (scS q) R) ∧ LL.Pairwise (fun a b => ¬ cmpK (keysL (scP q) q.ords (scF q).length) b a < 0)
/-- a scan's types and rows -/
def ScT (q : Qy) (R : List Ro) (T : List Int) (LL : List (List Cl)) : Prop :=
  (scE q R = 0 ∧ T = chkL q ∧ ∃ M, ScL q R M ∧ LL = (M.take (limN q.lim M.length)).map (rowL (scP q))) ∨ (scE q R ≠ 0 ∧ T = [] ∧ LL = [])
theorem ScanOut.tbl {W : World} {q : Qy} {R : List Ro} {e : Ending} {w' : World} (h : ScanOut W q R e w') : ∃ v T LL, e = .returned (.tuple #[v, .int .i64 (scE q R)]) ∧ TblOut W.heap.size w' v T LL ∧ ScT q R T LL := by
  obtain ⟨_, h1, h2, h3⟩ := h
  unfold ScT scE
  cases hok : okQ q with
  | false => exact ⟨_, [], [], h1 hok, tbl_none _ _, .inr ⟨(show (140 : Int) ≠ 0 by decide), rfl, rfl⟩⟩
  | true =>
    cases hov : overB q (scF q) (scS q) R with
    | true => exact ⟨_, [], [], h2 hok hov, tbl_none _ _, .inr ⟨(show (11 : Int) ≠ 0 by decide), rfl, rfl⟩⟩
    | false =>
      obtain ⟨v, LL, e1, e2, e3, e4⟩ := h3 hok hov
      exact ⟨v, _, _, e1, e4, .inl ⟨rfl, rfl, LL, ⟨e2, e3⟩, rfl⟩⟩
theorem ScT.ty {q : Qy} {R : List Ro} {T : List Int} {LL : List (List Cl)} (h : ScT q R T LL) : ∀ L ∈ LL, L.map Cl.ty = T := by
  rcases h with ⟨h1, rfl, M, hM, rfl⟩ | ⟨_, rfl, rfl⟩
  · intro L hL
    obtain ⟨N, hN, rfl⟩ := List.mem_map.1 hL
    have hok : okQ q = true := by
      cases hok : okQ q with
      | true => rfl
      | false => unfold scE at h1; rw [hok] at h1; cases h1
    have hov : overB q (scF q) (scS q) R = false := by
      cases hov : overB q (scF q) (scS q) R with
      | false => rfl
      | true => unfold scE at h1; rw [hok, hov] at h1; cases h1
    exact row_ty hok hov (hM.1.mem_iff.1 (List.mem_of_mem_take hN))
  · intro L hL; cases hL
theorem ScT.len {q : Qy} {R : List Ro} {T : List Int} {LL : List (List Cl)} (h : ScT q R T LL) : T.length ≤ q.by'.length + q.sh.length ∧ LL.length ≤ R.length + 1 := by
  rcases h with ⟨h1, rfl, M, hM, rfl⟩ | ⟨_, rfl, rfl⟩
  · have hok : okQ q = true := by
      cases hok : okQ q with
      | true => rfl
      | false => unfold scE at h1; rw [hok] at h1; cases h1
    refine ⟨by rw [chk_len hok]; exact Nat.le_refl _, ?_⟩
    rw [List.length_map, List.length_take]
    have := hM.1.length_eq
    have := lines_count q (scF q) (scS q) R
    omega
  · exact ⟨Nat.zero_le _, Nat.zero_le _⟩
end Go.Proofs.YtbenciieenbmeaaGreatDoor
/- answer: a scan's lines in their order are there just once (no program in it). -/
namespace Go.Proofs.YtbenciieenbmeaaGreatDoor
open Go Go.Shelf Go.ChangeShapes Go.WideShapes Go.ChangeAt Go.RowKit Go.Maps Go.Sort
set_option linter.unusedVariables false
set_option maxRecDepth 100000
set_option maxHeartbeats 4000000
theorem addL_has (L : List (Int × Bool)) : ∀ x ∈ L, x.1 ∈ (addL L).map (·.1) := by
  refine onD_ind (p := fun L => ∀ x ∈ L, x.1 ∈ (addL L).map (·.1)) (fun x h => by cases h) (fun L y ih => ?_) L
  intro x hx
  rw [addL_snoc]
  unfold addK
  rcases List.mem_append.1 hx with h | h
  · have h1 := ih x h
    split
    · exact h1
    · rw [List.map_append]; exact List.mem_append_left _ h1
  · have e := List.mem_singleton.1 h
    subst e
    split
    · assumption
    · rw [List.map_append]; exact List.mem_append_right _ (by simp)
theorem keys_has (P : List Int) (O : List (Int × Bool)) (nF d : Nat) (hd : d < nF) : ∃ s, ((d : Int), s) ∈ keysL P O nF := by
  have h1 : ((d : Int), false) ∈ keyO P O ++ keyF nF := by
    refine List.mem_append_right _ ?_
    unfold keyF
    exact List.mem_map.2 ⟨d, List.mem_range.2 hd, rfl⟩
  obtain ⟨x, hx, e⟩ := List.mem_map.1 (addL_has _ _ h1)
  obtain ⟨x1, x2⟩ := x
  simp only at e
  subst e
  exact ⟨x2, hx⟩
theorem bytes_ext {s t : ByteArray} (h : s.data.toList = t.data.toList) : s = t := by
  cases s; cases t
  simp only at h
  rw [Array.toList_inj.1 h]
/-- a key is .no behind its fields -/
theorem key_rest {q : Qy} {F : List Int} {S : List Ag} {R : List Ro} (hF14 : F.length ≤ 14) {k : List Cl} (hk : k ∈ ksF q F S R) : k = k.take F.length ++ List.replicate (14 - F.length) .no := by
  have hR : ∀ k ∈ ksR q F R, k = k.take F.length ++ List.replicate (14 - F.length) .no := fun k hk => by
    unfold ksR at hk
    rw [mem_onD] at hk
    obtain ⟨r, _, rfl⟩ := List.mem_map.1 hk
    unfold keyK
    rw [List.take_append_of_le_length (by rw [List.length_map]; exact Nat.le_refl _), List.take_of_length_le (by rw [List.length_map]; exact Nat.le_refl _)]
  unfold ksF at hk
  split at hk
  · rename_i hh
    split at hk
    · exact hR k hk
    · rcases List.mem_append.1 hk with h | h
      · exact hR k h
      · rw [List.mem_singleton.1 h, hh.1]; rfl
  · exact hR k hk
theorem line_one {q : Qy} {R : List Ro} (hok : okQ q = true) (hov : overB q (scF q) (scS q) R = false) {a b : List Cl} (ha : a ∈ linesL q (scF q) (scS q) R) (hb : b ∈ linesL q (scF q) (scS q) R) (h : cmpK (keysL (scP q) q.ords (scF q).length) a b = 0) : a = b := by
  unfold linesL at ha hb
  obtain ⟨k, hk, rfl⟩ := List.mem_map.1 ha
  obtain ⟨k', hk', rfl⟩ := List.mem_map.1 hb
  have h14 : (scF q).length ≤ 14 := ok_by hok
  have hF : ∀ f ∈ scF q, isF f = true := fun f hf => ((ok_iff q).1 hok).p3 f ((mem_onD _ _).1 hf)
  rw [cmpK_zero] at h
  have g1 : ∀ k ∈ ksF q (scF q) (scS q) R, ∀ d, d < (scF q).length → (lnC k (scF q).length (scS q) (φR q (scF q) R k)).getD d .no = k.getD d .no := fun k hk d hd => by
    have := ksF_14 h14 k hk
    unfold lnC
    rw [List.getD_eq_getElem?_getD, List.getD_eq_getElem?_getD, List.getElem?_append_left (by rw [List.length_take]; omega), List.getElem?_take, if_pos hd]
  have e : k.take (scF q).length = k'.take (scF q).length := by
    refine List.ext_getElem? fun d => ?_
    rw [List.getElem?_take, List.getElem?_take]
    by_cases hd : d < (scF q).length
    · rw [if_pos hd, if_pos hd]
      obtain ⟨c, hc, ht⟩ := key_ty h14 hF hov hk d hd
      obtain ⟨c', hc', ht'⟩ := key_ty h14 hF hov hk' d hd
      obtain ⟨s, hs⟩ := keys_has (scP q) q.ords (scF q).length d hd
      have h0 := h _ hs
      rw [cmp1_zero] at h0
      simp only [Int.toNat_natCast] at h0
      rw [g1 k hk d hd, g1 k' hk' d hd, List.getD_eq_getElem?_getD, List.getD_eq_getElem?_getD, hc, hc'] at h0
      simp only [Option.getD_some] at h0
      rw [hc, hc']
      obtain ⟨t, n, x⟩ := c
      obtain ⟨t', n', x'⟩ := c'
      simp only at ht ht' h0
      rw [ht, ht', h0.1, bytes_ext h0.2]
    · rw [if_neg hd, if_neg hd]
  have ek : k = k' := by rw [key_rest h14 hk, key_rest h14 hk', e]
  rw [ek]
theorem ScL.one {q : Qy} {R : List Ro} (hok : okQ q = true) (hov : overB q (scF q) (scS q) R = false) {M M' : List (List Cl)} (h : ScL q R M) (h' : ScL q R M') : M = M' := by
  refine List.Perm.eq_of_pairwise (fun a b ha hb h1 h2 => ?_) h.2 h'.2 (h.1.trans h'.1.symm)
  refine line_one hok hov (h.1.mem_iff.1 ha) (h'.1.mem_iff.1 hb) ?_
  have := cmpK_anti (keysL (scP q) q.ords (scF q).length) a b
  omega
end Go.Proofs.YtbenciieenbmeaaGreatDoor
/- answer: what a scan answers does not hang on the rows' order (no program in it). -/
namespace Go.Proofs.YtbenciieenbmeaaGreatDoor
open Go Go.Shelf Go.ChangeShapes Go.WideShapes Go.ChangeAt Go.RowKit Go.Maps Go.Sort
set_option linter.unusedVariables false
set_option maxRecDepth 100000
set_option maxHeartbeats 4000000
theorem cell_one {c d : Cl} (ht : c.ty = d.ty) (h : cmpC c d = 0) : c = d := by
  rw [cmpC_zero] at h
  obtain ⟨t, n, x⟩ := c
  obtain ⟨t', n', x'⟩ := d
  simp only at ht h
  rw [ht, h.1, bytes_ext h.2]
theorem cmp_le {a b c : Cl} (h1 : ¬ cmpC b a < 0) (h2 : ¬ cmpC c b < 0) : ¬ cmpC c a < 0 := fun h => by
  rcases Int.lt_trichotomy (cmpC a b) 0 with h3 | h3 | h3
  · exact h2 (cmpC_trans h h3)
  · rw [cmpC_zero] at h3
    rw [cmpC_neg] at h h2
    rw [← h3.1, ← h3.2] at h2
    exact h2 h
  · have := cmpC_anti a b; omega
theorem tkE_comm (k : Int) (e : Cl) {c d : Cl} (ht : c.ty = d.ty) (h0 : c.ty ≠ 0) : tkE k (tkE k e c) d = tkE k (tkE k e d) c := by
  have h0' : d.ty ≠ 0 := by rw [← ht]; exact h0
  have an1 := cmpC_anti c d
  have an2 := cmpC_anti c e
  have an3 := cmpC_anti d e
  unfold tkE
  by_cases k3 : k = 3
  · simp only [if_pos k3]
    by_cases he : e.ty = 0
    · simp only [he, true_or, if_true, h0, h0', false_or]
      by_cases h1 : cmpC d c < 0
      · rw [if_pos h1, if_neg (by omega)]
      · rw [if_neg h1]
        by_cases h2 : cmpC c d < 0
        · rw [if_pos h2]
        · rw [if_neg h2]; exact cell_one ht (by omega)
    · simp only [he, false_or]
      by_cases hc : cmpC c e < 0
      · by_cases hd : cmpC d e < 0
        · simp only [if_pos hc, if_pos hd, h0, h0', false_or]
          by_cases h1 : cmpC d c < 0
          · rw [if_pos h1, if_neg (by omega)]
          · rw [if_neg h1]
            by_cases h2 : cmpC c d < 0
            · rw [if_pos h2]
            · rw [if_neg h2]; exact cell_one ht (by omega)
        · simp only [if_pos hc, if_neg hd, h0, he, false_or]
          rw [if_neg (fun h => hd (cmpC_trans h hc))]
      · by_cases hd : cmpC d e < 0
        · simp only [if_neg hc, if_pos hd, h0', he, false_or]
          rw [if_neg (fun h => hc (cmpC_trans h hd))]
        · simp only [if_neg hc, if_neg hd, he, false_or]
  · simp only [if_neg k3]
    by_cases k4 : k = 4
    · simp only [if_pos k4]
      by_cases he : e.ty = 0
      · simp only [he, true_or, if_true, h0, h0', false_or]
        by_cases h1 : cmpC d c > 0
        · rw [if_pos h1, if_neg (by omega)]
        · rw [if_neg h1]
          by_cases h2 : cmpC c d > 0
          · rw [if_pos h2]
          · rw [if_neg h2]; exact cell_one ht (by omega)
      · simp only [he, false_or]
        by_cases hc : cmpC c e > 0
        · by_cases hd : cmpC d e > 0
          · simp only [if_pos hc, if_pos hd, h0, h0', false_or]
            by_cases h1 : cmpC d c > 0
            · rw [if_pos h1, if_neg (by omega)]
            · rw [if_neg h1]
              by_cases h2 : cmpC c d > 0
              · rw [if_pos h2]
              · rw [if_neg h2]; exact cell_one ht (by omega)
          · simp only [if_pos hc, if_neg hd, h0, he, false_or]
            rw [if_neg (fun h => hd (by have := cmpC_trans (x := e) (y := c) (z := d) (by omega) (by omega); omega))]
        · by_cases hd : cmpC d e > 0
          · simp only [if_neg hc, if_pos hd, h0', he, false_or]
            rw [if_neg (fun h => hc (by have := cmpC_trans (x := e) (y := d) (z := c) (by omega) (by omega); omega))]
          · simp only [if_neg hc, if_neg hd, he, false_or]
    · simp only [if_neg k4]
theorem cnt_ok {q : Qy} {F : List Int} {S : List Ag} {R : List Ro} (hrows : rowsB q F S R = false) {r : Ro} (hr : r ∈ R) (hc : cntB q r = true) : badT (vlL q.nodes r) S = false := by
  unfold rowsB at hrows
  rw [List.any_eq_false] at hrows
  have hst : stE q F S r = 0 := by simpa using hrows r hr
  have hnum : (whC q r).num = 1 := by unfold cntB at hc; simpa using hc
  cases hb : badT (vlL q.nodes r) S with
  | false => rfl
  | true =>
    unfold stE at hst
    by_cases h1 : (whC q r).ty = 0
    · rw [if_pos h1] at hst; cases hst
    · rw [if_neg h1, if_neg (fun e => e hnum)] at hst
      by_cases h2 : badK F r = true
      · rw [if_pos h2] at hst; cases hst
      · rw [if_neg h2, if_pos hb] at hst; cases hst
/-- what an aggregate is of has a type -/
def AgT (q : Qy) (S : List Ag) : Prop := ∀ x ∈ S, ¬ x.kd = 1 → tat (tyL q.nodes) x.of' ≠ 0
theorem ok_agT {q : Qy} (hok : okQ q = true) : AgT q (scS q) := fun x hx h1 => by
  unfold scS at hx
  rw [mem_onD] at hx
  unfold shL at hx
  obtain ⟨i, hi, rfl⟩ := List.mem_mapIdx.1 hx
  have h5 := ((ok_iff q).1 hok).p5 q.sh[i] (List.getElem_mem hi)
  show tat _ (if q.sh[i].1 = 1 then 0 else q.sh[i].2) ≠ 0
  rw [if_neg (show ¬ q.sh[i].1 = 1 from h1)]
  exact shw_nz h5 h1
theorem φR_perm {q : Qy} {F : List Int} {S : List Ag} {R R' : List Ro} (hok : okQ q = true) (hT : AgT q S) (hrows : rowsB q F S R = false) (hp : R.Perm R') (k : List Cl) {x : Ag} (hx : x ∈ S) : φR q F R k x = φR q F R' k x := by
  unfold φR talR
  refine List.Perm.foldl_eq' (hp.filter _) (fun r hr r' hr' z => ?_) _
  have hc : ∀ r ∈ R.filter (inK q F k), (cAt (vlL q.nodes r) x).ty ≠ 0 ∧ (cAt (vlL q.nodes r) x).ty = (if x.kd = 1 then 1 else tat (tyL q.nodes) x.of') := fun r hr => by
    obtain ⟨h1, h2⟩ := List.mem_filter.1 hr
    unfold inK at h2
    rw [Bool.and_eq_true] at h2
    have hb := cnt_ok hrows h1 h2.1
    unfold badT at hb
    rw [List.any_eq_false] at hb
    have hne : (cAt (vlL q.nodes r) x).ty ≠ 0 := by simpa using hb x hx
    refine ⟨hne, ?_⟩
    by_cases h1 : x.kd = 1
    · unfold cAt; rw [if_pos h1, if_pos h1]
    · rw [if_neg h1]
      have h3 := (vat_ty (val_ty ((ok_iff q).1 hok).p1 r) x.of').resolve_right (hT x hx h1)
      unfold cAt at hne ⊢
      rw [if_neg h1] at hne ⊢
      exact h3.resolve_right hne
  have h1 := hc r hr
  have h2 := hc r' hr'
  refine Prod.ext ?_ ?_
  · show tkZ x.kd (tkZ x.kd z.1 _) _ = tkZ x.kd (tkZ x.kd z.1 _) _
    unfold tkZ
    split
    · omega
    · rfl
  · exact tkE_comm x.kd z.2 (h1.2.trans h2.2.symm) h1.1
theorem ksR_perm (q : Qy) (F : List Int) {R R' : List Ro} (hp : R.Perm R') : (ksR q F R).Perm (ksR q F R') := by
  unfold ksR
  rw [List.perm_ext_iff_of_nodup (nodup_onD _) (nodup_onD _)]
  intro a
  rw [mem_onD, mem_onD]
  exact ((hp.filter _).map _).mem_iff
theorem ksF_perm (q : Qy) (F : List Int) (S : List Ag) {R R' : List Ro} (hp : R.Perm R') : (ksF q F S R).Perm (ksF q F S R') := by
  have h := ksR_perm q F hp
  unfold ksF
  split
  · by_cases hm : noK ∈ ksR q F R
    · rw [if_pos hm, if_pos (h.mem_iff.1 hm)]; exact h
    · rw [if_neg hm, if_neg (fun e => hm (h.mem_iff.2 e))]; exact h.append_right _
  · exact h
theorem rows_perm (q : Qy) (F : List Int) (S : List Ag) {R R' : List Ro} (hp : R.Perm R') : rowsB q F S R = rowsB q F S R' := hp.any_eq
theorem any_congr' {α : Type} {L : List α} {f g : α → Bool} (h : ∀ x ∈ L, f x = g x) : L.any f = L.any g := by
  induction L with
  | nil => rfl
  | cons x L ih => rw [List.any_cons, List.any_cons, h x (List.mem_cons_self ..), ih (fun y hy => h y (List.mem_cons_of_mem _ hy))]
theorem over_perm {q : Qy} {F : List Int} {S : List Ag} {R R' : List Ro} (hok : okQ q = true) (hT : AgT q S) (hp : R.Perm R') : overB q F S R = overB q F S R' := by
  unfold overB
  rw [← rows_perm q F S hp]
  cases hr : rowsB q F S R with
  | true => rfl
  | false =>
    rw [Bool.false_or, Bool.false_or]
    unfold linesB
    rw [(ksF_perm q F S hp).any_eq]
    refine any_congr' fun k _ => ?_
    unfold lnB
    exact any_congr' fun x hx => by rw [φR_perm hok hT hr hp k hx]
theorem lines_perm {q : Qy} {F : List Int} {S : List Ag} {R R' : List Ro} (hok : okQ q = true) (hT : AgT q S) (hov : overB q F S R = false) (hp : R.Perm R') : (linesL q F S R).Perm (linesL q F S R') := by
  have hr : rowsB q F S R = false := by
    unfold overB at hov
    rw [Bool.or_eq_false_iff] at hov
    exact hov.1
  unfold linesL
  refine ((ksF_perm q F S hp).map _).trans (List.Perm.of_eq ?_)
  refine List.map_congr_left fun k _ => ?_
  unfold lnC
  congr 1
  exact List.map_congr_left fun x hx => by rw [φR_perm hok hT hr hp k hx]
theorem scE_perm {q : Qy} {R R' : List Ro} (hp : R.Perm R') : scE q R = scE q R' := by
  unfold scE
  cases hok : okQ q with
  | false => rfl
  | true => rw [over_perm hok (ok_agT hok) hp]
theorem scE_zero {q : Qy} {R : List Ro} (h : scE q R = 0) : okQ q = true ∧ overB q (scF q) (scS q) R = false := by
  unfold scE at h
  cases hok : okQ q with
  | false => rw [hok] at h; cases h
  | true =>
    cases hov : overB q (scF q) (scS q) R with
    | false => exact ⟨rfl, rfl⟩
    | true => rw [hok, hov] at h; cases h
/-- a scan's table is one, whatever the rows' order -/
theorem ScT.one {q : Qy} {R R' : List Ro} (hp : R.Perm R') {T T' : List Int} {LL LL' : List (List Cl)} (h : ScT q R T LL) (h' : ScT q R' T' LL') : T = T' ∧ LL = LL' := by
  have he := scE_perm (q := q) hp
  rcases h with ⟨h1, rfl, M, hM, rfl⟩ | ⟨h1, rfl, rfl⟩
  · rcases h' with ⟨g1, rfl, M', hM', rfl⟩ | ⟨g1, _, _⟩
    · obtain ⟨hok, hov⟩ := scE_zero h1
      have hM2 : ScL q R M' := ⟨hM'.1.trans (lines_perm hok (ok_agT hok) hov hp).symm, hM'.2⟩
      rw [ScL.one hok hov hM hM2]
      exact ⟨rfl, rfl⟩
    · exact absurd (he.symm.trans h1) g1
  · rcases h' with ⟨g1, _⟩ | ⟨g1, rfl, rfl⟩
    · exact absurd (he.trans g1) h1
    · exact ⟨rfl, rfl⟩
end Go.Proofs.YtbenciieenbmeaaGreatDoor
/- the law's first: its query, its rows and what they come to (no program in it). -/
namespace Go.Proofs.YtbenciieenbmeaaGreatDoor
open Go Go.Shelf Go.ChangeShapes Go.WideShapes Go.ChangeAt Go.RowKit Go.Maps Go.Sort
set_option linter.unusedVariables false
set_option maxRecDepth 100000
set_option maxHeartbeats 4000000
def q9 : Qy := ⟨[⟨16, -1, -1, 7, 0, ⟨#[]⟩⟩], -1, [6], [(1, -1), (2, 0)], [], -1⟩
def r9 (s : ByteArray) (n : Int) : Ro := ⟨0, 0, 5, 0, ⟨#[]⟩, s, n, ⟨#[]⟩, ⟨#[]⟩⟩
def R9 : List Ro := [r9 ⟨#[66]⟩ 2, r9 ⟨#[65]⟩ 3, r9 ⟨#[66]⟩ 4]
theorem ok9 : okQ q9 = true := by decide
theorem chk9 : chkL q9 = [2, 1, 5] := by decide
theorem F9 : scF q9 = [6] := by decide
theorem S9 : scS q9 = [⟨1, 0, 1⟩, ⟨2, 0, 5⟩] := by decide
theorem P9 : scP q9 = [0, 1, 2] := by decide
theorem lines9 : linesL q9 (scF q9) (scS q9) R9 = [[⟨2, 0, ⟨#[66]⟩⟩, ⟨1, 2, ⟨#[]⟩⟩, ⟨5, 6, ⟨#[]⟩⟩], [⟨2, 0, ⟨#[65]⟩⟩, ⟨1, 1, ⟨#[]⟩⟩, ⟨5, 3, ⟨#[]⟩⟩]] := by
  rw [F9, S9]
  kernel_rfl
theorem over9 : overB q9 (scF q9) (scS q9) R9 = false := by
  rw [F9, S9]
  kernel_rfl
def lA : List Cl := [⟨2, 0, ⟨#[65]⟩⟩, ⟨1, 1, ⟨#[]⟩⟩, ⟨5, 3, ⟨#[]⟩⟩]
def lB : List Cl := [⟨2, 0, ⟨#[66]⟩⟩, ⟨1, 2, ⟨#[]⟩⟩, ⟨5, 6, ⟨#[]⟩⟩]
theorem scL9 : ScL q9 R9 [lA, lB] := by
  refine ⟨?_, ?_⟩
  · rw [lines9]; exact List.Perm.swap _ _ _
  · rw [P9, F9]
    refine List.Pairwise.cons (fun b hb => ?_) (List.pairwise_singleton _ _)
    rw [List.mem_singleton.1 hb]
    have e : cmpK (keysL [0, 1, 2] q9.ords [(6 : Int)].length) lB lA = 1 := by kernel_rfl
    rw [e]
    decide
theorem scE9 : scE q9 R9 = 0 := by unfold scE; rw [ok9, over9]; rfl
theorem scT9 {T : List Int} {LL : List (List Cl)} (h : ScT q9 R9 T LL) : T = [2, 1, 5] ∧ LL = [lA, lB] := by
  rcases h with ⟨h1, rfl, M, hM, rfl⟩ | ⟨h1, _⟩
  · rw [ScL.one ok9 over9 hM scL9, chk9, P9]
    exact ⟨rfl, rfl⟩
  · exact absurd scE9 h1
end Go.Proofs.YtbenciieenbmeaaGreatDoor
