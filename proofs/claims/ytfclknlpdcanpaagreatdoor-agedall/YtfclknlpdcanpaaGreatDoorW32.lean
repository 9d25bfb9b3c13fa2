import Derived.Test.YtfclknlpdcanpaaGreatDoorW27
import Derived.Laws.MakeOwn
/- aged: Claims (21), Allots (22), slices.Clone (42). -/
namespace Go.Proofs.YtfclknlpdcanpaaGreatDoor
open Go Go.Shelf Go.ChangeShapes Go.WideShapes Go.ChangeAt Go.RowKit Go.Maps
set_option linter.unusedVariables false
theorem own_none0 (W : World) (e s : Nat) (O : Obj) (hO : O = .cells #[] e (0, 0)) : (W.alloc O).ownsRow W.heap.size e s (.slice (some ⟨W.heap.size, 0, none⟩) 0 0) 0 [] := by
  refine ⟨by simp, .inr ⟨W.heap.size, 0, #[], rfl, Nat.le_refl _, ?_, Nat.le_refl _, Nat.zero_le _, by simp, by simp⟩⟩
  rw [hO]
  exact heap_new _ _
theorem eqs25 (ad : Option Addr) (n c : Nat) (w : World) : (binOp .eql 60 (.slice ad n c) (.slice none 0 0)).run Tryz.prog w = .ok (.bool ad.isNone) w := by
  simp only [binOp]
  simp [run_equal_slice_nil w 60 58 ad n c Tryz.underlying60]
/-- a list that a call hands out -/
def ListOut {α : Type} (K : Kd α) (W w' : World) (L : List α) (e : Ending) : Prop := ∃ pp cc, e = .returned (.slice pp L.length cc) ∧ Lies K w' pp L ∧ Below W.heap.size W w' ∧ w'.ownsRow W.heap.size K.e K.s (.slice pp L.length cc) L.length (K.flat L)
set_option maxRecDepth 100000 in
set_option maxHeartbeats 4000000 in
theorem clone_any {W : World} {p : Option Addr} {c n : Nat} {M : List Al} (hn : M.length = n) (hl : n ≤ 1000) (hM : Lies kA W p M) (hp : p = none → c = 0) :
    Calls Tryz.prog 184 #[.slice p n c] W fun e w' => ListOut kA W w' M e := by
  cases p with
  | none =>
    have hM0 := hM.1 rfl
    subst hM0
    have hn0 : n = 0 := hn.symm
    subst hn0
    rw [hp rfl]
    have hnil := eqs25 none 0 0
    have HF : Hid (ListOut kA W W ([] : List Al) (.returned (.slice none 0 0))) := ⟨none, 0, rfl, Lies.nil _ _, Below.refl _ _, World.ownsRow_nil _ _ _ _⟩
    clear hM hn hp
    go_enter Tryz.func184, Tryz.ntmps184
    go_wp2_with fail
    go_ret
    exact unhide HF
  | some ad =>
    obtain ⟨O, hO⟩ : ∃ O, O = Obj.cells #[] 58 (0, 0) := ⟨_, rfl⟩
    have h0 := own_none0 W 58 4 O hO
    have hb0 : Below W.heap.size W (W.alloc O) := (Below.refl _ _).alloc (Nat.le_refl _) O
    obtain ⟨p', c', w', hr, ho, hb, _, hat⟩ := run_app kA_ok (L := []) (M := M) 60 h0 (by simp) (some ad) c (fun h => by cases h) (hM.below hb0) (by omega)
    rw [hn, Nat.zero_add] at hr ho hat
    have HF : Hid (ListOut kA W w' M (.returned (.slice p' n c'))) := ⟨p', c', by rw [hn], own_lies kA_ok hn (by simpa using ho), hb0.trans hb, by rw [hn]; simpa using ho⟩
    have HR := hide hr
    clear hr ho hb hat h0 hb0 hM
    subst hO
    have hnil := eqs25 (some ad) n c
    go_enter Tryz.func184, Tryz.ntmps184
    go_wp2_with (at_builtin; refine wpList_append_run rfl _ _ 60 rfl _ _ _ _ rfl rfl (unhide HR) ?_)
    go_ret
    exact unhide HF
theorem allots_vw {W : World} {d : Nat} {S : Nat → Prop} {C : List Cl} {A : List Al} {g : Int} (hV : Vw W d S C A g) : Calls Tryz.prog 93 #[ptr d] W fun e w' => ListOut kA W w' A e := by
  obtain ⟨G, hI, hR, hC, hA, hg, hown⟩ := hV.ex
  have hra := hR.ra
  obtain ⟨pa, ca, eva, hnil, _⟩ := row_slice hra
  rw [eva] at hra
  have hL := own_lies kA_ok rfl hra
  have dC := hide (clone_any (c := ca) rfl hI.l2 hL (fun h => (hnil h).2))
  have c3 : W.cell? ⟨d, 3, none⟩ = some (.slice pa G.al.length ca) := by rw [cell_at hR.ob]; show some G.va = _; rw [eva]
  rw [hA] at dC c3
  unfold ptr
  clear hV hI hR hC hA hg hown hra hL eva hnil
  go_enter Tryz.func93, Tryz.ntmps93
  go_wp2_with fail
  refine (unhide dC).mono ?_
  rintro e w1 ⟨pp, cc, rfl, h1, h2, h3⟩
  have HF : Hid (ListOut kA W w1 A (.returned (.slice pp A.length cc))) := ⟨pp, cc, rfl, h1, h2, h3⟩
  clear h1 h2 h3 dC
  go_wp2_with fail
  go_ret
  exact unhide HF
theorem setCells_row (b : Nat) (t : TypeId) : ∀ (vs : List Value) (o : Nat) (w : World) (cur : Array Value), w.heap[b]? = some (.cells cur t (0, 0)) → o + vs.length ≤ cur.size → ∃ cur', (w.setCells b o vs).heap[b]? = some (.cells cur' t (0, 0)) ∧ cur'.size = cur.size ∧ cur'.toList.take (o + vs.length) = cur.toList.take o ++ vs
  | [], o, w, cur, h, hl => ⟨cur, h, rfl, by simp⟩
  | v :: r, o, w, cur, h, hl => by
    have h1 := Go.heap_setCell_same w b o cur t v h
    obtain ⟨cur', h2, h3, h4⟩ := setCells_row b t r (o + 1) (w.setCell ⟨b, o, none⟩ v) _ h1 (by simp at hl ⊢; omega)
    refine ⟨cur', h2, by rw [h3]; simp, ?_⟩
    have e : o + (v :: r).length = o + 1 + r.length := by simp; omega
    rw [e, h4]
    have ho : o < cur.toList.length := by simp at hl ⊢; omega
    have e2 : (cur.setIfInBounds o v).toList = cur.toList.set o v := by simp
    rw [e2, List.take_succ_eq_append_getElem (by rw [List.length_set]; exact ho), List.take_set_of_le (Nat.le_refl _), List.getElem_set_self, List.append_assoc]
    rfl
theorem setCells_other (b : Nat) {k : Nat} (hk : k ≠ b) : ∀ (vs : List Value) (o : Nat) (w : World), (w.setCells b o vs).heap[k]? = w.heap[k]?
  | [], _, _ => rfl
  | v :: r, o, w => (setCells_other b hk r (o + 1) (w.setCell ⟨b, o, none⟩ v)).trans (Below.heap_setCell _ _ _ _ hk)
def st37 (x y : Value) : Sem Unit := Instr.storeAt 56 x y
theorem st37_is (x y : Value) : Instr.storeAt 56 x y = st37 x y := rfl
theorem run_st37 {w : World} {b o : Nat} (h : w.there b o 5) (c : Cl) : (st37 (.pointer (some ⟨b, o, none⟩)) (.agg #[.string c.key, .string c.acc, .int .i64 c.day, .int .i64 c.due, .int .i64 c.amt])).run Tryz.prog w = .ok () (w.setCells b o c.vals) :=
  run_storeAt_mid (P := Tryz.prog) w b o 56 #[.string c.key, .string c.acc, .int .i64 c.day, .int .i64 c.due, .int .i64 c.amt] h size37 (by simp [Value.oneCell'])
attribute [local go_sem ↓] ld37_is st37_is
/-- what Claims' loop keeps -/
structure ClsR (W wr : World) (C : List Cl) (n j : Nat) : Prop where
  bel : Below W.heap.size W wr
  row : ∃ cur, wr.heap[W.heap.size]? = some (.cells cur 56 (0, 0)) ∧ cur.size = n * 5 ∧ cur.toList.take (j * 5) = kC.flat (C.take j)
theorem run_mk23 (n : Nat) (hn : n ≤ 1000) (w : World) : ∃ cur, cur.size = n * 5 ∧ (Instr.makeSlice 59 (.int .i64 (n : Int)) (.int .i64 (n : Int))).run Tryz.prog w = .ok (.slice (some ⟨w.heap.size, 0, none⟩) n n) (w.alloc (.cells cur 56)) := by
  obtain ⟨i, z, hi, hz, hsize, hby, hzs⟩ := kC_ok.info
  have h := run_make (P := Tryz.prog) w 59 56 i z Tryz.underlying59 hi hz .i64 .i64 n n (by omega) (by omega) (by rw [hby]; show ((56 : Nat) : Int) * n ≤ _; omega) (by omega)
  simp only [Int.toNat_natCast] at h
  exact ⟨_, by rw [size_madeCells, hsize]; rfl, h⟩
set_option maxRecDepth 100000 in
set_option maxHeartbeats 8000000 in
theorem claims_vw {W : World} {d : Nat} {S : Nat → Prop} {C : List Cl} {A : List Al} {g : Int} (hV : Vw W d S C A g) : Calls Tryz.prog 91 #[ptr d] W fun e w' => ListOut kC W w' C e := by
  obtain ⟨G, hI, hR, hC, hA, hg, hown⟩ := hV.ex
  obtain ⟨pc, cc, evc, hnil, _⟩ := row_slice hR.rc
  have hrc := hR.rc
  rw [evc] at hrc
  have hL := own_lies kP_ok rfl hrc
  obtain ⟨n, hn⟩ : ∃ n, n = G.ps.length := ⟨_, rfl⟩
  have hnb : n ≤ 1000 := by rw [hn]; exact hI.l1
  have hCn : C.length = n := by rw [← hC, hn]; simp
  rw [← hn] at evc
  have c0 : W.cell? ⟨d, 0, none⟩ = some (.slice pc n cc) := by rw [cell_at hR.ob]; show some G.vc = _; rw [evc]
  obtain ⟨cur, hcs, hmk⟩ := run_mk23 n hnb W
  obtain ⟨X, hX⟩ : ∃ X, X = W.alloc (.cells cur 56) := ⟨_, rfl⟩
  rw [← hX] at hmk
  have hbX : Below W.heap.size W X := by rw [hX]; exact (Below.refl _ _).alloc (Nat.le_refl _) _
  have c0X : X.cell? ⟨d, 0, none⟩ = some (.slice pc n cc) := by rw [cell_at (hR.below hbX).ob]; show some G.vc = _; rw [evc]
  have HST : Hid (ClsR W X C n 0) := ⟨hbX, cur, by rw [hX]; exact heap_new _ _, hcs, by simp [Kd.flat]⟩
  have HR := hide hR; have HI := hide hI; have HC := hide hC; have HL := hide hL; have HN := hide hn; have HCN := hide hCn
  unfold ptr
  clear hV hI hR hC hA hg hown hrc hL evc hnil hn hbX hX hcs hCn
  go_enter Tryz.func91, Tryz.ntmps91
  go_wp2_with fail
  go_loopw [17] (fun v17 wr => ∃ (j : Nat), v17 = .int .i64 j ∧ j ≤ n ∧ Hid (ClsR W wr C n j)) (fun v17 _ => n - (intOf v17).toNat)
  case atStart => exact ⟨0, rfl, by omega, unhide HST⟩
  case round =>
    obtain ⟨j, rfl, hj, hrel⟩ := hrel
    have hA := unhide hrel
    by_cases hlt : j < n
    · have hjl : j < G.ps.length := by rw [← unhide HN]; exact hlt
      obtain ⟨b, off, e, hbl, hr⟩ := (unhide HL).2 j hjl
      obtain ⟨p, hp⟩ : ∃ p, p = G.ps[j] := ⟨_, rfl⟩
      rw [← hp] at hr
      have hpm : p ∈ G.ps := by rw [hp]; exact List.getElem_mem hjl
      have hpb : p ∈ G.bs := by rw [← (unhide HI).pb]; exact hpm
      have hc : wr.cell? ⟨b, off + j, none⟩ = some (.pointer (some ⟨p, 0, none⟩)) := by
        have h1 := hr 0 _ rfl
        rw [hA.bel.cell (p := ⟨b, off + j, none⟩) hbl]
        simpa [kP, ptr] using h1
      have hcb := ((unhide HR).below hA.bel).cb p hpb
      have hld := run_ld37 (w := wr) (b := p) (o := 0) (c := G.cl p) (fun i v hv => by
        rw [Nat.zero_add, cell_at hcb]
        unfold Gh.clV
        unfold Cl.vals at hv
        have hi : i < 5 := (List.getElem?_eq_some_iff.1 hv).1
        have : i = 0 ∨ i = 1 ∨ i = 2 ∨ i = 3 ∨ i = 4 := by omega
        rcases this with rfl | rfl | rfl | rfl | rfl <;> simpa using hv)
      obtain ⟨cu, h1, h2, h3⟩ := hA.row
      have hth : wr.there W.heap.size (j * 5) 5 := fun i hi => by
        refine ⟨?_, froz_at h1⟩
        rw [cell_at h1, Array.getElem?_eq_getElem (by rw [h2]; omega)]
        rfl
      have hst := run_st37 hth (G.cl p)
      obtain ⟨cu', k1, k2, k3⟩ := setCells_row W.heap.size 56 (G.cl p).vals (j * 5) wr cu h1 (by rw [h2]; show j * 5 + 5 ≤ n * 5; omega)
      have hCj : C.take (j + 1) = C.take j ++ [G.cl p] := by
        have hjC : j < C.length := by rw [unhide HCN]; exact hlt
        rw [List.take_succ_eq_append_getElem hjC]
        congr 1
        have hC' := unhide HC
        have : C[j] = G.cl p := by
          subst hp
          simp [← hC']
        rw [this]
      have HREL : Hid (ClsR W (wr.setCells W.heap.size (j * 5) (G.cl p).vals) C n (j + 1)) := by
        refine ⟨below5 (w := wr) (Nat.le_refl _) _ _ _ _ hA.bel, cu', k1, by rw [k2, h2], ?_⟩
        have e5 : (j + 1) * 5 = j * 5 + (G.cl p).vals.length := by show _ = j * 5 + 5; omega
        rw [e5, k3, h3, hCj, flat_append, flat_sing]
        rfl
      have hI3 : (j : Int) < n := by omega
      subst e
      clear hrel hA hr hbl hp hpm hpb hcb h1 h2 h3 hth k1 k2 k3 hCj hjl
      go_wp2_with fail
      exact ⟨⟨j + 1, by simp, by omega, unhide HREL⟩, by simp [intOf]; omega⟩
    · have hjn : j = n := by omega
      subst hjn
      obtain ⟨cu, h1, h2, h3⟩ := hA.row
      have hrow : wr.ownsRow W.heap.size 56 5 (.slice (some ⟨W.heap.size, 0, none⟩) j j) j (kC.flat C) := by
        rw [show C.take j = C from List.take_of_length_le (by rw [unhide HCN]; omega)] at h3
        exact ⟨by rw [flat_len kC_ok, unhide HCN]; rfl, .inr ⟨W.heap.size, j, cu, rfl, Nat.le_refl _, h1, Nat.le_refl _, by unfold maxLen; omega, h2, h3⟩⟩
      have HF : Hid (ListOut kC W wr C (.returned (.slice (some ⟨W.heap.size, 0, none⟩) j j))) := ⟨_, _, by rw [unhide HCN], own_lies kC_ok (unhide HCN) hrow, hA.bel, by rw [unhide HCN]; exact hrow⟩
      clear hrel hA h1 h2 h3 hrow
      go_wp2_with fail
      go_ret
      exact unhide HF
end Go.Proofs.YtfclknlpdcanpaaGreatDoor
