import Derived.Test.YtbenciieenbmeaaGreatDoorW15
import Derived.Test.YtbenciieenbmeaaGreatDoorW17
/- answer: keyOf 80. -/
namespace Go.Proofs.YtbenciieenbmeaaGreatDoor
open Go Go.Shelf Go.ChangeShapes Go.WideShapes Go.ChangeAt Go.RowKit Go.Maps
set_option linter.unusedVariables false
set_option maxRecDepth 100000
set_option maxHeartbeats 4000000
def ldK (x : Value) : Sem Value := Instr.loadAt 117 x
theorem ldK_is (x : Value) : Instr.loadAt 117 x = ldK x := rfl
def stK (x y : Value) : Sem Unit := Instr.storeAt 117 x y
theorem stK_is (x y : Value) : Instr.storeAt 117 x y = stK x y := rfl
theorem szK : (Tryz.prog.info? 117).map (·.size) = some 42 := by kernel_rfl
theorem run_ldK {w : World} {b o : Nat} {k : List Cl} (hk : k.length = 14) (h : w.rangeAt b o (kcs k)) : (ldK (.pointer (some ⟨b, o, none⟩))).run Tryz.prog w = .ok (kV k) w :=
  run_loadAt_mid (P := Tryz.prog) w b o 117 (kcs k) _ h Tryz.underlying117 rfl (by rw [szK, kcs_len, hk])
/-- a key in its own block -/
theorem Bk.ldK {w : World} {g : Nat} {t : TypeId} {k : List Cl} (hk : k.length = 14) (h : Bk w g t (kcs k)) : (ldK (.pointer (some ⟨g, 0, none⟩))).run Tryz.prog w = .ok (kV k) w :=
  run_ldK hk (by
    have h' : Bk w g t ([] ++ kcs k ++ []) := by rw [List.nil_append, List.append_nil]; exact h
    exact h'.range)
theorem Bk.stK {X : World} {g : Nat} {t : TypeId} {k k' : List Cl} (h : Bk X g t (kcs k)) (hk : k.length = 14) (hk' : k'.length = 14) :
    ∃ Y, (stK (.pointer (some ⟨g, 0, none⟩)) (kV k')).run Tryz.prog X = .ok () Y ∧ Bk Y g t (kcs k') ∧ Fr X Y (fun i => i = g) := by
  have h' : Bk X g t ([] ++ kcs k ++ []) := by rw [List.nil_append, List.append_nil]; exact h
  obtain ⟨Y, h1, h2, h3⟩ := h'.store 117 (kcs k').toArray (by simp [kcs_len, hk, hk']) (by rw [szK]; simp [kcs_len, hk']) (by
    rw [Array.all_eq_true_iff_forall_mem]
    intro u hu
    exact kcs_one k' u (by simpa using hu))
  exact ⟨Y, h1, by simpa using h2, h3⟩
/-- a cell of a key -/
theorem Bk.stC {X : World} {g : Nat} {t : TypeId} {k : List Cl} (h : Bk X g t (kcs k)) (i : Nat) (hi : i < k.length) (c : Cl) :
    ∃ Y, (stC (.pointer (some ⟨g, i * 3, none⟩)) c.val).run Tryz.prog X = .ok () Y ∧ Bk Y g t (kcs (k.set i c)) ∧ Fr X Y (fun j => j = g) := by
  have e : k = k.take i ++ k[i] :: k.drop (i + 1) := by rw [List.getElem_cons_drop]; exact (List.take_append_drop i k).symm
  have hl : (kcs (k.take i)).length = i * 3 := by rw [kcs_len, List.length_take]; congr 1; omega
  have e2 : kcs k = kcs (k.take i) ++ k[i].vals ++ kcs (k.drop (i + 1)) := by
    conv => lhs; rw [e]
    rw [kcs_app, kcs_cons, List.append_assoc]
  rw [e2] at h
  obtain ⟨Y, h1, h2, h3⟩ := h.store 45 #[.int .i64 c.ty, .int .i64 c.num, .string c.tx] rfl szC (by simp; exact ⟨rfl, rfl, rfl⟩)
  rw [hl] at h1
  refine ⟨Y, h1, ?_, h3⟩
  have e3 : kcs (k.set i c) = kcs (k.take i) ++ [.int .i64 c.ty, .int .i64 c.num, .string c.tx] ++ kcs (k.drop (i + 1)) := by
    rw [List.set_eq_take_append_cons_drop, if_pos hi, kcs_app, kcs_cons, List.append_assoc]
    rfl
  rw [e3]
  exact h2
theorem Bk.ldC {w : World} {g : Nat} {t : TypeId} {k : List Cl} (h : Bk w g t (kcs k)) (i : Nat) (hi : i < k.length) : (ldC (.pointer (some ⟨g, i * 3, none⟩))).run Tryz.prog w = .ok (k[i]).val w := by
  have e : k = k.take i ++ k[i] :: k.drop (i + 1) := by rw [List.getElem_cons_drop]; exact (List.take_append_drop i k).symm
  have hl : (kcs (k.take i)).length = i * 3 := by rw [kcs_len, List.length_take]; congr 1; omega
  have e2 : kcs k = kcs (k.take i) ++ k[i].vals ++ kcs (k.drop (i + 1)) := by
    conv => lhs; rw [e]
    rw [kcs_app, kcs_cons, List.append_assoc]
  rw [e2] at h
  rw [← hl]
  exact run_ldC h.range
/-- how far a key is made -/
noncomputable def keyP (F : List Int) (r : Ro) (k : Nat) : List Cl := (F.take k).map (fun f => fwC f r) ++ List.replicate (14 - k) .no
theorem keyP_len {F : List Int} {r : Ro} {k : Nat} (h : k ≤ F.length) (h2 : F.length ≤ 14) : (keyP F r k).length = 14 := by
  unfold keyP
  rw [List.length_append, List.length_map, List.length_take, List.length_replicate]
  omega
theorem keyP_set {F : List Int} {r : Ro} {k : Nat} (h : k < F.length) (h2 : F.length ≤ 14) : (keyP F r k).set k (fwC F[k] r) = keyP F r (k + 1) := by
  unfold keyP
  rw [List.take_succ_eq_append_getElem h, List.map_append, List.set_append_right _ _ (by rw [List.length_map, List.length_take]; omega)]
  have e : k - ((F.take k).map (fun f => fwC f r)).length = 0 := by rw [List.length_map, List.length_take]; omega
  have e2 : 14 - k = (14 - (k + 1)) + 1 := by omega
  rw [e, e2, List.replicate_succ, List.set_cons_zero, List.append_assoc]
  rfl
abbrev layV (pF : Option Addr) (nF cF : Nat) (pS : Option Addr) (nS cS : Nat) (pP : Option Addr) (nP cP : Nat) : Value := .agg #[.slice pF nF cF, .slice pS nS cS, .slice pP nP cP]
abbrev zK : Array Value := #[.int .i64 0, .int .i64 0, .string ⟨#[]⟩, .int .i64 0, .int .i64 0, .string ⟨#[]⟩, .int .i64 0, .int .i64 0, .string ⟨#[]⟩, .int .i64 0, .int .i64 0, .string ⟨#[]⟩, .int .i64 0, .int .i64 0, .string ⟨#[]⟩, .int .i64 0, .int .i64 0, .string ⟨#[]⟩, .int .i64 0, .int .i64 0, .string ⟨#[]⟩, .int .i64 0, .int .i64 0, .string ⟨#[]⟩, .int .i64 0, .int .i64 0, .string ⟨#[]⟩, .int .i64 0, .int .i64 0, .string ⟨#[]⟩, .int .i64 0, .int .i64 0, .string ⟨#[]⟩, .int .i64 0, .int .i64 0, .string ⟨#[]⟩, .int .i64 0, .int .i64 0, .string ⟨#[]⟩, .int .i64 0, .int .i64 0, .string ⟨#[]⟩]
theorem zK_is : zK = (kcs noK).toArray := rfl
theorem zV_is : Value.agg #[.int .i64 0, .int .i64 0, .string ⟨#[]⟩, .int .i64 0, .int .i64 0, .string ⟨#[]⟩, .int .i64 0, .int .i64 0, .string ⟨#[]⟩, .int .i64 0, .int .i64 0, .string ⟨#[]⟩, .int .i64 0, .int .i64 0, .string ⟨#[]⟩, .int .i64 0, .int .i64 0, .string ⟨#[]⟩, .int .i64 0, .int .i64 0, .string ⟨#[]⟩, .int .i64 0, .int .i64 0, .string ⟨#[]⟩, .int .i64 0, .int .i64 0, .string ⟨#[]⟩, .int .i64 0, .int .i64 0, .string ⟨#[]⟩, .int .i64 0, .int .i64 0, .string ⟨#[]⟩, .int .i64 0, .int .i64 0, .string ⟨#[]⟩, .int .i64 0, .int .i64 0, .string ⟨#[]⟩, .int .i64 0, .int .i64 0, .string ⟨#[]⟩] = kV noK := rfl
theorem keyP_zero (F : List Int) (r : Ro) : keyP F r 0 = noK := by unfold keyP; rw [List.take_zero]; rfl
theorem keyP_end {F : List Int} {r : Ro} : keyP F r F.length = keyK F r := by unfold keyP keyK; rw [List.take_length]
theorem badK_no {F : List Int} {r : Ro} (h : ∀ j (hj : j < F.length), ¬ (fwC F[j] r).ty = 0) : badK F r = false := by
  unfold badK
  rw [List.any_eq_false]
  intro f hf
  obtain ⟨j, hj, rfl⟩ := List.mem_iff_getElem.1 hf
  have := h j hj
  simpa using this
theorem badK_yes {F : List Int} {r : Ro} (k : Nat) (hk : k < F.length) (h : (fwC F[k] r).ty = 0) : badK F r = true := by
  unfold badK
  rw [List.any_eq_true]
  exact ⟨F[k], List.getElem_mem hk, by simpa using h⟩
theorem results_ct {P : Program} {fn : Func} {a b : Nat} {t : TypeId} (h : fn.results = #[.cell a t, .tmp b]) {tmps : Array Value} {ad : Addr} {v u : Value} {w : World} (ha : tmps.getD a undef = .pointer (some ad)) (hb : tmps.getD b undef = u) (hl : (loadVar t ad).run P w = .ok v w) : (results fn tmps).run P w = .ok (.tuple #[v, u]) w := by
  unfold results
  simp only [Array.getD_eq_getD_getElem?] at ha hb
  simp [h, ha, hb, asAddr, hl, Result.andThen]
theorem results_c {P : Program} {fn : Func} {a : Nat} {t : TypeId} (h : fn.results = #[.cell a t]) {tmps : Array Value} {ad : Addr} {v : Value} {w : World} (ha : tmps.getD a undef = .pointer (some ad)) (hl : (loadVar t ad).run P w = .ok v w) : (results fn tmps).run P w = .ok v w := by
  unfold results
  simp only [Array.getD_eq_getD_getElem?] at ha
  simp [h, ha, asAddr, hl]
theorem lv_of_ldK {w : World} {ad : Addr} {v : Value} (h : (ldK (.pointer (some ad))).run Tryz.prog w = .ok v w) : (loadVar 117 ad).run Tryz.prog w = .ok v w := by
  unfold ldK at h
  simpa only [Instr.loadAt, Instr.sureAddr, Sem.run_bind, Sem.run_pure, Result.andThen_ok] using h
section
attribute [local go_sem ↓] stC_is ldC_is ldR_is ldK_is stK_is
theorem keyOf_any {W : World} {pF : Option Addr} {nF cF : Nat} {F : List Int} (hn : F.length = nF) (hn14 : nF ≤ 14) (hF : Lies kI W pF F) (p2 : Option Addr) (n2 c2 : Nat) (p3 : Option Addr) (n3 c3 : Nat) (r : Ro) (hM : Mon W) (hX : Mx W) (ha : r.acc.size < 4294967281) (h6 : 6 ≤ W.heap.size) :
    Calls Tryz.prog 80 #[.agg #[.slice pF nF cF, .slice p2 n2 c2, .slice p3 n3 c3], r.val] W fun e w' => Below W.heap.size W w' ∧ e = .returned (.tuple #[kV (if badK F r = true then noK else keyK F r), .int .i64 (if badK F r = true then 11 else 0)]) := by
  obtain ⟨o8, ho8⟩ : ∃ o : Obj, o = .cells #[.slice pF nF cF, .slice p2 n2 c2, .slice p3 n3 c3] 80 := ⟨_, rfl⟩
  obtain ⟨X, hX0⟩ : ∃ X, X = (((W.alloc o8).alloc (.cells r.vals.toArray 39)).alloc (.cells zK 117)).alloc (.cells zK 117) := ⟨_, rfl⟩
  have hXs : X.heap.size = W.heap.size + 4 := by rw [hX0]; simp
  have hBX : Below W.heap.size W X := by rw [hX0]; exact Below.a4 W _ _ _ _
  have hX3 : Bk X (W.heap.size + 3) 117 (kcs (keyP F r 0)) := by
    rw [keyP_zero]
    show X.heap[_]? = _
    rw [hX0, ← zK_is]
    have := heap_new (((W.alloc o8).alloc (.cells r.vals.toArray 39)).alloc (.cells zK 117)) (.cells zK 117)
    simpa using this
  have hX2 : Bk X (W.heap.size + 2) 117 (kcs noK) := by
    show X.heap[_]? = _
    rw [hX0, ← zK_is, Below.heap_alloc _ _ _ (by simp)]
    have := heap_new ((W.alloc o8).alloc (.cells r.vals.toArray 39)) (.cells zK 117)
    simpa using this
  have hRw : X.rangeAt (W.heap.size + 1) 0 r.vals := fun j u hu => by
    have h1 := new_range (W.alloc o8) r.vals 39 j u hu
    rw [hX0]
    simp only [World.size_alloc] at h1
    rw [World.cell?_of_block (a := ⟨W.heap.size + 1, 0 + j, none⟩) (Below.heap_alloc _ _ _ (by simp)), World.cell?_of_block (a := ⟨W.heap.size + 1, 0 + j, none⟩) (Below.heap_alloc _ _ _ (by simp))]
    exact h1
  have RD : Hid (∀ wr k, Fr X wr (fun i => i = W.heap.size + 3) → Bk wr (W.heap.size + 3) 117 (kcs (keyP F r k)) → (hk : k < nF) → ∃ b off f, pF = some ⟨b, off, none⟩ ∧ wr.cell? ⟨b, off + k, none⟩ = some (.int .i64 f) ∧
      (ldR (.pointer (some ⟨W.heap.size + 1, 0, none⟩))).run Tryz.prog wr = .ok r.val wr ∧ ∃ c : Cl, (c.ty = 0 → badK F r = true) ∧ (¬ c.ty = 0 → (∀ j (hj : j < F.length), j < k → ¬ (fwC F[j] r).ty = 0) → ∀ j (hj : j < F.length), j < k + 1 → ¬ (fwC F[j] r).ty = 0) ∧
      (Calls Tryz.prog 105 #[.int .i64 f, r.val] wr fun e w' => e = .returned c.val ∧ Below wr.heap.size wr w') ∧
      (∀ w1, Below wr.heap.size wr w1 → ∃ Y, (stC (.pointer (some ⟨W.heap.size + 3, k * 3, none⟩)) c.val).run Tryz.prog w1 = .ok () Y ∧ Fr X Y (fun i => i = W.heap.size + 3) ∧ Bk Y (W.heap.size + 3) 117 (kcs (keyP F r (k + 1))) ∧ (ldC (.pointer (some ⟨W.heap.size + 3, k * 3, none⟩))).run Tryz.prog Y = .ok c.val Y)) := by
    intro wr k hFr hB hk
    have hkl : k < F.length := by omega
    obtain ⟨b, off, e1, hbl, hrr⟩ := hF.2 k hkl
    have hBx : Below W.heap.size W wr := hBX.trans (hFr.below (by omega) (fun j hj e => by omega))
    refine ⟨b, off, F[k], e1, ?_, ?_, fwC F[k] r, badK_yes k hkl, ?_, ?_, ?_⟩
    · have := hrr 0 (.int .i64 F[k]) rfl
      rw [← this]
      have e : (⟨b, off + k * kI.s + 0, none⟩ : Addr) = ⟨b, off + k, none⟩ := by simp [kI]
      rw [e]
      exact hBx.cell (p := ⟨b, off + k, none⟩) hbl
    · refine run_ldR (fun j u hu => ?_)
      rw [← hRw j u hu]
      exact hFr.cell (p := ⟨W.heap.size + 1, 0 + j, none⟩) (by show W.heap.size + 1 < _; omega) (by show ¬ W.heap.size + 1 = _; omega)
    · intro h0 hall j hj hjk
      by_cases e : j = k
      · subst e; exact h0
      · exact hall j hj (by omega)
    · exact fieldAt_any F[k] r wr (mon6 hM (hBx.mono h6)) (hX.below hBx (by omega)) ha
    · intro w1 hb
      have hB1 : Bk w1 (W.heap.size + 3) 117 (kcs (keyP F r k)) := hB.same (hb.block _ hB.lt)
      obtain ⟨Y, y1, y2, y3⟩ := hB1.stC k (by rw [keyP_len (by omega) (by omega)]; omega) (fwC F[k] r)
      have hk1 : k < ((keyP F r k).set k (fwC F[k] r)).length := by rw [List.length_set, keyP_len (by omega) (by omega)]; omega
      have hl := y2.ldC k hk1
      rw [List.getElem_set_self] at hl
      rw [keyP_set hkl (by omega)] at y2
      exact ⟨Y, y1, (hFr.trans (Fr.of_below hb (fun i => i = W.heap.size + 3)) (fun _ _ h => h)).trans y3 (fun _ _ h => h), y2, hl⟩
  have EB : Hid (∀ Y, Fr X Y (fun i => i = W.heap.size + 3) → badK F r = true → ∃ Z, (stK (.pointer (some ⟨W.heap.size + 2, 0, none⟩)) (.agg #[.int .i64 0, .int .i64 0, .string ⟨#[]⟩, .int .i64 0, .int .i64 0, .string ⟨#[]⟩, .int .i64 0, .int .i64 0, .string ⟨#[]⟩, .int .i64 0, .int .i64 0, .string ⟨#[]⟩, .int .i64 0, .int .i64 0, .string ⟨#[]⟩, .int .i64 0, .int .i64 0, .string ⟨#[]⟩, .int .i64 0, .int .i64 0, .string ⟨#[]⟩, .int .i64 0, .int .i64 0, .string ⟨#[]⟩, .int .i64 0, .int .i64 0, .string ⟨#[]⟩, .int .i64 0, .int .i64 0, .string ⟨#[]⟩, .int .i64 0, .int .i64 0, .string ⟨#[]⟩, .int .i64 0, .int .i64 0, .string ⟨#[]⟩, .int .i64 0, .int .i64 0, .string ⟨#[]⟩, .int .i64 0, .int .i64 0, .string ⟨#[]⟩])).run Tryz.prog Y = .ok () Z ∧ (ldK (.pointer (some ⟨W.heap.size + 2, 0, none⟩))).run Tryz.prog Z = .ok (kV noK) Z ∧ Below W.heap.size W Z ∧ (if badK F r = true then noK else keyK F r) = noK ∧ (if badK F r = true then (11 : Int) else 0) = 11) := by
    intro Y hFr hb
    have h2 : Bk Y (W.heap.size + 2) 117 (kcs noK) := hX2.same (hFr.block _ (by omega) (by omega))
    obtain ⟨Z, z1, z2, z3⟩ := h2.stK (k := noK) (k' := noK) rfl rfl
    exact ⟨Z, z1, z2.ldK rfl, (hBX.trans (hFr.below (by omega) (fun j hj e => by omega))).trans (z3.below (by have := hFr.size; omega) (fun j hj e => by omega)), by rw [if_pos hb], by rw [if_pos hb]⟩
  have EE : Hid (∀ Y, Fr X Y (fun i => i = W.heap.size + 3) → Bk Y (W.heap.size + 3) 117 (kcs (keyP F r nF)) → (∀ j (hj : j < F.length), j < nF → ¬ (fwC F[j] r).ty = 0) → ∃ kv Z, (ldK (.pointer (some ⟨W.heap.size + 3, 0, none⟩))).run Tryz.prog Y = .ok kv Y ∧ (stK (.pointer (some ⟨W.heap.size + 2, 0, none⟩)) kv).run Tryz.prog Y = .ok () Z ∧ (ldK (.pointer (some ⟨W.heap.size + 2, 0, none⟩))).run Tryz.prog Z = .ok kv Z ∧ Below W.heap.size W Z ∧ kV (if badK F r = true then noK else keyK F r) = kv ∧ (if badK F r = true then (11 : Int) else 0) = 0) := by
    intro Y hFr hB hall
    have hb : badK F r = false := badK_no (fun j hj => hall j hj (by omega))
    have h2 : Bk Y (W.heap.size + 2) 117 (kcs noK) := hX2.same (hFr.block _ (by omega) (by omega))
    have e : keyP F r nF = keyK F r := by rw [← hn]; exact keyP_end
    rw [e] at hB
    have hl : (keyK F r).length = 14 := by rw [← e]; exact keyP_len (by omega) (by omega)
    obtain ⟨Z, z1, z2, z3⟩ := h2.stK (k := noK) (k' := keyK F r) rfl hl
    exact ⟨kV (keyK F r), Z, hB.ldK hl, z1, z2.ldK hl, (hBX.trans (hFr.below (by omega) (fun j hj e => by omega))).trans (z3.below (by have := hFr.size; omega) (fun j hj e => by omega)), by rw [hb]; rfl, by rw [hb]; rfl⟩
  have B0 := hide hX3
  have HN := hide hn
  have HX0 := hide hX0
  clear hF hM hX ha hRw hX2 hX3 hBX hX0 hn h6 hXs
  subst ho8
  obtain ⟨i0, i1, i2, i3, s4, acc, amt, s7, s8⟩ := r
  obtain ⟨rr, hrr⟩ : ∃ rr : Ro, rr = ⟨i0, i1, i2, i3, s4, acc, amt, s7, s8⟩ := ⟨_, rfl⟩
  have RD : Hid (∀ wr k, Fr X wr (fun i => i = W.heap.size + 3) → Bk wr (W.heap.size + 3) 117 (kcs (keyP F rr k)) → (hk : k < nF) → ∃ b off f, pF = some ⟨b, off, none⟩ ∧ wr.cell? ⟨b, off + k, none⟩ = some (.int .i64 f) ∧
      (ldR (.pointer (some ⟨W.heap.size + 1, 0, none⟩))).run Tryz.prog wr = .ok (.agg #[.int .i64 i0, .int .i64 i1, .int .i64 i2, .int .i64 i3, .string s4, .string acc, .int .i64 amt, .string s7, .string s8]) wr ∧ ∃ c : Cl, (c.ty = 0 → badK F rr = true) ∧ (¬ c.ty = 0 → (∀ j (hj : j < F.length), j < k → ¬ (fwC F[j] rr).ty = 0) → ∀ j (hj : j < F.length), j < k + 1 → ¬ (fwC F[j] rr).ty = 0) ∧
      (Calls Tryz.prog 105 #[.int .i64 f, .agg #[.int .i64 i0, .int .i64 i1, .int .i64 i2, .int .i64 i3, .string s4, .string acc, .int .i64 amt, .string s7, .string s8]] wr fun e w' => e = .returned c.val ∧ Below wr.heap.size wr w') ∧
      (∀ w1, Below wr.heap.size wr w1 → ∃ Y, (stC (.pointer (some ⟨W.heap.size + 3, k * 3, none⟩)) c.val).run Tryz.prog w1 = .ok () Y ∧ Fr X Y (fun i => i = W.heap.size + 3) ∧ Bk Y (W.heap.size + 3) 117 (kcs (keyP F rr (k + 1))) ∧ (ldC (.pointer (some ⟨W.heap.size + 3, k * 3, none⟩))).run Tryz.prog Y = .ok c.val Y)) := by rw [hrr]; exact RD
  rw [← hrr] at EB EE B0 ⊢
  rw [hrr]
  show Calls Tryz.prog 80 #[_, .agg #[.int .i64 i0, .int .i64 i1, .int .i64 i2, .int .i64 i3, .string s4, .string acc, .int .i64 amt, .string s7, .string s8]] W _
  rw [← hrr]
  obtain ⟨KV, hKV⟩ : ∃ v, v = kV (if badK F rr = true then noK else keyK F rr) := ⟨_, rfl⟩
  obtain ⟨EV, hEV⟩ : ∃ v : Int, v = (if badK F rr = true then 11 else 0) := ⟨_, rfl⟩
  have EB : Hid (∀ Y, Fr X Y (fun i => i = W.heap.size + 3) → badK F rr = true → ∃ Z, (stK (.pointer (some ⟨W.heap.size + 2, 0, none⟩)) (.agg #[.int .i64 0, .int .i64 0, .string ⟨#[]⟩, .int .i64 0, .int .i64 0, .string ⟨#[]⟩, .int .i64 0, .int .i64 0, .string ⟨#[]⟩, .int .i64 0, .int .i64 0, .string ⟨#[]⟩, .int .i64 0, .int .i64 0, .string ⟨#[]⟩, .int .i64 0, .int .i64 0, .string ⟨#[]⟩, .int .i64 0, .int .i64 0, .string ⟨#[]⟩, .int .i64 0, .int .i64 0, .string ⟨#[]⟩, .int .i64 0, .int .i64 0, .string ⟨#[]⟩, .int .i64 0, .int .i64 0, .string ⟨#[]⟩, .int .i64 0, .int .i64 0, .string ⟨#[]⟩, .int .i64 0, .int .i64 0, .string ⟨#[]⟩, .int .i64 0, .int .i64 0, .string ⟨#[]⟩, .int .i64 0, .int .i64 0, .string ⟨#[]⟩])).run Tryz.prog Y = .ok () Z ∧ (ldK (.pointer (some ⟨W.heap.size + 2, 0, none⟩))).run Tryz.prog Z = .ok KV Z ∧ Below W.heap.size W Z ∧ EV = 11) := fun Y hFr hb => by
    obtain ⟨Z, z1, z2, z3, z4, z5⟩ := unhide EB Y hFr hb
    exact ⟨Z, z1, by rw [hKV, z4]; exact z2, z3, by rw [hEV]; exact z5⟩
  have EE : Hid (∀ Y, Fr X Y (fun i => i = W.heap.size + 3) → Bk Y (W.heap.size + 3) 117 (kcs (keyP F rr nF)) → (∀ j (hj : j < F.length), j < nF → ¬ (fwC F[j] rr).ty = 0) → ∃ Z, (ldK (.pointer (some ⟨W.heap.size + 3, 0, none⟩))).run Tryz.prog Y = .ok KV Y ∧ (stK (.pointer (some ⟨W.heap.size + 2, 0, none⟩)) KV).run Tryz.prog Y = .ok () Z ∧ (ldK (.pointer (some ⟨W.heap.size + 2, 0, none⟩))).run Tryz.prog Z = .ok KV Z ∧ Below W.heap.size W Z ∧ EV = 0) := fun Y hFr hB hall => by
    obtain ⟨kv, Z, z0, z1, z2, z3, z4, z5⟩ := unhide EE Y hFr hB hall
    rw [← hKV] at z4
    subst z4
    exact ⟨Z, z0, z1, z2, z3, by rw [hEV]; exact z5⟩
  rw [← hKV, ← hEV]
  clear hKV hEV hrr
  have d78 := hide (fun (c : Cl) => isOver_any c.ty c.num c.tx)
  go_enter Tryz.func80, Tryz.ntmps80
  go_wp2_with fail
  have HX0 : Hid (X = (((W.alloc (.cells #[.slice pF nF cF, .slice p2 n2 c2, .slice p3 n3 c3] 80)).alloc (.cells #[.int .i64 i0, .int .i64 i1, .int .i64 i2, .int .i64 i3, .string s4, .string acc, .int .i64 amt, .string s7, .string s8] 39)).alloc (.cells #[.int .i64 0, .int .i64 0, .string ⟨#[]⟩, .int .i64 0, .int .i64 0, .string ⟨#[]⟩, .int .i64 0, .int .i64 0, .string ⟨#[]⟩, .int .i64 0, .int .i64 0, .string ⟨#[]⟩, .int .i64 0, .int .i64 0, .string ⟨#[]⟩, .int .i64 0, .int .i64 0, .string ⟨#[]⟩, .int .i64 0, .int .i64 0, .string ⟨#[]⟩, .int .i64 0, .int .i64 0, .string ⟨#[]⟩, .int .i64 0, .int .i64 0, .string ⟨#[]⟩, .int .i64 0, .int .i64 0, .string ⟨#[]⟩, .int .i64 0, .int .i64 0, .string ⟨#[]⟩, .int .i64 0, .int .i64 0, .string ⟨#[]⟩, .int .i64 0, .int .i64 0, .string ⟨#[]⟩, .int .i64 0, .int .i64 0, .string ⟨#[]⟩] 117)).alloc (.cells #[.int .i64 0, .int .i64 0, .string ⟨#[]⟩, .int .i64 0, .int .i64 0, .string ⟨#[]⟩, .int .i64 0, .int .i64 0, .string ⟨#[]⟩, .int .i64 0, .int .i64 0, .string ⟨#[]⟩, .int .i64 0, .int .i64 0, .string ⟨#[]⟩, .int .i64 0, .int .i64 0, .string ⟨#[]⟩, .int .i64 0, .int .i64 0, .string ⟨#[]⟩, .int .i64 0, .int .i64 0, .string ⟨#[]⟩, .int .i64 0, .int .i64 0, .string ⟨#[]⟩, .int .i64 0, .int .i64 0, .string ⟨#[]⟩, .int .i64 0, .int .i64 0, .string ⟨#[]⟩, .int .i64 0, .int .i64 0, .string ⟨#[]⟩, .int .i64 0, .int .i64 0, .string ⟨#[]⟩, .int .i64 0, .int .i64 0, .string ⟨#[]⟩] 117)) := HX0
  rw [← unhide HX0]
  go_loopw [12] (fun v12 wr => ∃ (k : Nat), v12 = .int .i64 k ∧ k ≤ nF ∧ Hid (Fr X wr (fun i => i = W.heap.size + 3)) ∧ Hid (Bk wr (W.heap.size + 3) 117 (kcs (keyP F rr k))) ∧ Hid (∀ j (hj : j < F.length), j < k → ¬ (fwC F[j] rr).ty = 0)) (fun v12 _ => nF - (intOf v12).toNat)
  case atStart => exact ⟨0, rfl, by omega, Fr.refl _ _, unhide B0, fun j _ h => by omega⟩
  case round =>
    obtain ⟨k, rfl, hk, hFr, hB, hall⟩ := hrel
    by_cases hlt : k < nF
    · obtain ⟨b, off, f, e1, hc, l1, c, hbad, hgood, d, hst⟩ := unhide RD wr k (unhide hFr) (unhide hB) hlt
      subst e1
      have HD := hide d
      have HST := hide hst
      have HBAD := hide hbad
      have HGOOD := hide hgood
      have hkn : (k : Int) < (nF : Int) := by omega
      have h3 : ¬ (k : Int) < 0 := by omega
      have h14 : (k : Int) < 14 := by omega
      clear d hst hbad hgood RD hFr hB
      go_wp2_with fail
      refine (unhide HD).mono ?_
      rintro e w1 ⟨rfl, hb⟩
      obtain ⟨Y, hp, hFY, hBY, lY⟩ := unhide HST w1 hb
      have HFY := hide hFY
      have HBY := hide hBY
      clear hb hFY hBY HST HD
      go_wp2_with fail
      refine (unhide d78 c _).mono ?_
      rintro e w2 ⟨rfl, hb⟩
      have HF2 := hide ((unhide HFY).trans (Fr.of_below hb (fun i => i = W.heap.size + 3)) (fun _ _ h => h))
      have HB2 := hide ((unhide HBY).same (hb.block _ (unhide HBY).lt))
      clear hb lY hp HFY HBY
      by_cases h0 : c.ty = 0
      · obtain ⟨Z, z1, z2, z3, z5⟩ := unhide EB w2 (unhide HF2) (unhide HBAD h0)
        have h0' := beqT h0
        rw [h0']
        have HZ3 := hide z3
        have HZ5 := hide z5
        clear z3 z5 h0 h0' EE EB HBAD HGOOD
        go_wp2_with fail
        refine bodyPost_ret (results_ct (v := KV) (u := .int .i64 11) Tryz.results80 rfl rfl (lv_of_ldK z2)) rfl ?_
        exact ⟨unhide HZ3, by rw [unhide HZ5]⟩
      · have h0' := beqF h0
        rw [h0']
        have HA := hide (unhide HGOOD h0 (unhide hall))
        clear h0 h0' EE EB HBAD HGOOD
        go_wp2_with fail
        exact ⟨⟨k + 1, by go_num, by omega, unhide HF2, unhide HB2, unhide HA⟩, by simp [intOf]; omega⟩
    · have hkn : k = nF := by omega
      subst hkn
      obtain ⟨Z, z0, z1, z2, z3, z5⟩ := unhide EE wr (unhide hFr) (unhide hB) (unhide hall)
      have HZ3 := hide z3
      have HZ5 := hide z5
      clear z3 z5 EE EB RD
      go_wp2_with fail
      refine bodyPost_ret (results_ct (v := KV) (u := .int .i64 0) Tryz.results80 rfl rfl (lv_of_ldK z2)) rfl ?_
      exact ⟨unhide HZ3, by rw [unhide HZ5]⟩
end
end Go.Proofs.YtbenciieenbmeaaGreatDoor
/- answer: tell 81. -/
namespace Go.Proofs.YtbenciieenbmeaaGreatDoor
open Go Go.Shelf Go.ChangeShapes Go.WideShapes Go.ChangeAt Go.RowKit Go.Maps
set_option linter.unusedVariables false
set_option maxRecDepth 100000
set_option maxHeartbeats 4000000
/-- an aggregate that can be told of nodes -/
def AgIn (n : Nat) (x : Ag) : Prop := (x.kd = 1 ∨ x.kd = 2 ∨ x.kd = 3 ∨ x.kd = 4) ∧ (¬ x.kd = 1 → 0 ≤ x.of' ∧ x.of' < n)
theorem Lies.fr {α : Type} {K : Kd α} {W W' : World} {p : Option Addr} {L : List α} {X : Nat → Prop} (h : Lies K W p L) (hF : Fr W W' X) (hX : ∀ b off, p = some ⟨b, off, none⟩ → ¬ X b) : Lies K W' p L := by
  refine ⟨h.1, fun k hk => ?_⟩
  obtain ⟨b, off, e, hlt, hr⟩ := h.2 k hk
  exact ⟨b, off, e, Nat.lt_of_lt_of_le hlt hF.size, fun j u hu => (hF.cell (p := ⟨b, off + k * K.s + j, none⟩) hlt (hX b off e)).trans (hr j u hu)⟩
section
attribute [local go_sem ↓] stC_is ldC_is ld104_is
theorem tell_any {W : World} {d t g : Nat} {fx rest : List Value} {pS : Option Addr} {nS cS nN cv : Nat} {S : List Ag} {V : List Cl} {f : Ag → Int × Cl}
    (hfx : fx.length = 7) (hd : Bk W d 112 (fx ++ .slice pS nS cS :: rest)) (hr1 : rest[1]? = some (.slice (some ⟨g, 0, none⟩) nN cv)) (hS : Lies kA W pS S) (hn : S.length = nS) (hnb : nS ≤ 4194304) (hV : VAt W g V) (hVn : V.length = nN) (hA : ∀ x ∈ S, AgIn nN x) (hC : ∀ c ∈ V, I64 c.num)
    (hT : TLs W t (S.map f)) (hdt : d ≠ t) (hgt : g ≠ t) (hSt : ∀ b off, pS = some ⟨b, off, none⟩ → b ≠ t) (ct : Nat) :
    Calls Tryz.prog 81 #[.pointer (some ⟨d, 0, none⟩), .slice (some ⟨t, 0, none⟩) nS ct] W fun e w' => e = .returned (.int .i64 (if badT V S = true then 11 else 0)) ∧ Fr W w' (fun i => i = t) ∧ (badT V S = false → TLs w' t (S.map (tlN1 V f))) := by
  have hdl := hd.lt
  have htl := hT.lt
  have hgl := hV.lt
  -- what a round finds
  have RD : Hid (∀ wr k, Fr W wr (fun i => i = t) → TLs wr t (tlP V S f k) → (hk : k < nS) → ∃ b off x, pS = some ⟨b, off, none⟩ ∧ S[k]? = some x ∧ AgIn nN x ∧
      (ld104 (.pointer (some ⟨b, off + k * 3, none⟩))).run Tryz.prog wr = .ok x.val wr ∧
      ∃ Y1, (stC (.pointer (some ⟨wr.heap.size + 1, 0, none⟩)) (cV 1 1 ⟨#[]⟩)).run Tryz.prog ((wr.alloc (.cells x.vals.toArray 104)).alloc zc) = .ok () Y1 ∧
        Bk Y1 wr.heap.size 104 x.vals ∧ Bk Y1 (wr.heap.size + 1) 45 (kcs [⟨1, 1, ⟨#[]⟩⟩]) ∧ Fr W Y1 (fun i => i = t) ∧ TLs Y1 t (tlP V S f k) ∧ wr.heap.size + 1 < Y1.heap.size) := by
    intro wr k hF hTl hk
    have hkl : k < S.length := by omega
    obtain ⟨b, off, e1, hbl, hrr⟩ := hS.2 k hkl
    have hA1 : ((wr.alloc (.cells (S[k]).vals.toArray 104)).alloc zc).heap.size = wr.heap.size + 2 := by simp
    have b1 : Bk ((wr.alloc (.cells (S[k]).vals.toArray 104)).alloc zc) (wr.heap.size + 1) 45 (kcs [⟨0, 0, ⟨#[]⟩⟩]) := by
      have := heap_new (wr.alloc (.cells (S[k]).vals.toArray 104)) zc
      simp only [World.size_alloc] at this
      exact this
    have b0 : Bk ((wr.alloc (.cells (S[k]).vals.toArray 104)).alloc zc) wr.heap.size 104 (S[k]).vals := (Below.heap_alloc _ _ _ (by simp)).trans (heap_new wr _)
    obtain ⟨Y, y1, y2, y3⟩ := b1.stC 0 (by simp) ⟨1, 1, ⟨#[]⟩⟩
    have hF1 : Fr W ((wr.alloc (.cells (S[k]).vals.toArray 104)).alloc zc) (fun i => i = t) := (hF.alloc _).alloc _
    have hwt : t < wr.heap.size := hTl.lt
    refine ⟨b, off, S[k], e1, List.getElem?_eq_getElem hkl, hA _ (List.getElem_mem hkl), ?_, Y, y1, ?_, y2, ?_, ?_, by have := y3.size; omega⟩
    · refine run_ld104 (fun j u hu => ?_)
      rw [← hrr j u hu]
      exact hF.cell (p := ⟨b, off + k * 3 + j, none⟩) hbl (hSt b off e1)
    · exact b0.same (y3.block _ (by rw [hA1]; omega) (by omega))
    · exact hF1.trans y3 (fun i hi e => by
        have := hF.size
        omega)
    · refine hTl.same ((y3.block _ (by rw [hA1]; omega) (by omega)).trans ?_)
      rw [Below.heap_alloc _ _ _ (by simp; omega), Below.heap_alloc _ _ _ hwt]
  -- a node's cell taken over
  have R2 : Hid (∀ Y1 k s6 x, Bk Y1 s6 104 x.vals → Bk Y1 (s6 + 1) 45 (kcs [⟨1, 1, ⟨#[]⟩⟩]) → Fr W Y1 (fun i => i = t) → TLs Y1 t (tlP V S f k) → AgIn nN x → ¬ x.kd = 1 → W.heap.size ≤ s6 → ∃ o : Nat, x.of' = o ∧ o < nN ∧ Y1.drew.cell? ⟨d, 9, none⟩ = some (.slice (some ⟨g, 0, none⟩) nN cv) ∧ Y1.drew.cell? ⟨s6, 1, none⟩ = some (.int .i64 (o : Int)) ∧ (ldC (.pointer (some ⟨g, o * 3, none⟩))).run Tryz.prog Y1.drew = .ok (cAt V x).val Y1.drew ∧
      ∃ Y2, (stC (.pointer (some ⟨s6 + 1, 0, none⟩)) (cAt V x).val).run Tryz.prog Y1.drew = .ok () Y2 ∧ Bk Y2 s6 104 x.vals ∧ Bk Y2 (s6 + 1) 45 (kcs [cAt V x]) ∧ Fr W Y2 (fun i => i = t) ∧ TLs Y2 t (tlP V S f k) ∧ Y2.cell? ⟨d, 9, none⟩ = some (.slice (some ⟨g, 0, none⟩) nN cv) ∧ Y2.cell? ⟨s6, 1, none⟩ = some (.int .i64 (o : Int)) ∧ (ldC (.pointer (some ⟨g, o * 3, none⟩))).run Tryz.prog Y2 = .ok (cAt V x).val Y2) := by
    intro Y1 k s6 x b6 b7 hF hTl hx h1 hs6
    have ho := hx.2 h1
    have hof : x.of'.toNat < V.length := by omega
    have ec : cAt V x = V[x.of'.toNat] := by
      unfold cAt vat
      rw [if_neg h1, List.getD_eq_getElem?_getD, List.getElem?_eq_getElem hof]
      rfl
    have hg1 : ∀ Z, Fr W Z (fun i => i = t) → (ldC (.pointer (some ⟨g, x.of'.toNat * 3, none⟩))).run Tryz.prog Z = .ok (cAt V x).val Z := fun Z hZ => by
      rw [ec]
      exact run_ldC (fun j u hu => (hZ.cell (p := ⟨g, x.of'.toNat * 3 + j, none⟩) hgl hgt).trans (hV.at' _ hof j u hu))
    have hd1 : ∀ Z, Fr W Z (fun i => i = t) → Z.cell? ⟨d, 9, none⟩ = some (.slice (some ⟨g, 0, none⟩) nN cv) := fun Z hZ => by
      rw [hZ.cell (p := ⟨d, 9, none⟩) hdl hdt, hd.cell, List.getElem?_append_right (by omega), hfx]
      exact hr1
    have hFd : Fr W Y1.drew (fun i => i = t) := hF.drew
    have b7' : Bk Y1.drew (s6 + 1) 45 (kcs [⟨1, 1, ⟨#[]⟩⟩]) := b7
    obtain ⟨Y2, y1, y2, y3⟩ := b7'.stC 0 (by simp) (cAt V x)
    have hst : t < s6 := by omega
    have hF2 : Fr W Y2 (fun i => i = t) := hFd.trans y3 (fun i hi e => by omega)
    have b6' : Bk Y2 s6 104 x.vals := b6.same (y3.block _ b6.lt (by omega))
    have eo : ((x.of'.toNat : Nat) : Int) = x.of' := by omega
    refine ⟨x.of'.toNat, by omega, by omega, hd1 _ hFd, ?_, hg1 _ hFd, Y2, y1, b6', y2, hF2, hTl.same (y3.block _ hTl.lt (by omega)), hd1 _ hF2, ?_, hg1 _ hF2⟩
    · rw [eo]; exact Bk.cell (W := Y1) b6 1
    · rw [eo]; exact b6'.cell 1
  -- a tally told
  have R3 : Hid (∀ w2 k s6 x, Bk w2 s6 104 x.vals → Bk w2 (s6 + 1) 45 (kcs [cAt V x]) → Fr W w2 (fun i => i = t) → TLs w2 t (tlP V S f k) → S[k]? = some x → w2.drew.cell? ⟨s6, 0, none⟩ = some (.int .i64 x.kd) ∧ (ldC (.pointer (some ⟨s6 + 1, 0, none⟩))).run Tryz.prog w2.drew = .ok (cAt V x).val w2.drew ∧ Calls Tryz.prog 106 #[.pointer (some ⟨t, k * 5, none⟩), .int .i64 x.kd, (cAt V x).val] w2.drew fun e' w' => e' = .returned (.tuple #[]) ∧ Fr W w' (fun i => i = t) ∧ TLs w' t (tlP V S f (k + 1))) := by
    intro w2 k s6 x b6 b7 hF hTl hx
    obtain ⟨hkl, hxe⟩ := List.getElem?_eq_some_iff.1 hx
    have hxS : x ∈ S := by rw [← hxe]; exact List.getElem_mem hkl
    have hc : I64 (cAt V x).num := by
      unfold cAt
      by_cases h1 : x.kd = 1
      · rw [if_pos h1]; exact ⟨by decide, by decide⟩
      · rw [if_neg h1]
        have ho := (hA x hxS).2 h1
        have hof : x.of'.toNat < V.length := by omega
        unfold vat
        rw [List.getD_eq_getElem?_getD, List.getElem?_eq_getElem hof]
        exact hC _ (List.getElem_mem hof)
    have hTd : TLs w2.drew t (tlP V S f k) := hTl
    have hat := hTd.at' k (by rw [tlP_len]; exact hkl)
    rw [tlP_at V S f k hkl] at hat
    refine ⟨Bk.cell (W := w2) b6 0, Bk.ldC (w := w2.drew) b7 0 (by simp), (take_any hat x.kd (hA x hxS).1 (cAt V x) hc).mono fun e' w' h => ⟨h.1, hF.drew.trans h.2.2.fr (fun _ _ h => h), ?_⟩⟩
    have := hTd.set k (by rw [tlP_len]; exact hkl) _ _ h.2.1 h.2.2
    rw [← tlP_set V S f k hkl]
    have e : tlN1 V f S[k] = (tkZ x.kd (f S[k]).1 (cAt V x), tkE x.kd (f S[k]).2 (cAt V x)) := by rw [← hxe]; rfl
    rw [e]
    exact this
  have R4 : Hid (∀ k x, S[k]? = some x → ((cAt V x).ty = 0 → badT V S = true) ∧ (¬ (cAt V x).ty = 0 → (∀ j (hj : j < S.length), j < k → ¬ (cAt V S[j]).ty = 0) → ∀ j (hj : j < S.length), j < k + 1 → ¬ (cAt V S[j]).ty = 0)) := by
    intro k x hx
    obtain ⟨hkl, hxe⟩ := List.getElem?_eq_some_iff.1 hx
    refine ⟨fun h => badT_yes k hkl (by rw [hxe]; exact h), fun h0 hall j hj hjk => ?_⟩
    by_cases e : j = k
    · subst e; rw [hxe]; exact h0
    · exact hall j hj (by omega)
  have T0 : Hid (TLs W t (tlP V S f 0)) := by show TLs _ _ _; rw [tlP_zero]; exact hT
  have TE : Hid (∀ w', TLs w' t (tlP V S f nS) → TLs w' t (S.map (tlN1 V f))) := fun w' h => by rwa [← hn, tlP_end] at h
  have BN : Hid ((∀ j (hj : j < S.length), j < nS → ¬ (cAt V S[j]).ty = 0) → badT V S = false) := fun h => badT_no (fun j hj => h j hj (by omega))
  have HSZ := hide (show ∀ wr, Fr W wr (fun i => i = t) → W.heap.size ≤ wr.heap.size from fun wr h => h.size)
  have c7 : W.cell? ⟨d, 7, none⟩ = some (.slice pS nS cS) := by rw [hd.cell, List.getElem?_append_right (by omega), hfx]; rfl
  obtain ⟨EV, hEV⟩ : ∃ v : Int, v = (if badT V S = true then 11 else 0) := ⟨_, rfl⟩
  have E1 : Hid (badT V S = true → EV = 11) := fun h => by rw [hEV, if_pos h]
  have E0 : Hid (badT V S = false → EV = 0) := fun h => by rw [hEV, h]; rfl
  rw [← hEV]
  have d78 := hide (fun (c : Cl) => isOver_any c.ty c.num c.tx)
  clear hEV hd hr1 hS hV hA hC hT hSt hfx hVn hn hdl htl hgl hdt hgt
  go_enter Tryz.func81, Tryz.ntmps81
  go_wp2_with fail
  go_loopw [14] (fun v14 wr => ∃ (k : Nat), v14 = .int .i64 k ∧ k ≤ nS ∧ Hid (Fr W wr (fun i => i = t)) ∧ Hid (TLs wr t (tlP V S f k)) ∧ Hid (∀ j (hj : j < S.length), j < k → ¬ (cAt V S[j]).ty = 0)) (fun v14 _ => nS - (intOf v14).toNat)
  case atStart => exact ⟨0, rfl, by omega, Fr.refl _ _, unhide T0, fun j _ h => by omega⟩
  case round =>
    obtain ⟨k, rfl, hk, hFr, hTl, hall⟩ := hrel
    by_cases hlt : k < nS
    · obtain ⟨b, off, x, e1, hx, hxi, l1, Y1, y1, b6, b7, hF1, hT1, hlo⟩ := unhide RD wr k (unhide hFr) (unhide hTl) hlt
      subst e1
      obtain ⟨r4, r5⟩ := unhide R4 k x hx
      have HX := hide hx; have HXI := hide hxi; have B6 := hide b6; have B7 := hide b7; have HF1 := hide hF1; have HT1 := hide hT1
      have H4 := hide r4; have H5 := hide r5
      have hws := hide (unhide HSZ wr (unhide hFr))
      have ck := b6.cell 0
      have hkn : (k : Int) < (nS : Int) := by omega
      have h3 : ¬ (k : Int) < 0 := by omega
      obtain ⟨c, hc⟩ : ∃ c, c = cAt V x := ⟨_, rfl⟩
      have R3 := hide (unhide R3 · k wr.heap.size x)
      rw [← hc] at H4 H5 R3
      have HC := hide hc
      clear hx hxi b6 b7 hF1 hT1 r4 r5 RD hFr hTl hc
      obtain ⟨kd, oo, ty⟩ := x
      unfold Ag.vals Ag.val at *
      have ck : Y1.cell? ⟨wr.heap.size, 0, none⟩ = some (.int .i64 kd) := ck
      go_upto_region 5 with fail
      by_cases h1 : kd = 1
      · subst h1
        have hc1 : c = ⟨1, 1, ⟨#[]⟩⟩ := by rw [unhide HC]; rfl
        have B7 : Hid (Bk Y1 (wr.heap.size + 1) 45 (kcs [c])) := by rw [hc1]; exact unhide B7
        have hcv : c.val = cV 1 1 ⟨#[]⟩ := by rw [hc1]; rfl
        clear hc1 hcv R2
        have l7 : (ldC (.pointer (some ⟨wr.heap.size + 1, 0, none⟩))).run Tryz.prog Y1 = .ok c.val Y1 := (unhide B7).ldC 0 (by simp)
        go_wp2_with fail
        refine (unhide d78 c _).mono ?_
        rintro e w2 ⟨rfl, hb⟩
        have HFb := hide ((unhide HF1).trans (Fr.of_below hb (fun i => i = t)) (fun _ _ h => h))
        have HTb := hide ((unhide HT1).same (hb.block _ (unhide HT1).lt))
        have HB6 := hide ((unhide B6).same (hb.block _ (unhide B6).lt))
        have HB7 := hide ((unhide B7).same (hb.block _ (unhide B7).lt))
        clear hb l7 B6 B7 HF1 HT1
        by_cases h0 : c.ty = 0
        · have HBT := hide (unhide H4 h0)
          have HE := hide (unhide E1 (unhide HBT))
          rw [beqT h0]
          clear h0 H4 H5 R3
          go_wp2_with fail
          go_ret
          exact ⟨by rw [unhide HE]; rfl, unhide HFb, fun h => by rw [unhide HBT] at h; cases h⟩
        · obtain ⟨q0, q1, dd⟩ := unhide R3 w2 (unhide HB6) (unhide HB7) (unhide HFb) (unhide HTb) (unhide HX)
          have HA := hide (unhide H5 h0 (unhide hall))
          have DD := hide dd
          rw [beqF h0]
          clear dd h0 H4 H5 R3 HFb HTb HB6 HB7
          go_upto_region 9 with fail
          refine wp_region_last (n := 6) (S := fun W' => W'.cell? ⟨wr.heap.size, 0, none⟩ = some (.int .i64 1) ∧ (ldC (.pointer (some ⟨wr.heap.size + 1, 0, none⟩))).run Tryz.prog W' = .ok c.val W') (by kernel_rfl) ⟨q0, q1⟩ (fun hHeld => ?_)
          refine tkW 0 ?_; refine tkW 1 ?_; refine tkW 2 ?_; refine tkW 3 ?_; refine tkS 4 ?_; refine tkS 5 ?_
          refine wpAnyL_past (i := 6) (by kernel_rfl) rfl (by kernel_rfl) (fun KK hK => ?_)
          go_simp
          go_wp2_with fail
          refine (unhide DD).mono ?_
          rintro e w3 ⟨rfl, hF3, hT3⟩
          have HF3 := hide hF3
          have HT3 := hide hT3
          clear hF3 hT3 DD
          go_wp2_with fail
          refine hK.out _ _ ?_
          clear hK KK
          refine wpAnyL_done (by kernel_rfl) ?_
          go_wp2_with fail
          exact ⟨⟨k + 1, by go_num, by omega, unhide HF3, unhide HT3, unhide HA⟩, by simp [intOf]; omega⟩
      · have h1' := beqF h1
        obtain ⟨o, eo, hon, p0, p1, p2, Y2, p3, b6, b7, hF2, hT2, p4, p5, p6⟩ := unhide R2 Y1 k wr.heap.size _ (unhide B6) (unhide B7) (unhide HF1) (unhide HT1) (unhide HXI) h1 (unhide hws)
        rw [← unhide HC] at p2 p3 b7 p6
        have B6 := hide b6; have B7 := hide b7; have HF1 := hide hF2; have HT1 := hide hT2
        have P4 := hide p4; have P5 := hide p5; have P6 := hide p6; have EO := hide eo
        have hon' : (o : Int) < (nN : Int) := by omega
        clear b6 b7 hF2 hT2 p4 p5 p6 eo R2
        go_upto_region 6 with fail
        refine wp_region_last (n := 9) (S := fun W' => W'.cell? ⟨d, 9, none⟩ = some (.slice (some ⟨g, 0, none⟩) nN cv) ∧ W'.cell? ⟨wr.heap.size, 1, none⟩ = some (.int .i64 (o : Int)) ∧ (ldC (.pointer (some ⟨g, o * 3, none⟩))).run Tryz.prog W' = .ok c.val W') (by kernel_rfl) ⟨p0, p1, p2⟩ (fun hHeld => ?_)
        refine tkW 0 ?_; refine tkW 1 ?_; refine tkW 2 ?_; refine tkN 3 ?_; refine tkW 4 ?_; refine tkN 5 ?_; refine tkW 6 ?_; refine tkN 7 ?_
        refine wpAnyL_one (i := 8) (by kernel_rfl) rfl (fun KK hK => ?_)
        go_simp
        refine hK.out _ _ ⟨unhide P4, unhide P5, unhide P6⟩ (fun hHeld => ?_)
        clear hK KK
        refine wpAnyL_done (by kernel_rfl) ?_
        clear p0 p1 p2 p3 P4 P5 P6
        have l7 : (ldC (.pointer (some ⟨wr.heap.size + 1, 0, none⟩))).run Tryz.prog Y2 = .ok c.val Y2 := (unhide B7).ldC 0 (by simp)
        go_wp2_with fail
        refine (unhide d78 c _).mono ?_
        rintro e w2 ⟨rfl, hb⟩
        have HFb := hide ((unhide HF1).trans (Fr.of_below hb (fun i => i = t)) (fun _ _ h => h))
        have HTb := hide ((unhide HT1).same (hb.block _ (unhide HT1).lt))
        have HB6 := hide ((unhide B6).same (hb.block _ (unhide B6).lt))
        have HB7 := hide ((unhide B7).same (hb.block _ (unhide B7).lt))
        clear hb l7 B6 B7 HF1 HT1
        by_cases h0 : c.ty = 0
        · have HBT := hide (unhide H4 h0)
          have HE := hide (unhide E1 (unhide HBT))
          rw [beqT h0]
          clear h0 H4 H5 R3
          go_wp2_with fail
          go_ret
          exact ⟨by rw [unhide HE]; rfl, unhide HFb, fun h => by rw [unhide HBT] at h; cases h⟩
        · obtain ⟨q0, q1, dd⟩ := unhide R3 w2 (unhide HB6) (unhide HB7) (unhide HFb) (unhide HTb) (unhide HX)
          have HA := hide (unhide H5 h0 (unhide hall))
          have DD := hide dd
          rw [beqF h0]
          clear dd h0 H4 H5 R3 HFb HTb HB6 HB7
          go_upto_region 9 with fail
          refine wp_region_last (n := 6) (S := fun W' => W'.cell? ⟨wr.heap.size, 0, none⟩ = some (.int .i64 kd) ∧ (ldC (.pointer (some ⟨wr.heap.size + 1, 0, none⟩))).run Tryz.prog W' = .ok c.val W') (by kernel_rfl) ⟨q0, q1⟩ (fun hHeld => ?_)
          refine tkW 0 ?_; refine tkW 1 ?_; refine tkW 2 ?_; refine tkW 3 ?_; refine tkS 4 ?_; refine tkS 5 ?_
          refine wpAnyL_past (i := 6) (by kernel_rfl) rfl (by kernel_rfl) (fun KK hK => ?_)
          go_simp
          go_wp2_with fail
          refine (unhide DD).mono ?_
          rintro e w3 ⟨rfl, hF3, hT3⟩
          have HF3 := hide hF3
          have HT3 := hide hT3
          clear hF3 hT3 DD
          go_wp2_with fail
          refine hK.out _ _ ?_
          clear hK KK
          refine wpAnyL_done (by kernel_rfl) ?_
          go_wp2_with fail
          exact ⟨⟨k + 1, by go_num, by omega, unhide HF3, unhide HT3, unhide HA⟩, by simp [intOf]; omega⟩
    · have hkn : k = nS := by omega
      subst hkn
      have HB := hide (unhide BN (unhide hall))
      have HE := hide (unhide E0 (unhide HB))
      have HT := hide (unhide TE _ (unhide hTl))
      go_wp2_with fail
      go_ret
      exact ⟨by rw [unhide HE]; rfl, unhide hFr, fun _ => unhide HT⟩
end
end Go.Proofs.YtbenciieenbmeaaGreatDoor
