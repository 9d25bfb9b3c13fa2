import Derived.Test.YtbenciieenbmeaaGreatDoorW22
import Derived.Deep.DeepCutAuto
/- answer: hasEnds 48, line 50. -/
namespace Go.Proofs.YtbenciieenbmeaaGreatDoor
open Go Go.Shelf Go.ChangeShapes Go.WideShapes Go.ChangeAt Go.RowKit Go.Maps
set_option linter.unusedVariables false
set_option maxRecDepth 100000
set_option maxHeartbeats 4000000
def kC : Kd Cl := ⟨Cl.vals, 3, 46, 45, 32⟩
theorem kC_ok : KdOK kC := kd_ok (fun _ => rfl) (by decide) (fun x u hu => by simp [kC, Cl.vals] at hu; rcases hu with rfl | rfl | rfl <;> rfl) Tryz.underlying46 (z := .agg #[.int .i64 0, .int .i64 0, .string ⟨#[]⟩]) (by kernel_rfl) rfl (by decide)
theorem eg83 (args : Array Value) (w : World) : (callFunc 83 args).run Tryz.prog w = .ok (.enter 83 args) w := by kernel_rfl
/-- is there a least or a greatest? -/
def endsB (S : List Ag) : Bool := S.any (fun x => isE x.kd)
section
attribute [local go_sem ↓] ld104_is
def IxOut (S : List Ag) (W : World) (e : Ending) (w' : World) : Prop := ∃ i : Int, e = .returned (.int .i64 i) ∧ (endsB S = true → i ≥ 0) ∧ (endsB S = false → ¬ i ≥ 0) ∧ Below W.heap.size W w'
theorem index107 {W : World} {p : Option Addr} {n c : Nat} {S : List Ag} (hn : S.length = n) (hS : Lies kA W p S) (hb : n ≤ 4194304) :
    Calls Tryz.prog 107 #[.slice p n c, .func (.func 83) #[] #[]] W (IxOut S W) := by
  have HS := hide hS; have HN := hide hn
  have eg := eg83
  have d := hide (fun x : Ag => isEnd_any x.kd x.of' x.ty)
  clear hS hn
  go_enter Tryz.func107, Tryz.ntmps107
  go_wp2_with fail
  go_loopw [8] (fun v8 wr => ∃ (k : Nat), v8 = .int .i64 k ∧ k ≤ n ∧ Hid (Below W.heap.size W wr) ∧ Hid (∀ x ∈ S.take k, isE x.kd = false)) (fun v8 _ => n - (intOf v8).toNat)
  case atStart => exact ⟨0, rfl, by omega, Below.refl _ _, fun x hx => by simp at hx⟩
  case round =>
    obtain ⟨k, rfl, hk, hB, hall⟩ := hrel
    by_cases hlt : k < n
    · have hkl : k < S.length := by rw [unhide HN]; exact hlt
      obtain ⟨b, off, e1, hbl, hr⟩ := (unhide HS).2 k hkl
      have htk : Hid (∀ y ∈ S.take (k + 1), y ∈ S.take k ∨ y = S[k]) := fun y hy => by
        rw [List.take_succ_eq_append_getElem hkl, List.mem_append, List.mem_singleton] at hy
        exact hy
      have hmem : Hid (S[k] ∈ S) := List.getElem_mem hkl
      obtain ⟨x, hx⟩ : ∃ x, x = S[k] := ⟨_, rfl⟩
      rw [← hx] at hr htk hmem
      have l1 := run_ld104 (w := wr) (b := b) (o := off + k * 3) (x := x) (fun j u hu => ((unhide hB).cell (p := ⟨b, off + k * 3 + j, none⟩) hbl).trans (hr j u hu))
      have dx := hide (unhide d x)
      obtain ⟨bx, hbx⟩ : ∃ v, v = isE x.kd := ⟨_, rfl⟩
      rw [← hbx] at dx
      have HBX := hide hbx
      have hkn : (k : Int) < (n : Int) := by omega
      have h3 : ¬ (k : Int) < 0 := by omega
      subst e1
      obtain ⟨x1, x2, x3⟩ := x
      have l1 : (ld104 (.pointer (some ⟨b, off + k * 3, none⟩))).run Tryz.prog wr = .ok (agV x1 x2 x3) wr := l1
      clear hr hx hbl hkl hbx
      cases bx with
      | true =>
        go_wp2_with fail
        refine (unhide dx wr).mono ?_
        rintro e w1 ⟨rfl, hw⟩
        have HW : Hid (Below W.heap.size W w1) := by
          show Below _ _ _
          rw [hw]; exact (unhide hB).alloc (unhide hB).size _
        clear hw
        go_wp2_with fail
        go_ret
        refine ⟨k, rfl, fun _ => by omega, fun h => ?_, unhide HW⟩
        unfold endsB at h
        rw [List.any_eq_false] at h
        exact absurd (unhide HBX).symm (h _ (unhide hmem))
      | false =>
        go_wp2_with fail
        refine (unhide dx wr).mono ?_
        rintro e w1 ⟨rfl, hw⟩
        have HW : Hid (Below W.heap.size W w1) := by
          show Below _ _ _
          rw [hw]; exact (unhide hB).alloc (unhide hB).size _
        clear hw
        go_wp2_with fail
        refine ⟨⟨k + 1, by go_num, by omega, unhide HW, fun y hy => ?_⟩, by simp [intOf]; omega⟩
        rcases unhide htk y hy with h | h
        · exact unhide hall y h
        · rw [h]; exact (unhide HBX).symm
    · have hkn : k = n := by omega
      subst hkn
      go_wp2_with fail
      go_ret
      have e : S.take k = S := List.take_of_length_le (by rw [unhide HN]; exact Nat.le_refl _)
      refine ⟨-1, rfl, fun h => ?_, fun _ => by decide, unhide hB⟩
      unfold endsB at h
      rw [List.any_eq_true] at h
      obtain ⟨x, hx, h2⟩ := h
      have := unhide hall x (by rw [e]; exact hx)
      rw [this] at h2
      cases h2
theorem contains82 {W : World} {p : Option Addr} {n c : Nat} {S : List Ag} (hn : S.length = n) (hS : Lies kA W p S) (hb : n ≤ 4194304) :
    Calls Tryz.prog 82 #[.slice p n c, .func (.func 83) #[] #[]] W fun e w' => e = .returned (.bool (endsB S)) ∧ Below W.heap.size W w' := by
  have d := hide (index107 (c := c) hn hS hb)
  obtain ⟨bb, hbb⟩ : ∃ v, v = endsB S := ⟨_, rfl⟩
  rw [← hbb]
  have HBB := hide hbb
  clear hS hn hbb
  go_enter Tryz.func82, Tryz.ntmps82
  go_wp2_with fail
  refine (unhide d).mono ?_
  rintro e w1 ⟨i, rfl, h1, h2, hw⟩
  have HW := hide hw
  rw [← unhide HBB] at h1 h2
  clear hw
  cases bb with
  | true =>
    have h3 := h1 rfl
    clear h1 h2
    go_wp2_with fail
    go_ret
    exact ⟨rfl, unhide HW⟩
  | false =>
    have h3 : ¬ 0 ≤ i := h2 rfl
    clear h1 h2
    go_wp2_with fail
    go_ret
    exact ⟨congrArg (fun b => Ending.returned (.bool b)) (decide_eq_false (by omega)), unhide HW⟩
theorem hasEnds_any {W : World} {p1 : Option Addr} {n1 c1 : Nat} {p : Option Addr} {n c : Nat} {p3 : Option Addr} {n3 c3 : Nat} {S : List Ag} (hn : S.length = n) (hS : Lies kA W p S) (hb : n ≤ 4194304) :
    Calls Tryz.prog 48 #[.agg #[.slice p1 n1 c1, .slice p n c, .slice p3 n3 c3]] W fun e w' => e = .returned (.bool (endsB S)) ∧ Below W.heap.size W w' := by
  have d := hide (fun o => contains82 (W := W.alloc o) (c := c) hn (hS.below (Below.a1 W o)) hb)
  have HB := hide (fun o => Below.a1 W o)
  clear hS hn
  go_enter Tryz.func48, Tryz.ntmps48
  go_wp2_with fail
  refine (unhide d _).mono ?_
  rintro e w1 ⟨rfl, hw⟩
  have HW := hide ((unhide HB _).trans (hw.mono (by simp)))
  clear hw
  go_wp2_with fail
  go_ret
  exact ⟨rfl, unhide HW⟩
end
/-- a group's cells -/
noncomputable def lnC (k : List Cl) (nF : Nat) (S : List Ag) (f : Ag → Int × Cl) : List Cl := k.take nF ++ S.map (fun x => tlC (f x).1 (f x).2 x.kd x.ty)
noncomputable def lnB (S : List Ag) (f : Ag → Int × Cl) : Bool := S.any (fun x => (tlC (f x).1 (f x).2 x.kd x.ty).ty == 0)
def ld167 (x : Value) : Sem Value := Instr.loadAt 167 x
theorem ld167_is (x : Value) : Instr.loadAt 167 x = ld167 x := rfl
theorem sz167 : (Tryz.prog.info? 167).map (·.size) = some 5 := by kernel_rfl
theorem TAt.ldT {w : World} {g o : Nat} {z : Int} {e : Cl} (h : TAt w g o z e) : (ld167 (.pointer (some ⟨g, o, none⟩))).run Tryz.prog w = .ok (tlV z e) w :=
  run_loadAt_mid (P := Tryz.prog) w g o 167 (tlL z e) _ h.r Tryz.underlying167 rfl sz167
def LnOut (W : World) (k : List Cl) (nF : Nat) (S : List Ag) (f : Ag → Int × Cl) (e : Ending) (w' : World) : Prop :=
  (lnB S f = true → e = .returned (.tuple #[.slice none 0 0, .int .i64 11]) ∧ Below W.heap.size W w') ∧ (lnB S f = false → ∃ p c, e = .returned (.tuple #[.slice p (nF + S.length) c, .int .i64 0]) ∧ Rw kC W w' (.slice p (nF + S.length) c) (nF + S.length) (lnC k nF S f))
section
attribute [local go_sem ↓] stC_is ldC_is ld104_is ld167_is
theorem line_any {W : World} {pF : Option Addr} {nF cF : Nat} {pS : Option Addr} {nS cS : Nat} {p3 : Option Addr} {n3 c3 : Nat} {S : List Ag} (hn : S.length = nS) (hS : Lies kA W pS S) (hb : nS ≤ 4194304) (h14 : nF ≤ 14) {k : List Cl} (hk : k.length = 14) {t : Nat} {f : Ag → Int × Cl} (hT : TLs W t (S.map f)) (ga : Array Value) (hga : ga = (kcs k ++ [Value.slice (some ⟨t, 0, none⟩) nS nS]).toArray) :
    Calls Tryz.prog 50 #[.agg #[.slice pF nF cF, .slice pS nS cS, .slice p3 n3 c3], .agg ga] W (LnOut W k nF S f) := by
  obtain ⟨X, hX⟩ : ∃ X, X = (W.alloc (.cells #[.slice pF nF cF, .slice pS nS cS, .slice p3 n3 c3] 80)).alloc (.cells ga 119) := ⟨_, rfl⟩
  have hXs : X.heap.size = W.heap.size + 2 := by rw [hX]; simp
  have hBX : Below W.heap.size W X := by rw [hX]; exact Below.a2 W _ _
  have hbk : Bk X (W.heap.size + 1) 119 (kcs k ++ [Value.slice (some ⟨t, 0, none⟩) nS nS]) := by
    show X.heap[_]? = _
    have := heap_new (W.alloc (.cells #[.slice pF nF cF, .slice pS nS cS, .slice p3 n3 c3] 80)) (.cells ga 119)
    simp only [World.size_alloc] at this
    rw [hX, ← hga]; exact this
  have hlie : Lies kC X (some ⟨W.heap.size + 1, 0, none⟩) (k.take nF) := by
    refine ⟨(fun h => by cases h), fun j hj => ⟨W.heap.size + 1, 0, rfl, hbk.lt, fun i u hu => ?_⟩⟩
    rw [List.length_take] at hj
    have hjk : j < k.length := by omega
    have hi : i < 3 := by have := (List.getElem?_eq_some_iff.1 hu).1; simpa [kC, Cl.vals] using this
    rw [List.getElem_take] at hu
    have hlen : (kcs k).length = 42 := by rw [kcs_len, hk]
    have h1 : (kcs k)[j * 3 + i]? = some u := by
      have h2 := kcs_part k j hjk
      have h3 : (((kcs k).drop (j * 3)).take 3)[i]? = some u := by rw [h2]; exact hu
      rw [List.getElem?_take_of_lt hi, List.getElem?_drop] at h3
      exact h3
    rw [hbk.cell, Nat.zero_add]
    show (kcs k ++ _)[j * 3 + i]? = some u
    rw [List.getElem?_append_left (by rw [hlen]; omega)]
    exact h1
  have htn : (k.take nF).length = nF := by rw [List.length_take]; omega
  obtain ⟨p0, c0, X1, r0, R0⟩ := Rw.copy kC_ok X (k.take nF) (some ⟨W.heap.size + 1, 0, none⟩) 14 (fun h => by cases h) hlie 46 (by omega) (nat_bound (c := 14) (by omega) (by decide))
  rw [htn] at r0 R0
  have r0 : (Builtin.append_ #[46, 46] 46 #[.slice none 0 0, .slice (some ⟨W.heap.size + 1, 0, none⟩) nF 14]).run Tryz.prog X = .ok (.slice p0 nF c0) X1 := r0
  -- what a round finds
  have RD : Hid (∀ wr j, Below X.heap.size X wr → (hj : j < nS) → ∃ b off x, pS = some ⟨b, off, none⟩ ∧ S[j]? = some x ∧ (ld104 (.pointer (some ⟨b, off + j * 3, none⟩))).run Tryz.prog wr = .ok x.val wr ∧
      ∀ w1, Below wr.heap.size (wr.alloc (.cells x.vals.toArray 104)) w1 → Bk w1 wr.heap.size 104 x.vals → w1.cell? ⟨W.heap.size + 1, 42, none⟩ = some (.slice (some ⟨t, 0, none⟩) nS nS) ∧ (ld167 (.pointer (some ⟨t, j * 5, none⟩))).run Tryz.prog w1 = .ok (tlV (f x).1 (f x).2) w1 ∧ (ld104 (.pointer (some ⟨wr.heap.size, 0, none⟩))).run Tryz.prog w1 = .ok x.val w1) := by
    intro wr j hB hj
    have hjl : j < S.length := by omega
    obtain ⟨b, off, e1, hbl, hrr⟩ := hS.2 j hjl
    have hBW : Below W.heap.size W wr := hBX.trans (hB.mono (by omega))
    refine ⟨b, off, S[j], e1, List.getElem?_eq_getElem hjl, run_ld104 (fun i u hu => ?_), fun w1 hb1 hk1 => ?_⟩
    · rw [← hrr i u hu]; exact hBW.cell (p := ⟨b, off + j * 3 + i, none⟩) hbl
    · have hBw1 : ∀ i, i < wr.heap.size → w1.heap[i]? = wr.heap[i]? := fun i hi => (hb1.block i hi).trans (Below.heap_alloc _ _ _ hi)
      have hlx : X.heap.size ≤ wr.heap.size := hB.size
      have hT1 : TLs w1 t (S.map f) := hT.same ((hBw1 t (by have := hT.lt; omega)).trans (hBW.block t hT.lt))
      have hat := hT1.at' j (by rw [List.length_map]; exact hjl)
      rw [List.getElem_map] at hat
      refine ⟨?_, hat.ldT, run_ld104 (fun i u hu => by rw [hk1.cell, Nat.zero_add]; exact hu)⟩
      have hb2 : Bk w1 (W.heap.size + 1) 119 (kcs k ++ [Value.slice (some ⟨t, 0, none⟩) nS nS]) := hbk.same ((hBw1 _ (by omega)).trans (hB.block _ (by omega)))
      rw [hb2.cell, List.getElem?_append_right (by rw [kcs_len, hk]; decide), kcs_len, hk]
      rfl
  have HTK : Hid (∀ j x, S[j]? = some x → (S.take (j + 1)).map (fun x => tlC (f x).1 (f x).2 x.kd x.ty) = (S.take j).map (fun x => tlC (f x).1 (f x).2 x.kd x.ty) ++ [tlC (f x).1 (f x).2 x.kd x.ty]) := fun j x hx => by
    obtain ⟨hj, e⟩ := List.getElem?_eq_some_iff.1 hx
    rw [List.take_succ_eq_append_getElem hj, List.map_append, e]; rfl
  have HBAD : Hid (∀ j x, S[j]? = some x → (tlC (f x).1 (f x).2 x.kd x.ty).ty = 0 → lnB S f = true) := fun j x hx h0 => by
    unfold lnB
    rw [List.any_eq_true]
    exact ⟨x, List.mem_of_getElem? hx, by simpa using h0⟩
  have HGOOD : Hid ((∀ j x, S[j]? = some x → j < nS → ¬ (tlC (f x).1 (f x).2 x.kd x.ty).ty = 0) → lnB S f = false) := fun h => by
    unfold lnB
    rw [List.any_eq_false]
    intro x hx
    obtain ⟨j, hj, rfl⟩ := List.mem_iff_getElem.1 hx
    have := h j S[j] (List.getElem?_eq_getElem hj) (by omega)
    simpa using this
  have e80 : Bk X W.heap.size 80 [.slice pF nF cF, .slice pS nS cS, .slice p3 n3 c3] := by
    show X.heap[_]? = _
    rw [hX, Below.heap_alloc _ _ _ (by simp)]
    exact heap_new _ _
  have q0 : X.cell? ⟨W.heap.size, 0, none⟩ = some (.slice pF nF cF) := e80.cell 0
  have q1 : X1.cell? ⟨W.heap.size, 1, none⟩ = some (.slice pS nS cS) := (e80.same (R0.bel.block _ (by omega))).cell 1
  have n14 : ¬ (14 : Int) < (nF : Int) := by omega
  have n0 : ¬ (nF : Int) < 0 := by omega
  have HX := hide hX
  have R0' : Hid (Rw kC X X1 (.slice p0 (nF + 0) c0) (nF + 0) (k.take nF ++ (S.take 0).map (fun x => tlC (f x).1 (f x).2 x.kd x.ty))) := by
    show Rw _ _ _ _ _ _
    rw [List.take_zero, List.map_nil, List.append_nil]
    exact R0
  have HR0 := hide r0
  have HBX := hide hBX
  have HN := hide hn
  have d78 := hide (fun (c : Cl) => isOver_any c.ty c.num c.tx)
  have d84 := hide (fun (x : Ag) => cell_any (f x).1 (f x).2 x.kd x.of' x.ty)
  clear hX hXs hBX hbk hlie htn hS hT hga R0 r0 hk e80
  go_enter Tryz.func50, Tryz.ntmps50
  go_upto_region 1 with fail
  rw [← unhide HX]
  go_wp2_with (first | (at_builtin; refine wpList_append_run rfl _ _ 46 rfl _ _ _ _ rfl rfl (unhide HR0) ?_))
  clear q0 q1 n14 n0 HR0
  go_loopw [6, 19] (fun v6 v19 wr => ∃ (j : Nat) (p : Option Addr) (c : Nat), v19 = .int .i64 j ∧ j ≤ nS ∧ v6 = .slice p (nF + j) c ∧ Hid (Rw kC X wr (.slice p (nF + j) c) (nF + j) (k.take nF ++ (S.take j).map (fun x => tlC (f x).1 (f x).2 x.kd x.ty))) ∧ Hid (∀ i x, S[i]? = some x → i < j → ¬ (tlC (f x).1 (f x).2 x.kd x.ty).ty = 0)) (fun _ v19 _ => nS - (intOf v19).toNat)
  case atStart => exact ⟨0, _, _, rfl, by omega, rfl, unhide R0', fun i x _ h => by omega⟩
  case round =>
    obtain ⟨j, p, c, rfl, hj, rfl, hR, hall⟩ := hrel
    by_cases hlt : j < nS
    · obtain ⟨b, off, x, e1, hx, l1, hfacts⟩ := unhide RD wr j (unhide hR).bel hlt
      subst e1
      have HF := hide hfacts
      have HTK' := hide (unhide HTK j x hx)
      have HBAD' := hide (unhide HBAD j x hx)
      have HX2 := hide hx
      obtain ⟨c4, hc4⟩ : ∃ c, c = tlC (f x).1 (f x).2 x.kd x.ty := ⟨_, rfl⟩
      have D84 := hide (unhide d84 x)
      rw [← hc4] at HTK' HBAD' D84
      have HC4 := hide hc4
      obtain ⟨tv, htv⟩ : ∃ v, v = tlV (f x).1 (f x).2 := ⟨_, rfl⟩
      rw [← htv] at HF D84
      have hjn : (j : Int) < (nS : Int) := by omega
      have h3 : ¬ (j : Int) < 0 := by omega
      have HBX1 : Hid (Below wr.heap.size (wr.alloc (.cells x.vals.toArray 104)) (wr.alloc (.cells x.vals.toArray 104)).drew) := below_drewN (Below.refl _ _) 1
      have HNB : Hid (Bk (wr.alloc (.cells x.vals.toArray 104)) wr.heap.size 104 x.vals) := heap_new _ _
      -- the order of the call and of the cell's variable
      have ORD : Hid (∀ w1, Below (wr.heap.size + 1) (wr.alloc (.cells x.vals.toArray 104)) w1 → (w1.cell? ⟨W.heap.size + 1, 42, none⟩ = some (.slice (some ⟨t, 0, none⟩) nS nS) ∧ (ld167 (.pointer (some ⟨t, j * 5, none⟩))).run Tryz.prog w1 = .ok tv w1 ∧ (ld104 (.pointer (some ⟨wr.heap.size, 0, none⟩))).run Tryz.prog w1 = .ok x.val w1)) := fun w1 hb => unhide HF w1 (hb.mono (by omega)) ((unhide HNB).same (hb.block _ (by omega)))
      have PUT : Hid (∀ w1 s9, Bk w1 s9 45 (kcs [⟨0, 0, ⟨#[]⟩⟩]) → wr.heap.size + 1 ≤ s9 → Below (wr.heap.size + 1) (wr.alloc (.cells x.vals.toArray 104)) w1 → ∃ Y, (stC (.pointer (some ⟨s9, 0, none⟩)) c4.val).run Tryz.prog w1 = .ok () Y ∧ Bk Y s9 45 (kcs [c4]) ∧ Below (wr.heap.size + 1) (wr.alloc (.cells x.vals.toArray 104)) Y) := fun w1 s9 hb9 hs9 hb => by
        obtain ⟨Y, y1, y2, y3⟩ := hb9.stC 0 (by simp) c4
        exact ⟨Y, y1, y2, hb.trans (y3.below (by have := hb.size; simp at this; omega) (fun i hi e => by omega))⟩
      clear hfacts RD hx HF hc4 htv HNB d84
      obtain ⟨x1, x2, x3⟩ := x
      unfold Ag.vals Ag.val at *
      go_upto_region 5 with fail
      obtain ⟨A, hA⟩ : ∃ A, A = wr.alloc (.cells #[.int .i64 x1, .int .i64 x2, .int .i64 x3] 104) := ⟨_, rfl⟩
      have hAs : A.heap.size = wr.heap.size + 1 := by rw [hA]; simp
      have HA := hide hA
      have ORD : Hid (∀ w1, Below A.heap.size A w1 → (w1.cell? ⟨W.heap.size + 1, 42, none⟩ = some (.slice (some ⟨t, 0, none⟩) nS nS) ∧ (ld167 (.pointer (some ⟨t, j * 5, none⟩))).run Tryz.prog w1 = .ok tv w1 ∧ (ld104 (.pointer (some ⟨wr.heap.size, 0, none⟩))).run Tryz.prog w1 = .ok (.agg #[.int .i64 x1, .int .i64 x2, .int .i64 x3]) w1)) := fun w1 hb => unhide ORD w1 (by rw [← hA, ← hAs]; exact hb)
      have PUT : Hid (∀ w1 s9, Bk w1 s9 45 (kcs [⟨0, 0, ⟨#[]⟩⟩]) → A.heap.size ≤ s9 → Below A.heap.size A w1 → ∃ Y, (stC (.pointer (some ⟨s9, 0, none⟩)) c4.val).run Tryz.prog w1 = .ok () Y ∧ Bk Y s9 45 (kcs [c4]) ∧ Below A.heap.size A Y) := fun w1 s9 h1 h2 h3 => by
        obtain ⟨Y, y1, y2, y3⟩ := unhide PUT w1 s9 h1 (by omega) (by rw [← hA, ← hAs]; exact h3)
        exact ⟨Y, y1, y2, by rw [← hA, ← hAs] at y3; exact y3⟩
      have HRA : Hid (Rw kC X A (.slice p (nF + j) c) (nF + j) (k.take nF ++ (S.take j).map (fun x => tlC (f x).1 (f x).2 x.kd x.ty))) := by
        show Rw _ _ _ _ _ _
        rw [hA]; exact (unhide hR).below (Below.a1 wr _)
      rw [← unhide HA]
      clear hA hAs hR
      go_cut [9] (fun v9 wx => ∃ s9, v9 = .pointer (some ⟨s9, 0, none⟩) ∧ Hid (Bk wx s9 45 (kcs [c4])) ∧ Hid (Below A.heap.size A wx))
      case first =>
        have hD : Below A.heap.size A A.drew := below_drewN (Below.refl _ A) 1
        have S0 := unhide ORD _ hD
        refine wp_region_last (n := 9) (S := fun W' => W'.cell? ⟨W.heap.size + 1, 42, none⟩ = some (.slice (some ⟨t, 0, none⟩) nS nS) ∧ (ld167 (.pointer (some ⟨t, j * 5, none⟩))).run Tryz.prog W' = .ok tv W' ∧ (ld104 (.pointer (some ⟨wr.heap.size, 0, none⟩))).run Tryz.prog W' = .ok (.agg #[.int .i64 x1, .int .i64 x2, .int .i64 x3]) W') (by kernel_rfl) S0 (fun hHeld => ?_)
        refine tkW 0 ?_; refine tkN 1 ?_; refine tkW 2 ?_; refine tkW 3 ?_; refine tkN 4 ?_; refine tkN 5 ?_
        refine wpAnyL_two (i := 6) (j := 7) (by kernel_rfl) rfl rfl (fun KK hK => ?_) (fun KK hK => ?_)
        · go_simp
          go_wp2_with fail
          refine (unhide D84 _).mono ?_
          rintro e w5 ⟨rfl, hb⟩
          have hb5 : Below A.heap.size A w5 := hD.trans (hb.mono hD.size)
          have hb6 : Below A.heap.size A (w5.alloc zc) := hb5.alloc hb5.size _
          have S1 := unhide ORD _ hb5
          have S2 := unhide ORD _ hb6
          obtain ⟨Y, y1, y2, y3⟩ := unhide PUT (w5.alloc zc) w5.heap.size (heap_new _ _) hb5.size hb6
          have HS3 := hide (unhide ORD _ y3)
          have HY1 := hide y1
          have HY2 := hide y2
          have HY3 := hide y3
          clear hb hb5 hb6 y1 y2 y3
          go_wp2_with fail
          refine hK.out _ _ S1 (fun hHeld => ?_)
          clear hK KK
          refine wpAnyL_one (i := 7) (by kernel_rfl) rfl (fun KK hK => ?_)
          go_simp
          refine hK.out _ _ S2 (fun hHeld => ?_)
          clear hK KK
          refine wpAnyL_one (i := 8) (by kernel_rfl) rfl (fun KK hK => ?_)
          have y1 := unhide HY1
          go_simp
          refine hK.out _ _ (unhide HS3) (fun hHeld => ?_)
          clear hK KK
          refine wpAnyL_done (by kernel_rfl) ?_
          go_wp2_with fail
          go_meet
          exact ⟨_, rfl, unhide HY2, unhide HY3⟩
        · go_simp
          have hb6 : Below A.heap.size A (A.drew.alloc zc) := hD.alloc hD.size _
          have S2 := unhide ORD _ hb6
          refine hK.out _ _ S2 (fun hHeld => ?_)
          clear hK KK
          refine wpAnyL_one (i := 6) (by kernel_rfl) rfl (fun KK hK => ?_)
          go_simp
          go_wp2_with fail
          refine (unhide D84 _).mono ?_
          rintro e w5 ⟨rfl, hb⟩
          have hb5 : Below A.heap.size A w5 := hb6.trans (hb.mono (by simp))
          have S1 := unhide ORD _ hb5
          obtain ⟨Y, y1, y2, y3⟩ := unhide PUT w5 A.heap.size ((hb.block A.heap.size (by simp)).trans (heap_new A.drew zc)) (Nat.le_refl _) hb5
          have HS3 := hide (unhide ORD _ y3)
          have HY1 := hide y1
          have HY2 := hide y2
          have HY3 := hide y3
          clear hb hb5 hb6 y1 y2 y3 S2
          go_wp2_with fail
          refine hK.out _ _ S1 (fun hHeld => ?_)
          clear hK KK
          refine wpAnyL_one (i := 8) (by kernel_rfl) rfl (fun KK hK => ?_)
          have y1 := unhide HY1
          go_simp
          refine hK.out _ _ (unhide HS3) (fun hHeld => ?_)
          clear hK KK
          refine wpAnyL_done (by kernel_rfl) ?_
          go_wp2_with fail
          go_meet
          exact ⟨_, rfl, unhide HY2, unhide HY3⟩
      case rest =>
        obtain ⟨s9, rfl, hb9, hBe⟩ := hcut
        have l9' := (unhide hb9).ldC 0 (by simp)
        have l9 : (ldC (.pointer (some ⟨s9, 0, none⟩))).run Tryz.prog wc = .ok c4.val wc := l9'
        clear l9'
        go_wp2_with fail
        refine (unhide d78 c4 _).mono ?_
        rintro e w6 ⟨rfl, hb⟩
        have HB6 := hide ((unhide hBe).trans (hb.mono (unhide hBe).size))
        have l10' := ((unhide hb9).same (hb.block _ (unhide hb9).lt)).ldC 0 (by simp)
        have l10 : (ldC (.pointer (some ⟨s9, 0, none⟩))).run Tryz.prog w6 = .ok c4.val w6 := l10'
        clear l10'
        clear hb l9 hb9 hBe
        by_cases h0 : c4.ty = 0
        · have HBT := hide (unhide HBAD' h0)
          rw [beqT h0]
          have HBW : Hid (Below W.heap.size W w6) := by
            have h1 := ((unhide HRA).below (unhide HB6)).bel
            exact (unhide HBX).trans (h1.mono (unhide HBX).size)
          clear h0 l10
          go_wp2_with fail
          go_ret2
          exact ⟨fun _ => ⟨rfl, unhide HBW⟩, (fun h => by rw [unhide HBT] at h; cases h)⟩
        · rw [beqF h0]
          have HAL : Hid (∀ i x, S[i]? = some x → i < j + 1 → ¬ (tlC (f x).1 (f x).2 x.kd x.ty).ty = 0) := fun i x h1 h2 => by
            by_cases e : i = j
            · subst e
              rw [unhide HX2] at h1
              cases h1
              rw [← unhide HC4]
              exact h0
            · exact unhide hall i x h1 (by omega)
          obtain ⟨p8, c8, w8, r8, o8⟩ := ((unhide HRA).below (unhide HB6)).put kC_ok c4 #[.int .i64 c4.ty, .int .i64 c4.num, .string c4.tx] rfl 46 (by omega) (nat_bound (c := 4194400) (by omega) (by decide))
          have r8 : (Builtin.append_ #[46, 46] 46 #[.slice p (nF + j) c, .slice (some ⟨w6.heap.size, 0, none⟩) 1 1]).run Tryz.prog (w6.alloc (.cells #[.int .i64 c4.ty, .int .i64 c4.num, .string c4.tx] 45)) = .ok (.slice p8 (nF + j + 1) c8) w8 := r8
          have HR8 := hide r8
          have HO8 := hide o8
          clear r8 o8 h0
          obtain ⟨ct, cn, cx⟩ := c4
          have l11 : (ldC (.pointer (some ⟨s9, 0, none⟩))).run Tryz.prog w6 = .ok (.agg #[.int .i64 ct, .int .i64 cn, .string cx]) w6 := l10
          clear l10
          go_wp2_with (first | (at_builtin; refine wpList_append_run rfl _ _ 46 rfl _ _ _ _ rfl rfl (unhide HR8) ?_))
          refine ⟨⟨j + 1, p8, c8, by go_num, by omega, rfl, ?_, unhide HAL⟩, by simp [intOf]; omega⟩
          show Rw _ _ _ _ _ _
          rw [unhide HTK', ← List.append_assoc]
          exact unhide HO8
    · have hjn : j = nS := by omega
      subst hjn
      have HB := hide (unhide HGOOD (fun i x h1 h2 => unhide hall i x h1 h2))
      have HL : Hid (Rw kC W wr (.slice p (nF + j) c) (nF + j) (lnC k nF S f)) := by
        have := (unhide hR).up (unhide HBX)
        have e : S.take j = S := List.take_of_length_le (by rw [unhide HN]; exact Nat.le_refl _)
        rw [e] at this
        exact this
      go_wp2_with fail
      go_ret2
      refine ⟨(fun h => by rw [unhide HB] at h; cases h), fun _ => ⟨p, c, ?_, ?_⟩⟩
      · rw [unhide HN]; rfl
      · rw [unhide HN]; exact unhide HL
end
end Go.Proofs.YtbenciieenbmeaaGreatDoor
/- answer: what rows come to: keys, tallies (no program in it); rows, lines. -/
namespace Go.Proofs.YtbenciieenbmeaaGreatDoor
open Go Go.Shelf Go.ChangeShapes Go.WideShapes Go.ChangeAt Go.RowKit Go.Maps
set_option linter.unusedVariables false
set_option maxRecDepth 100000
set_option maxHeartbeats 4000000
/-- does a row count? -/
noncomputable def cntB (q : Qy) (r : Ro) : Bool := (whC q r).num == 1
noncomputable def ksR (q : Qy) (F : List Int) (R : List Ro) : List (List Cl) := onD ((R.filter (cntB q)).map (keyK F))
/-- what an aggregate comes to over rows -/
noncomputable def talR (q : Qy) (R : List Ro) (x : Ag) : Int × Cl := R.foldl (fun p r => (tkZ x.kd p.1 (cAt (vlL q.nodes r) x), tkE x.kd p.2 (cAt (vlL q.nodes r) x))) (0, .no)
noncomputable def inK (q : Qy) (F : List Int) (k : List Cl) (r : Ro) : Bool := cntB q r && decide (keyK F r = k)
noncomputable def φR (q : Qy) (F : List Int) (R : List Ro) (k : List Cl) : Ag → Int × Cl := talR q (R.filter (inK q F k))
theorem ksR_snoc (q : Qy) (F : List Int) (R : List Ro) (r : Ro) : ksR q F (R ++ [r]) = stK1 q F (ksR q F R) r := by
  unfold ksR stK1
  rw [List.filter_append]
  by_cases h : (whC q r).num = 1
  · have e : [r].filter (cntB q) = [r] := by simp [cntB, h]
    rw [e, List.map_append, if_pos h]
    refine (onD_snoc ((R.filter (cntB q)).map (keyK F)) (keyK F r)).trans ?_
    by_cases h2 : keyK F r ∈ onD ((R.filter (cntB q)).map (keyK F))
    · rw [if_pos h2, if_pos h2]
    · rw [if_neg h2, if_neg h2]
  · have e : [r].filter (cntB q) = [] := by simp [cntB, h]
    rw [e, List.append_nil, if_neg h]
theorem φR_snoc (q : Qy) (F : List Int) (R : List Ro) (r : Ro) : φR q F (R ++ [r]) = stF q F (φR q F R) r := by
  funext k
  unfold φR stF
  rw [List.filter_append]
  by_cases h : (whC q r).num = 1 ∧ k = keyK F r
  · have e : [r].filter (inK q F k) = [r] := by simp [inK, cntB, h.1, h.2]
    rw [e, if_pos h]
    funext x
    unfold talR
    rw [List.foldl_append]
    rfl
  · have e : [r].filter (inK q F k) = [] := by
      have : inK q F k r = false := by
        unfold inK cntB
        rw [Bool.and_eq_false_iff]
        by_cases h1 : (whC q r).num = 1
        · right; rw [decide_eq_false_iff_not]; exact fun e => h ⟨h1, e.symm⟩
        · left; simpa using h1
      simp [this]
    rw [e, List.append_nil, if_neg h]
theorem φR_out (q : Qy) (F : List Int) (R : List Ro) (k : List Cl) (h : k ∉ ksR q F R) : φR q F R k = fun _ => (0, .no) := by
  have e : R.filter (inK q F k) = [] := by
    rw [List.filter_eq_nil_iff]
    intro r hr hin
    unfold inK at hin
    rw [Bool.and_eq_true, decide_eq_true_iff] at hin
    refine h ?_
    unfold ksR
    rw [mem_onD, List.mem_map]
    exact ⟨r, List.mem_filter.2 ⟨hr, hin.1⟩, hin.2⟩
  unfold φR
  rw [e]
  rfl
theorem ksR_len (q : Qy) (F : List Int) (R : List Ro) : (ksR q F R).length ≤ R.length := by
  unfold ksR
  refine Nat.le_trans (len_onD _) ?_
  rw [List.length_map]
  exact List.length_filter_le _ _
/-- the keys in the end: one group is there without rows too, where nothing is grouped by and no least or greatest is asked for -/
noncomputable def ksF (q : Qy) (F : List Int) (S : List Ag) (R : List Ro) : List (List Cl) := if F = [] ∧ endsB S = false then (if noK ∈ ksR q F R then ksR q F R else ksR q F R ++ [noK]) else ksR q F R
/-- is a sum of some group, or a row, over? -/
noncomputable def rowsB (q : Qy) (F : List Int) (S : List Ag) (R : List Ro) : Bool := R.any (fun r => !(stE q F S r == 0))
noncomputable def linesB (q : Qy) (F : List Int) (S : List Ag) (R : List Ro) : Bool := (ksF q F S R).any (fun k => lnB S (φR q F R k))
noncomputable def linesL (q : Qy) (F : List Int) (S : List Ag) (R : List Ro) : List (List Cl) := (ksF q F S R).map (fun k => lnC k F.length S (φR q F R k))
theorem stE_or (q : Qy) (F : List Int) (S : List Ag) (r : Ro) : stE q F S r = 0 ∨ stE q F S r = 11 := by
  unfold stE
  split; exact .inr rfl
  split; exact .inl rfl
  split; exact .inr rfl
  split; exact .inr rfl
  exact .inl rfl
def kR : Kd Ro := ⟨Ro.vals, 9, 28, 39, 104⟩
theorem kR_ok : KdOK kR := kd_ok (fun _ => rfl) (by decide) (fun x u hu => by simp [kR, Ro.vals] at hu; rcases hu with rfl | rfl | rfl | rfl | rfl | rfl | rfl | rfl | rfl <;> rfl) Tryz.underlying28 (z := .agg #[.int .i64 0, .int .i64 0, .int .i64 0, .int .i64 0, .string ⟨#[]⟩, .string ⟨#[]⟩, .int .i64 0, .string ⟨#[]⟩, .string ⟨#[]⟩]) (by kernel_rfl) rfl (by decide)
section
variable {P : Program} {ops : Array Oper} {Q : Exit → Act → World → Prop} {md : Region.Mode} {S : World → Prop} {n : Nat}
theorem wpAnyL_three {i j l : Nat} {o o' o'' : Oper} {fuel : Nat} {listed : Array Bool} {a : Act} {w : World} (hr : Region.ready md ops listed = [i, j, l]) (ho : ops[i]? = some o) (ho' : ops[j]? = some o') (ho'' : ops[l]? = some o'')
    (h : ∀ K' : Act → World → Prop, Shut (∀ a w, S w → (S w → wpAnyL P md ops Q S n fuel (listed.setIfInBounds i true) a w) → K' a w) → if Region.wanted o (yielded ops a.tmps) = true then Oper.wp P o a w K' Q else K' (a.put o.dst undef) w)
    (h' : ∀ K' : Act → World → Prop, Shut (∀ a w, S w → (S w → wpAnyL P md ops Q S n fuel (listed.setIfInBounds j true) a w) → K' a w) → if Region.wanted o' (yielded ops a.tmps) = true then Oper.wp P o' a w K' Q else K' (a.put o'.dst undef) w)
    (h'' : ∀ K' : Act → World → Prop, Shut (∀ a w, S w → (S w → wpAnyL P md ops Q S n fuel (listed.setIfInBounds l true) a w) → K' a w) → if Region.wanted o'' (yielded ops a.tmps) = true then Oper.wp P o'' a w K' Q else K' (a.put o''.dst undef) w) : wpAnyL P md ops Q S n (fuel + 1) listed a w := by
  refine ⟨fun h0 => (by rw [hr] at h0; cases h0), fun k hk => ?_⟩
  rw [hr] at hk
  rcases List.mem_cons.1 hk with rfl | hk
  · exact wpOp_step ho (fun K' hK => h K' (fun a w hS hW => hK a w ⟨fun _ => hS, hW hS⟩))
  rcases List.mem_cons.1 hk with rfl | hk
  · exact wpOp_step ho' (fun K' hK => h' K' (fun a w hS hW => hK a w ⟨fun _ => hS, hW hS⟩))
  · rw [List.mem_singleton] at hk
    subst hk
    exact wpOp_step ho'' (fun K' hK => h'' K' (fun a w hS hW => hK a w ⟨fun _ => hS, hW hS⟩))
end
def ld27q (x : Value) : Sem Value := Instr.loadAt 27 x
def st112 (x y : Value) : Sem Unit := Instr.storeAt 112 x y
theorem st112_is (x y : Value) : Instr.storeAt 112 x y = st112 x y := rfl
theorem sz112 : (Tryz.prog.info? 112).map (·.size) = some 12 := by kernel_rfl
abbrev z112 : List Value := [.slice none 0 0, .int .i64 0, .slice none 0 0, .slice none 0 0, .slice none 0 0, .int .i64 0, .slice none 0 0, .slice none 0 0, .slice none 0 0, .slice none 0 0, .slice none 0 0, .map none]
def zC : Value := .agg #[.int .i64 0, .int .i64 0, .string ⟨#[]⟩]
theorem info45 : (Tryz.prog.info? 45).map (fun i => (i.zero, i.size, i.bytes)) = some (some zC, 3, 32) := by kernel_rfl
theorem new_vbk (w : World) (n : Nat) : VBk (w.alloc (.cells (madeCells zC.cells (n * 3)) 45)) w.heap.size (List.replicate n .no) := by
  refine ⟨⟨by simp, fun i hi => ?_⟩, madeCells zC.cells (n * 3), heap_new _ _, by rw [size_madeCells, List.length_replicate]⟩
  rw [List.length_replicate] at hi
  rw [List.getElem_replicate]
  exact made_range w zC.cells n i 45 (by decide) hi
def tail3 (g nN b : Nat) : List Value := [.slice (some ⟨g, 0, none⟩) nN nN, .slice none 0 0, .map (some b)]
/-- a scan that begins: its variable, values and map have been made, in whatever order -/
theorem Sc.begin {B : Nat} {X : World} {d g b nN nS : Nat} {fx : List Value} (hfx : fx.length = 9) (hone : ∀ u ∈ fx, u.oneCell' = true) (hd : Bk X d 112 z112) (hg : VBk X g (List.replicate nN .no)) (hb : MI yK X b 0 (fun _ => none)) (lo : B ≤ d ∧ B ≤ g ∧ B ≤ b) (hdg : d ≠ g) (hdb : d ≠ b) :
    ∃ Y, (st112 (.pointer (some ⟨d, 0, none⟩)) (.agg (fx ++ tail3 g nN b).toArray)).run Tryz.prog X = .ok () Y ∧ Sc B Y d g b fx nN nN nS (List.replicate nN .no) (.slice none 0 0) [] ∧ Fr X Y (fun i => i = d) := by
  have h' : Bk X d 112 ([] ++ z112 ++ []) := by rw [List.nil_append, List.append_nil]; exact hd
  have hl : (fx ++ tail3 g nN b).length = 12 := by rw [List.length_append, hfx]; rfl
  obtain ⟨Y, y1, y2, y3⟩ := h'.store 112 (fx ++ tail3 g nN b).toArray (by simp [hfx, tail3]) (by rw [sz112]; simp [hfx, tail3]) (by
    rw [Array.all_eq_true_iff_forall_mem]
    intro u hu
    simp only [List.mem_toArray, List.mem_append] at hu
    rcases hu with h | h
    · exact hone u h
    · simp [tail3] at h; rcases h with rfl | rfl | rfl <;> rfl)
  refine ⟨Y, y1, ?_, y3⟩
  exact {
    fl := hfx
    blk := by simpa [tail3] using y2
    vals := hg.same y3.size (y3.block _ hg.v.lt (fun e => hdg e.symm))
    vn := List.length_replicate
    row := ⟨by simp [Kd.flat], .inl ⟨rfl, rfl⟩⟩
    mp := by
      have := hb.same (y3.block _ hb.lt (fun e => hdb e.symm))
      exact this
    tal := fun x hx => by cases hx
    tn := fun x hx => by cases hx
    nd := List.nodup_nil
    kn := List.nodup_nil
    ok := fun x hx => by cases hx
    lo := ⟨lo.1, lo.2.1, lo.2.2, fun x hx => by cases hx⟩ }
end Go.Proofs.YtbenciieenbmeaaGreatDoor
