import Derived.Test.YtcafhmlpmbkhkaaGreatDoorV06
/- SheetTables (4): a cell written over. -/
namespace Go.Proofs.YtcafhmlpmbkhkaaGreatDoor
open Go Go.Shelf Go.ChangeShapes Go.WideShapes Go.ChangeAt Go.RowKit Go.Maps
set_option linter.unusedVariables false
set_option linter.unusedSimpArgs false
def zzC (y : Ce) : Ce := ⟨y.ty, 0, ⟨#[122]⟩⟩
def zz0 : List Ce → List Ce
  | [] => []
  | y :: ys => zzC y :: ys
theorem zz0_len (l : List Ce) : (zz0 l).length = l.length := by cases l <;> rfl
def upR (r : Rw) : Rw := ⟨r.p, r.n, r.c, zz0 r.x⟩
def upC (X : List Rw) (q : Nat) : List Rw := (X[q]?).elim X fun r => X.set q (upR r)
theorem upC_len (X : List Rw) (q : Nat) : (upC X q).length = X.length := by
  unfold upC
  cases X[q]? <;> simp
theorem upC_get {X : List Rw} {q i : Nat} {r : Rw} (h : (upC X q)[i]? = some r) : ∃ r0, X[i]? = some r0 ∧ ((i = q ∧ r = upR r0) ∨ (i ≠ q ∧ r = r0)) := by
  unfold upC at h
  cases hq : X[q]? with
  | none =>
    rw [hq] at h
    refine ⟨r, h, .inr ⟨fun e => ?_, rfl⟩⟩
    subst e
    have : X[i]? = some r := h
    rw [hq] at this
    cases this
  | some r1 =>
    rw [hq] at h
    have h' : (X.set q (upR r1))[i]? = some r := h
    rw [List.getElem?_set] at h'
    by_cases e : q = i
    · subst e
      have hl : q < X.length := (List.getElem?_eq_some_iff.1 hq).1
      rw [if_pos rfl, if_pos hl] at h'
      exact ⟨r1, hq, .inl ⟨rfl, (Option.some.inj h').symm⟩⟩
    · rw [if_neg e] at h'
      exact ⟨r, h', .inr ⟨fun h => e h.symm, rfl⟩⟩
theorem upC_ok {X : List Rw} (h : ∀ r ∈ X, ∀ x ∈ r.x, CeOk x) (q : Nat) : ∀ r ∈ upC X q, ∀ x ∈ r.x, CeOk x := fun r hr x hx => by
  obtain ⟨i, hi⟩ := List.mem_iff_getElem?.1 hr
  obtain ⟨r0, h0, ⟨_, rfl⟩ | ⟨_, rfl⟩⟩ := upC_get hi
  · have hm := List.mem_of_getElem? h0
    have hx' : x ∈ zz0 r0.x := hx
    cases hl : r0.x with
    | nil => rw [hl] at hx'; simp [zz0] at hx'
    | cons y ys =>
      rw [hl] at hx'
      rcases List.mem_cons.1 hx' with rfl | hx'
      · have hy := h r0 hm y (by rw [hl]; simp)
        refine ⟨?_, hy.ty, ?_⟩
        · show (⟨#[122]⟩ : ByteArray).size ≤ 1048576
          decide
        · show (-9223372036854775808 : Int) ≤ 0 ∧ (0 : Int) ≤ 9223372036854775807
          decide
      · exact h r0 hm x (by rw [hl]; simp [hx'])
  · exact h r (List.mem_of_getElem? h0) x hx
theorem upC_lens (X : List Rw) (q : Nat) : (upC X q).map (fun r => r.x.length) = X.map (fun r => r.x.length) := by
  apply List.ext_getElem?
  intro i
  rw [List.getElem?_map, List.getElem?_map]
  cases h : (upC X q)[i]? with
  | none =>
    have : X[i]? = none := by rw [List.getElem?_eq_none_iff] at h ⊢; rw [upC_len] at h; exact h
    rw [this]
  | some r =>
    obtain ⟨r0, h0, ⟨_, rfl⟩ | ⟨_, rfl⟩⟩ := upC_get h
    · rw [h0]
      show some (zz0 r0.x).length = some r0.x.length
      rw [zz0_len]
    · rw [h0]
theorem sum_lens {X Y : List Rw} (h : Y.map (fun r => r.x.length) = X.map (fun r => r.x.length)) : (Y.map fun r => r.x.length + 1).sum = (X.map fun r => r.x.length + 1).sum := by
  have e : ∀ Z : List Rw, (Z.map fun r => r.x.length + 1) = (Z.map (fun r => r.x.length)).map (· + 1) := fun Z => by rw [List.map_map]; rfl
  rw [e, e, h]
theorem lens_x {X Y : List Rw} (h : Y.map (·.x) = X.map (·.x)) : Y.map (fun r => r.x.length) = X.map (fun r => r.x.length) := by
  have e : ∀ Z : List Rw, (Z.map (fun r => r.x.length)) = (Z.map (·.x)).map List.length := fun Z => by rw [List.map_map]; rfl
  rw [e, e, h]
theorem upC_same {X : List Rw} {q : Nat} (h : ∀ r, X[q]? = some r → r.x = []) : upC X q = X := by
  apply List.ext_getElem?
  intro i
  cases hi : (upC X q)[i]? with
  | none =>
    have : X[i]? = none := by rw [List.getElem?_eq_none_iff] at hi ⊢; rw [upC_len] at hi; exact hi
    rw [this]
  | some r =>
    obtain ⟨r0, h0, ⟨e, rfl⟩ | ⟨_, rfl⟩⟩ := upC_get hi
    · subst e
      rw [h0]
      have := h r0 h0
      obtain ⟨p, n, c, x⟩ := r0
      dsimp only at this
      subst this
      rfl
    · exact h0.symm
/-- the answer hangs on the rows' cells alone -/
theorem ansB_same {X Y : List Rw} (h : Y.map (·.x) = X.map (·.x)) (dg : Int) (T : List Int) : ansB dg T Y = ansB dg T X := by
  have e1 : ∀ Z : List Rw, fstG (fun r : Rw => faultR T r.x) Z = fstG (faultR T) (Z.map (·.x)) := fun Z => by
    induction Z with
    | nil => rfl
    | cons z Z ih =>
      rw [List.map_cons, fstG, fstG, ih]
  have e2 : ∀ Z : List Rw, rowsB dg.toNat Z = (Z.map (·.x)).map fun l => l.map (cTx dg.toNat) := fun Z => by
    unfold rowsB
    rw [List.map_map]
    rfl
  have e3 : errB dg T Y = errB dg T X := by
    unfold errB
    rw [e1, e1, h]
  unfold ansB
  rw [e3, e2, e2, h]
theorem kW_flat (L : List Rw) : kW.flat L = L.map fun r => Value.slice r.p r.n r.c := by
  induction L with
  | nil => rfl
  | cons a L ih => rw [List.map_cons, ← ih]; rfl
theorem cells_hd {G : List (Nat × Nat)} {X Y : List Rw} (h : Y.map (fun r => r.x.length) = X.map (fun r => r.x.length)) : kW.flat (cellsL G Y) = kW.flat (cellsL G X) := by
  rw [kW_flat, kW_flat]
  apply List.ext_getElem?
  intro i
  have hi := congrArg (·[i]?) h
  simp only [List.getElem?_map] at hi
  rw [List.getElem?_map, List.getElem?_map]
  unfold cellsL
  rw [List.getElem?_zipWith, List.getElem?_zipWith]
  cases hg : G[i]? with
  | none => rfl
  | some gc =>
    cases hy : Y[i]? with
    | none =>
      rw [hy] at hi
      cases hx : X[i]? with
      | none => rfl
      | some x => rw [hx] at hi; cases hi
    | some y =>
      rw [hy] at hi
      cases hx : X[i]? with
      | none => rw [hx] at hi; cases hi
      | some x =>
        rw [hx] at hi
        have e : y.x.length = x.x.length := Option.some.inj hi
        show some (Value.slice (some ⟨gc.1, 0, none⟩) (y.x.length + 64) gc.2) = some (Value.slice (some ⟨gc.1, 0, none⟩) (x.x.length + 64) gc.2)
        rw [e]
theorem rows_hd {G : List (Nat × Nat)} {X Y : List Rw} (h : Y.map (fun r => r.x.length) = X.map (fun r => r.x.length)) : kW.flat (rowsL G Y) = kW.flat (rowsL G X) := by
  rw [kW_flat, kW_flat]
  apply List.ext_getElem?
  intro i
  have hi := congrArg (·[i]?) h
  simp only [List.getElem?_map] at hi
  rw [List.getElem?_map, List.getElem?_map]
  unfold rowsL
  rw [List.getElem?_zipWith, List.getElem?_zipWith]
  cases hg : G[i]? with
  | none => rfl
  | some gc =>
    cases hy : Y[i]? with
    | none =>
      rw [hy] at hi
      cases hx : X[i]? with
      | none => rfl
      | some x => rw [hx] at hi; cases hi
    | some y =>
      rw [hy] at hi
      cases hx : X[i]? with
      | none => rw [hx] at hi; cases hi
      | some x =>
        rw [hx] at hi
        have e : y.x.length = x.x.length := Option.some.inj hi
        show some (Value.slice (some ⟨gc.1, 0, none⟩) y.x.length gc.2) = some (Value.slice (some ⟨gc.1, 0, none⟩) x.x.length gc.2)
        rw [e]
theorem kW_app (A B : List Rw) : kW.flat (A ++ B) = kW.flat A ++ kW.flat B := by rw [kW_flat, kW_flat, kW_flat, List.map_append]
/-- a cell of the row q written over -/
theorem LoOk.up {B : Nat} {W : World} {T : List Int} {nt : Nat} {X : List Rw} {nr gt ct go co : Nat} {pl : Option Addr} {cl : Nat} {G : List (Nat × Nat)} {MR : List Rw} (h : LoOk B W T nt X nr gt ct go co pl cl G MR)
    {q : Nat} {gc : Nat × Nat} {r : Rw} {y : Ce} {ys : List Ce} (hg : G[q]? = some gc) (hr : X[q]? = some r) (hx : r.x = y :: ys) :
    LoOk B ((W.setCell ⟨gc.1, 1, none⟩ (.int .i64 0)).setCell ⟨gc.1, 2, none⟩ (.string ⟨#[122]⟩)) T nt (upC X q) nr gt ct go co pl cl G MR := by
  obtain ⟨W', hW'⟩ : ∃ V, V = (W.setCell ⟨gc.1, 1, none⟩ (.int .i64 0)).setCell ⟨gc.1, 2, none⟩ (.string ⟨#[122]⟩) := ⟨_, rfl⟩
  rw [← hW']
  have hoq := h.cp.own q gc r hg hr
  obtain ⟨yq, hyq⟩ := own_obj hoq (g := gc.1) rfl
  have hset : ∀ k, k ≠ gc.1 → W'.heap[k]? = W.heap[k]? := fun k hk => by
    rw [hW']
    exact (Below.heap_setCell _ _ _ _ hk).trans (Below.heap_setCell _ _ _ _ hk)
  have hty : ∀ (k : Nat) (zs : Array Value) (t : TypeId) (f : Nat × Nat), W.heap[k]? = some (Obj.cells zs t f) → t ≠ 43 → W'.heap[k]? = W.heap[k]? := fun k zs t f hk ht => hset k (fun e => by
    subst e
    rw [hyq] at hk
    injection hk with hk
    injection hk with _ h5 _
    exact ht h5.symm)
  have hkeep : ∀ {e s n : Nat} {v : Value} {xs : List Value}, W.ownsRow B e s v n xs → e ≠ 43 → W'.ownsRow B e s v n xs := fun ho he => row_keep ho fun g hg => by
    obtain ⟨zs, hz⟩ := own_obj ho hg
    exact hty g zs _ _ hz he
  refine ⟨hkeep h.ot (by decide), ⟨by rw [upC_len]; exact h.cp.len, fun i a s ha hs => ?_, h.cp.ne⟩, by rw [cells_hd (upC_lens X q)]; exact hkeep h.oc (by decide), by rw [kW_app, rows_hd (upC_lens X q), ← kW_app]; exact hkeep h.oo (by decide), h.ml, fun j m hm => ?_⟩
  · obtain ⟨r0, h0, ⟨e, rfl⟩ | ⟨e, rfl⟩⟩ := upC_get hs
    · subst e
      rw [hg] at ha
      cases ha
      rw [hr] at h0
      cases h0
      have e1 : (upR r).x = zzC y :: ys := by show zz0 r.x = _; rw [hx]; rfl
      rw [e1]
      rw [hx] at hoq
      have h1 := (hoq.stored 1 (.int .i64 0)).1
      have h2 := (h1.stored 2 (.string ⟨#[122]⟩)).1
      rw [← hW'] at h2
      exact h2
    · refine row_keep (h.cp.own i a s ha h0) fun g hgb => hset g (fun e2 => ?_)
      have e3 : a.1 = g := Option.some.inj hgb
      exact h.cp.ne i q a gc ha hg e (e3.trans e2)
  · obtain ⟨h1, h2, h3, g, h4, h5⟩ := h.mks j m hm
    refine ⟨h1, h2, h3, g, h4, (hset g (fun e => ?_)).trans h5⟩
    subst e
    have hc := hoq.cellAt 3 (by omega)
    have hl : (r.x ++ Kg.mklC 700000 64).length = r.x.length + 64 := by rw [List.length_append, Kg.mklC_len]
    have hfl : 3 < (kC.flat (r.x ++ Kg.mklC 700000 64)).length := by rw [hoq.1]; omega
    unfold Kg.mkO at h5
    rw [cell_at h5, List.getElem?_eq_getElem hfl] at hc
    simp at hc
end Go.Proofs.YtcafhmlpmbkhkaaGreatDoor
/- SheetTables (4): the law's walk. -/
namespace Go.Proofs.YtcafhmlpmbkhkaaGreatDoor
open Go Go.Shelf Go.ChangeShapes Go.WideShapes Go.ChangeAt Go.RowKit Go.Maps
set_option linter.unusedVariables false
set_option linter.unusedSimpArgs false
theorem ok_map {X Y : List Rw} (h : Y.map (·.x) = X.map (·.x)) {P : List Ce → Prop} (hX : ∀ r ∈ X, P r.x) : ∀ r ∈ Y, P r.x := fun r hr => by
  obtain ⟨i, hi⟩ := List.mem_iff_getElem?.1 hr
  obtain ⟨x, hx⟩ : ∃ x, X[i]? = some x := ⟨X[i]'(by have := (List.getElem?_eq_some_iff.1 hi).1; rw [map_len h] at this; exact this), List.getElem?_eq_getElem _⟩
  rw [map_x h hi hx]
  exact hX x (List.mem_of_getElem? hx)
theorem nx_of {W : World} {X : List Rw} (h : RwAt W X) (hs : (X.map fun r => r.x.length + 1).sum ≤ 1048576) : ∀ r ∈ X, r.n ≤ 1048576 := fun r hr => by
  rw [← (h r hr).1]
  have := mem_sum (fun r : Rw => r.x.length + 1) hr
  omega
/-- what comes behind the copy -/
theorem tail_any {W : World} (hP : Kg.Pw W) (hM : Dy.Mon W) {T : List Int} {nt : Nat} (hT : T.length = nt) {X : List Rw} {nr : Nat} (hX : X.length = nr) (hok : ∀ r ∈ X, ∀ x ∈ r.x, CeOk x) (hnt : nt ≤ 1048576) (hnr : nr ≤ 1048576) (hsum : (X.map fun r => r.x.length + 1).sum ≤ 1048576) (dg : Int) (hdg : fits64 dg)
    {B gt ct2 go co : Nat} {pl : Option Addr} {cl : Nat} {G : List (Nat × Nat)} {MR : List Rw} (h : LoOk B W T nt X nr gt ct2 go co pl cl G MR) :
    Calls Tryz.prog 19 #[.agg #[.slice (some ⟨gt, 0, none⟩) nt ct2, .slice (some ⟨go, 0, none⟩) nr co]] W fun e W7 => ∃ p7 c7 p8 c8, e = .returned (.agg #[.slice p7 nt c7, .slice p8 nr c8]) ∧ Below W.heap.size W W7 ∧ ∀ W8, Below W7.heap.size W7 W8 →
      Calls Tryz.prog 16 #[.agg #[.slice (some ⟨gt, 0, none⟩) nt ct2, .slice (some ⟨go, 0, none⟩) nr co], .int .i64 dg] W8 fun e W9 => e = .returned (.tuple #[.string (txB (ansB dg T X).1), .int .i64 (ansB dg T X).2]) ∧ Below W8.heap.size W8 W9 ∧
        Calls Tryz.prog 17 #[.agg #[.slice p7 nt c7, .slice p8 nr c8], .int .i64 dg] W9 fun e W10 => e = .returned (.tuple #[.string (txB (ansB dg T X).1), .int .i64 (ansB dg T X).2]) ∧ Below W9.heap.size W9 W10 ∧
          Calls Tryz.prog 18 #[.agg #[.slice p7 nt c7, .slice p8 nr c8], .slice (some ⟨gt, 0, none⟩) (nt + 64) ct2, .slice pl nr cl, .slice (some ⟨go, 0, none⟩) (nr + 64) co] W10 fun e W11 => e = .returned (.bool true) ∧ Below W10.heap.size W10 W11 := by
  have hGl : G.length = X.length := h.cp.len
  have hlt : Lies kI W (some ⟨gt, 0, none⟩) T := (own_lies kI_ok (by rw [List.length_append, Kg.mklI_len, hT]) h.ot).take
  have hlr : Lies kW W (some ⟨go, 0, none⟩) (rowsL G X) := (own_lies kW_ok (by rw [List.length_append, rows_len hGl, hX, h.ml]) h.oo).take
  have hrr : RwAt W (rowsL G X) := h.cp.rows
  have hrx := rows_x hGl
  have hrl : (rowsL G X).length = nr := by rw [rows_len hGl, hX]
  have hrs : ((rowsL G X).map fun r => r.x.length + 1).sum ≤ 1048576 := by rw [sum_lens (lens_x hrx)]; exact hsum
  have hrok : ∀ r ∈ rowsL G X, ∀ x ∈ r.x, CeOk x := ok_map (P := fun l => ∀ x ∈ l, CeOk x) hrx hok
  refine (copied_any (w := W) (ct := ct2) (cr := co) hT (fun e => by cases e) hlt hrl hlr hrr (fun r hr e => ?_) hnt hnr (nx_of hrr hrs)).mono ?_
  · obtain ⟨i, hi⟩ := List.mem_iff_getElem?.1 hr
    obtain ⟨gc, r0, h1, h2, rfl⟩ := rows_get hi
    cases e
  rintro e W7 ⟨p7, c7, p8, c8, Y, rfl, hl7, hl8, hr8, hyx, hb7⟩
  refine ⟨p7, c7, p8, c8, rfl, hb7, fun W8 hb8 => ?_⟩
  have hyX : Y.map (·.x) = X.map (·.x) := hyx.trans hrx
  have hb08 : Below W.heap.size W W8 := hb7.trans (hb8.mono hb7.size)
  have e1 := ansB_same hrx dg T
  have e2 := ansB_same hyX dg T
  have hyl : Y.length = nr := by rw [map_len hyX, hX]
  have hys : (Y.map fun r => r.x.length + 1).sum ≤ 1048576 := by rw [sum_lens (lens_x hyX)]; exact hsum
  have hyok : ∀ r ∈ Y, ∀ x ∈ r.x, CeOk x := ok_map (P := fun l => ∀ x ∈ l, CeOk x) hyX hok
  refine (table_any (w := W8) (ct := ct2) (cr := co) (hP.below hb08) (hM.below hb08) hT (hlt.below hb08) hrl (hlr.below hb08) (hrr.below hb08) hrok hnt hnr (nx_of hrr hrs) hrs dg hdg).mono ?_
  rintro e W9 ⟨rfl, hb9⟩
  rw [e1]
  refine ⟨rfl, hb9, ?_⟩
  have hb79 : Below W7.heap.size W7 W9 := hb8.trans (hb9.mono hb8.size)
  refine (rtable_any (w := W9) (ct := c7) (cr := c8) hT (hl7.below hb79) hyl (hl8.below hb79) (hr8.below hb79) hyok hnt hnr hys dg).mono ?_
  rintro e W10 ⟨rfl, hb10⟩
  rw [e2]
  refine ⟨rfl, hb10, ?_⟩
  have hb710 : Below W7.heap.size W7 W10 := hb79.trans (hb10.mono hb79.size)
  have hb010 : Below W.heap.size W W10 := hb7.trans (hb710.mono hb7.size)
  exact kept_any (w := W10) (ct := c7) (cr := c8) (hP.below hb010) hT (hl7.below hb710) hyl (hl8.below hb710) (hr8.below hb710) hnt hnr (nx_of hr8 hys) (Y := X) hyX.symm (h.below hb010)
attribute [local go_sem ↓] ldT_is
set_option maxRecDepth 100000 in
set_option maxHeartbeats 16000000 in
theorem tables_walk {w' : World} (hP' : Kg.Pw w') (hM' : Dy.Mon w') {pt : Option Addr} {nt ct : Nat} {T : List Int} (hT : T.length = nt) (hct : pt = none → ct = 0) (hLT' : Lies kI w' pt T) {pr : Option Addr} {nr cr : Nat} {X : List Rw} (hX : X.length = nr) (hLX' : Lies kW w' pr X) (hR' : RwAt w' X)
    (hok : ∀ r ∈ X, ∀ x ∈ r.x, CeOk x) (hpc : ∀ r ∈ X, r.p = none → r.c = 0) (hnt : nt ≤ 1048576) (hnr : nr ≤ 1048576) (hsum : (X.map fun r => r.x.length + 1).sum ≤ 1048576) (dg : Int) (hdg : fits64 dg) :
    Calls Tryz.prog 4 #[.agg #[.slice pt nt ct, .slice pr nr cr], .int .i64 dg] w' fun e W' => e = .returned (.bool true) ∧ Below w'.heap.size w' W' := by
  obtain ⟨w, hw⟩ : ∃ W, W = w'.alloc (tbO pt nt ct pr nr cr) := ⟨_, rfl⟩
  have bw : Below w'.heap.size w' w := by rw [hw]; exact bal (Below.refl _ _) _
  have hhw : w.heap[w'.heap.size]? = some (tbO pt nt ct pr nr cr) := by rw [hw]; exact heap_new _ _
  have HLT2 : Hid (∀ W, Below w.heap.size w W → (ldT (.pointer (some ⟨w'.heap.size, 0, none⟩))).run Tryz.prog W = .ok (tbV pt nt ct pr nr cr) W) := fun W hb => run_ldT ((hb.block _ (Array.getElem?_eq_some_iff.1 hhw).1).trans hhw)
  have hP := hP'.below bw
  have hM := hM'.below bw
  have hLT := hLT'.below bw
  have hLX := hLX'.below bw
  have hR := hR'.below bw
  have hnx : ∀ r ∈ X, r.n ≤ 1048576 := fun r hr => by
    rw [← (hR r hr).1]
    have := mem_sum (fun r : Rw => r.x.length + 1) hr
    omega
  have HBW0 := hide bw
  have hw0 : w'.alloc (.cells #[.slice pt nt ct, .slice pr nr cr] 36) = w := by rw [hw]; rfl
  have D0 := hide (loosened_any (cr := cr) hP hT hct hLT hX hLX hR hpc hnt hnr hnx)
  have HP := hide hP; have HX := hide hX; have HLX := hide hLX; have HOK := hide hok; have HMO := hide hM; have HT := hide hT; have HLT := hide hLT; have HR := hide hR; have HNX := hide hnx; have HSUM := hide hsum
  have l0 := unhide HLT2 w (Below.refl _ _)
  clear hP hX hLX hok hM hP' hM' hLX' hLT hLT' hR hR' bw hhw hw hT hct hpc hnx hsum
  unfold tbV at l0
  go_enter Tryz.func4, Tryz.ntmps4
  go_wp2_with fail
  refine (unhide D0).mono ?_
  rintro e w1 ⟨gt, ct2, go, co, pl, cl, G, MR, rfl, hlo, hb1⟩
  unfold tbV
  have HLO := hide hlo
  have HB1 := hide hb1
  obtain ⟨w2, hw2⟩ : ∃ W, W = w1.alloc (tbO (some ⟨gt, 0, none⟩) nt ct2 (some ⟨go, 0, none⟩) nr co) := ⟨_, rfl⟩
  have b12 : Below w1.heap.size w1 w2 := by rw [hw2]; exact bal (Below.refl _ _) _
  have hh2 : w2.heap[w1.heap.size]? = some (tbO (some ⟨gt, 0, none⟩) nt ct2 (some ⟨go, 0, none⟩) nr co) := by rw [hw2]; exact heap_new _ _
  have hw2' : w1.alloc (.cells #[.slice (some ⟨gt, 0, none⟩) nt ct2, .slice (some ⟨go, 0, none⟩) nr co] 36) = w2 := by rw [hw2]; rfl
  obtain ⟨ib, hib⟩ : ∃ b, b = w1.heap.size := ⟨_, rfl⟩
  rw [← hib] at hh2
  have HIB : Hid (ib < w2.heap.size ∧ w.heap.size ≤ ib) := by
    refine ⟨(Array.getElem?_eq_some_iff.1 hh2).1, ?_⟩
    rw [hib]
    exact hb1.size
  have HIN : Hid (∀ W, Below w2.heap.size w2 W → W.heap[ib]? = some (tbO (some ⟨gt, 0, none⟩) nt ct2 (some ⟨go, 0, none⟩) nr co)) := fun W hb => (hb.block _ (unhide HIB).1).trans hh2
  have HLD : Hid (∀ W : World, W.heap[ib]? = some (tbO (some ⟨gt, 0, none⟩) nt ct2 (some ⟨go, 0, none⟩) nr co) → (ldT (.pointer (some ⟨ib, 0, none⟩))).run Tryz.prog W = .ok (.agg #[.slice (some ⟨gt, 0, none⟩) nt ct2, .slice (some ⟨go, 0, none⟩) nr co]) W) := fun W hh => run_ldT hh
  have hb02 : Below w.heap.size w w2 := hb1.trans (b12.mono hb1.size)
  have hlo2 := hlo.below b12
  have hGl : G.length = X.length := hlo2.cp.len
  have hlt : Lies kI w2 (some ⟨gt, 0, none⟩) T := (own_lies kI_ok (by rw [List.length_append, Kg.mklI_len, unhide HT]) hlo2.ot).take
  have hlr : Lies kW w2 (some ⟨go, 0, none⟩) (rowsL G X) := (own_lies kW_ok (by rw [List.length_append, rows_len hGl, unhide HX, hlo2.ml]) hlo2.oo).take
  have hrr : RwAt w2 (rowsL G X) := hlo2.cp.rows
  have hrx := rows_x hGl
  have hrs : ((rowsL G X).map fun r => r.x.length + 1).sum ≤ 1048576 := by rw [sum_lens (lens_x hrx)]; exact unhide HSUM
  have D1 := table_any (w := w2) (ct := ct2) (cr := co) ((unhide HP).below hb02) ((unhide HMO).below hb02) (unhide HT) hlt (by rw [rows_len hGl, unhide HX]) hlr hrr (ok_map (P := fun l => ∀ x ∈ l, CeOk x) hrx (unhide HOK)) hnt hnr (nx_of hrr hrs) hrs dg hdg
  rw [ansB_same hrx dg T] at D1
  obtain ⟨T1, hT1⟩ : ∃ S, S = txB (ansB dg T X).1 := ⟨_, rfl⟩
  obtain ⟨E1, hE1⟩ : ∃ E, E = (ansB dg T X).2 := ⟨_, rfl⟩
  have D2 : Hid (∀ W, Below w.heap.size w W → Calls Tryz.prog 17 #[.agg #[.slice pt nt ct, .slice pr nr cr], .int .i64 dg] W fun e w' => e = .returned (.tuple #[.string T1, .int .i64 E1]) ∧ Below W.heap.size W w') := fun W hb => by
    have h := rtable_any (w := W) (ct := ct) (cr := cr) (unhide HT) ((unhide HLT).below hb) (unhide HX) ((unhide HLX).below hb) ((unhide HR).below hb) (unhide HOK) hnt hnr (unhide HSUM) dg
    unfold TriOut at h
    rw [← hT1, ← hE1] at h
    exact h
  unfold TriOut at D1
  rw [← hT1, ← hE1] at D1
  have D1 := hide D1
  have D3 : Hid (∀ W, Below w2.heap.size w2 W → Calls Tryz.prog 18 #[.agg #[.slice pt nt ct, .slice pr nr cr], .slice (some ⟨gt, 0, none⟩) (nt + 64) ct2, .slice pl nr cl, .slice (some ⟨go, 0, none⟩) (nr + 64) co] W fun e w' => e = .returned (.bool true) ∧ Below W.heap.size W w') := fun W hb => by
    have hbw := hb02.trans (hb.mono hb02.size)
    exact kept_any (w := W) (ct := ct) (cr := cr) ((unhide HP).below hbw) (unhide HT) ((unhide HLT).below hbw) (unhide HX) ((unhide HLX).below hbw) ((unhide HR).below hbw) hnt hnr (unhide HNX) (Y := X) rfl (hlo2.below hb)
  have DF : Hid (∀ W, Below w.heap.size w W → Calls Tryz.prog 14 #[] W fun e w' => e = .returned (.bool true) ∧ Below W.heap.size W w') := fun W hb => first_any W ((unhide HP).below hb)
  have HLO2 := hide hlo2
  have HB2 := hide hb02
  have l2 := unhide HLD w2 hh2
  have HIBE := hide hib
  rw [hib] at l2
  clear D0 l0 hw0 hlo hb1 hw2 b12 hb02 hlo2 hGl hlt hlr hrr hrx hrs hT1 hE1 hib
  go_wp2_with fail
  refine (unhide D1).mono ?_
  rintro e w3 ⟨rfl, hb3⟩
  have hb03 : Below w.heap.size w w3 := (unhide HB2).trans (hb3.mono (unhide HB2).size)
  have l3 := unhide HLT2 w3 hb03
  have d2 := hide (unhide D2 w3 hb03)
  have HB3 := hide hb3
  unfold tbV at l3
  rw [← unhide HIBE]
  clear hb3 hb03 D1 l2 hw2'
  go_wp2_with fail
  refine (unhide d2).mono ?_
  rintro e w4 ⟨rfl, hb4⟩
  have hb24 : Below w2.heap.size w2 w4 := (unhide HB3).trans (hb4.mono (unhide HB3).size)
  have hb04 : Below w.heap.size w w4 := (unhide HB2).trans (hb24.mono (unhide HB2).size)
  have l4 := unhide HLT2 w4 hb04
  unfold tbV at l4
  have d3 := hide (unhide D3 w4 hb24)
  have HB4 := hide hb24
  clear hb4 hb24 hb04 d2 l3
  go_wp2_with (go_at_call 12; refine (like_yes _ _ _).mono ?_; rintro e wz ⟨rfl, hwz⟩; rw [hwz]; clear hwz wz)
  refine (unhide d3).mono ?_
  rintro e w5 ⟨rfl, hb5⟩
  have hb25 : Below w2.heap.size w2 w5 := (unhide HB4).trans (hb5.mono (unhide HB4).size)
  have hb05 : Below w.heap.size w w5 := (unhide HB2).trans (hb25.mono (unhide HB2).size)
  have d4 := hide (unhide DF w5 hb05)
  have HB5 := hide hb25
  clear hb5 hb25 hb05 d3 l4
  go_wp2_with fail
  refine (unhide d4).mono ?_
  rintro e w6 ⟨rfl, hb6⟩
  have hb26 : Below w2.heap.size w2 w6 := (unhide HB5).trans (hb6.mono (unhide HB5).size)
  have hb06 : Below w.heap.size w w6 := (unhide HB2).trans (hb26.mono (unhide HB2).size)
  have hI6 := unhide HIN w6 hb26
  have c6 := (tb_cells hI6).2
  have hlo6 := (unhide HLO2).below hb26
  have hGl : G.length = X.length := hlo6.cp.len
  have HGL := hide hGl
  have HL6 := hide hlo6; have HB06 := hide hb06; have HI6 := hide hI6
  have HHR : Hid (∀ (k : Nat) gc r, G[k]? = some gc → X[k]? = some r → w6.cell? ⟨go, k, none⟩ = some (.slice (some ⟨gc.1, 0, none⟩) r.x.length gc.2)) := fun k gc r hg hr => by
    have hlr : Lies kW w6 (some ⟨go, 0, none⟩) (rowsL G X) := (own_lies kW_ok (by rw [List.length_append, rows_len hGl, unhide HX, hlo6.ml]) hlo6.oo).take
    have hq : (rowsL G X)[k]? = some (cpr gc r) := by
      unfold rowsL
      rw [List.getElem?_zipWith_eq_some]
      exact ⟨gc, r, hg, hr, rfl⟩
    obtain ⟨b, o, e, h⟩ := Kg.ldBR hlr hq
    injection e with e
    injection e with e1 e2 _
    subst e1 e2
    have h2 := h w6 (Below.refl _ _)
    rw [Nat.zero_add] at h2
    exact h2
  clear hb6 hb26 d4 DF D2 D3 hGl hlo6 hb06 hI6
  by_cases hn0 : nr = 0
  · have hnI : ¬ (0 : Int) < (nr : Int) := by omega
    have hn1 : ¬ 0 < nr := by omega
    have hd1 : decide (0 < nr) = false := decide_eq_false hn1
    clear HHR hn0
    go_upto_region 9 with fail
    clear hnI hn1 hd1 c6
    have d10 := tail_any ((unhide HP).below (unhide HB06)) ((unhide HMO).below (unhide HB06)) (unhide HT) (unhide HX) (unhide HOK) hnt hnr (unhide HSUM) dg hdg (unhide HL6)
    obtain ⟨T2, hT2⟩ : ∃ S, S = txB (ansB dg T X).1 := ⟨_, rfl⟩
    obtain ⟨E2, hE2⟩ : ∃ E, E = (ansB dg T X).2 := ⟨_, rfl⟩
    rw [← hT2, ← hE2] at d10
    have D10 := hide d10
    have lI := unhide HLD w6 (unhide HI6)
    have HBT := hide (unhide HB06)
    have HIT := hide (unhide HI6)
    clear d10 hT2 hE2
    go_wp2_with fail
    refine (unhide D10).mono ?_
    rintro e w7 ⟨p7, c7, p8, c8, rfl, hb7, d11⟩
    obtain ⟨w8, hw8⟩ : ∃ V, V = w7.alloc (tbO p7 nt c7 p8 nr c8) := ⟨_, rfl⟩
    have b78 : Below w7.heap.size w7 w8 := by rw [hw8]; exact bal (Below.refl _ _) _
    have hh8 : w8.heap[w7.heap.size]? = some (tbO p7 nt c7 p8 nr c8) := by rw [hw8]; exact heap_new _ _
    have hw8' : w7.alloc (.cells #[.slice p7 nt c7, .slice p8 nr c8] 36) = w8 := by rw [hw8]; rfl
    have D11 := hide (d11 w8 b78)
    have hbW8 : Below (w6).heap.size w6 w8 := hb7.trans (b78.mono hb7.size)
    have hI8 : w8.heap[ib]? = some (tbO (some ⟨gt, 0, none⟩) nt ct2 (some ⟨go, 0, none⟩) nr co) := (hbW8.block _ (Array.getElem?_eq_some_iff.1 (unhide HIT)).1).trans (unhide HIT)
    have lI8 := unhide HLD w8 hI8
    obtain ⟨nb, hnb⟩ : ∃ b, b = w7.heap.size := ⟨_, rfl⟩
    rw [← hnb] at hh8
    have HNB := hide hnb
    have HH8 : Hid (∀ V, Below w8.heap.size w8 V → (ldT (.pointer (some ⟨w7.heap.size, 0, none⟩))).run Tryz.prog V = .ok (.agg #[.slice p7 nt c7, .slice p8 nr c8]) V) := fun V hb => by
      rw [← unhide HNB]
      exact run_ldT ((hb.block _ (Array.getElem?_eq_some_iff.1 hh8).1).trans hh8)
    have HB8 : Hid (Below w.heap.size w w8) := (unhide HBT).trans (hbW8.mono (unhide HBT).size)
    clear d11 hw8 b78 hb7 hh8 hbW8 hI8 D10 lI hnb
    go_wp2_with fail
    refine (unhide D11).mono ?_
    rintro e w9 ⟨rfl, hb9, d12⟩
    have l9 := unhide HH8 w9 hb9
    have D12 := hide d12
    have HB9 := hide hb9
    clear d12 hb9 D11 lI8 hw8'
    go_wp2_with fail
    refine (unhide D12).mono ?_
    rintro e w10 ⟨rfl, hb10, d13⟩
    have hb810 : Below w8.heap.size w8 w10 := (unhide HB9).trans (hb10.mono (unhide HB9).size)
    have l10 := unhide HH8 w10 hb810
    have D13 := hide d13
    have HB10 := hide hb810
    clear d13 hb10 hb810 D12 l9
    go_wp2_with (go_at_call 12; refine (like_yes _ _ _).mono ?_; rintro e wz ⟨rfl, hwz⟩; rw [hwz]; clear hwz wz)
    refine (unhide D13).mono ?_
    rintro e w11 ⟨rfl, hb11⟩
    have HFIN : Hid (Below w'.heap.size w' w11) := by
      have h1 : Below w8.heap.size w8 w11 := (unhide HB10).trans (hb11.mono (unhide HB10).size)
      have h2 : Below w.heap.size w w11 := (unhide HB8).trans (h1.mono (unhide HB8).size)
      exact (unhide HBW0).trans (h2.mono (unhide HBW0).size)
    clear hb11 D13 l10
    go_wp2_with fail
    go_ret
    exact ⟨rfl, unhide HFIN⟩
  · have hnI : (0 : Int) < (nr : Int) := by omega
    have hn1 : 0 < nr := by omega
    have hd1 : decide (0 < nr) = true := decide_eq_true hn1
    obtain ⟨q, hq⟩ : ∃ q, q = nr / 2 := ⟨_, rfl⟩
    have hqn : q < nr := by omega
    obtain ⟨r, hr⟩ : ∃ r, X[q]? = some r := ⟨X[q]'(by have := unhide HX; omega), List.getElem?_eq_getElem _⟩
    obtain ⟨gc, hg⟩ : ∃ gc, G[q]? = some gc := ⟨G[q]'(by have := unhide HX; have := unhide HGL; omega), List.getElem?_eq_getElem _⟩
    have ch := unhide HHR q gc r hg hr
    have hq2 : (nr : Int).tdiv 2 = (q : Int) := by rw [Int.tdiv_eq_ediv_of_nonneg (by omega)]; omega
    have hqI : (q : Int) < (nr : Int) := by omega
    have hq0 : (0 : Int) ≤ (q : Int) := by omega
    have HGQ := hide hg; have HRQ := hide hr
    clear HHR hg hr hq hn0
    cases hrx : r.x with
    | nil =>
      have hl0 : r.x.length = 0 := by rw [hrx]; rfl
      rw [hl0] at ch
      clear hl0 hrx
      go_upto_region 9 with fail
      clear hnI hn1 hd1 c6 ch hq2 hqI hq0 hqn
      have d10 := tail_any ((unhide HP).below (unhide HB06)) ((unhide HMO).below (unhide HB06)) (unhide HT) (unhide HX) (unhide HOK) hnt hnr (unhide HSUM) dg hdg (unhide HL6)
      obtain ⟨T2, hT2⟩ : ∃ S, S = txB (ansB dg T X).1 := ⟨_, rfl⟩
      obtain ⟨E2, hE2⟩ : ∃ E, E = (ansB dg T X).2 := ⟨_, rfl⟩
      rw [← hT2, ← hE2] at d10
      have D10 := hide d10
      have lI := unhide HLD w6 (unhide HI6)
      have HBT := hide (unhide HB06)
      have HIT := hide (unhide HI6)
      clear d10 hT2 hE2
      go_wp2_with fail
      refine (unhide D10).mono ?_
      rintro e w7 ⟨p7, c7, p8, c8, rfl, hb7, d11⟩
      obtain ⟨w8, hw8⟩ : ∃ V, V = w7.alloc (tbO p7 nt c7 p8 nr c8) := ⟨_, rfl⟩
      have b78 : Below w7.heap.size w7 w8 := by rw [hw8]; exact bal (Below.refl _ _) _
      have hh8 : w8.heap[w7.heap.size]? = some (tbO p7 nt c7 p8 nr c8) := by rw [hw8]; exact heap_new _ _
      have hw8' : w7.alloc (.cells #[.slice p7 nt c7, .slice p8 nr c8] 36) = w8 := by rw [hw8]; rfl
      have D11 := hide (d11 w8 b78)
      have hbW8 : Below (w6).heap.size w6 w8 := hb7.trans (b78.mono hb7.size)
      have hI8 : w8.heap[ib]? = some (tbO (some ⟨gt, 0, none⟩) nt ct2 (some ⟨go, 0, none⟩) nr co) := (hbW8.block _ (Array.getElem?_eq_some_iff.1 (unhide HIT)).1).trans (unhide HIT)
      have lI8 := unhide HLD w8 hI8
      obtain ⟨nb, hnb⟩ : ∃ b, b = w7.heap.size := ⟨_, rfl⟩
      rw [← hnb] at hh8
      have HNB := hide hnb
      have HH8 : Hid (∀ V, Below w8.heap.size w8 V → (ldT (.pointer (some ⟨w7.heap.size, 0, none⟩))).run Tryz.prog V = .ok (.agg #[.slice p7 nt c7, .slice p8 nr c8]) V) := fun V hb => by
        rw [← unhide HNB]
        exact run_ldT ((hb.block _ (Array.getElem?_eq_some_iff.1 hh8).1).trans hh8)
      have HB8 : Hid (Below w.heap.size w w8) := (unhide HBT).trans (hbW8.mono (unhide HBT).size)
      clear d11 hw8 b78 hb7 hh8 hbW8 hI8 D10 lI hnb
      go_wp2_with fail
      refine (unhide D11).mono ?_
      rintro e w9 ⟨rfl, hb9, d12⟩
      have l9 := unhide HH8 w9 hb9
      have D12 := hide d12
      have HB9 := hide hb9
      clear d12 hb9 D11 lI8 hw8'
      go_wp2_with fail
      refine (unhide D12).mono ?_
      rintro e w10 ⟨rfl, hb10, d13⟩
      have hb810 : Below w8.heap.size w8 w10 := (unhide HB9).trans (hb10.mono (unhide HB9).size)
      have l10 := unhide HH8 w10 hb810
      have D13 := hide d13
      have HB10 := hide hb810
      clear d13 hb10 hb810 D12 l9
      go_wp2_with (go_at_call 12; refine (like_yes _ _ _).mono ?_; rintro e wz ⟨rfl, hwz⟩; rw [hwz]; clear hwz wz)
      refine (unhide D13).mono ?_
      rintro e w11 ⟨rfl, hb11⟩
      have HFIN : Hid (Below w'.heap.size w' w11) := by
        have h1 : Below w8.heap.size w8 w11 := (unhide HB10).trans (hb11.mono (unhide HB10).size)
        have h2 : Below w.heap.size w w11 := (unhide HB8).trans (h1.mono (unhide HB8).size)
        exact (unhide HBW0).trans (h2.mono (unhide HBW0).size)
      clear hb11 D13 l10
      go_wp2_with fail
      go_ret
      exact ⟨rfl, unhide HFIN⟩
    | cons y ys =>
      have hoq := (unhide HL6).cp.own q gc r (unhide HGQ) (unhide HRQ)
      have hlow : w.heap.size ≤ gc.1 := (hoq.lt gc.1 rfl).1
      obtain ⟨zq, hzq⟩ := own_obj hoq (g := gc.1) rfl
      obtain ⟨w61, hw61⟩ : ∃ V, V = w6.setCell ⟨gc.1, 1, none⟩ (.int .i64 0) := ⟨_, rfl⟩
      obtain ⟨w62, hw62⟩ : ∃ V, V = w61.setCell ⟨gc.1, 2, none⟩ (.string ⟨#[122]⟩) := ⟨_, rfl⟩
      have hset1 : ∀ k, k ≠ gc.1 → w61.heap[k]? = w6.heap[k]? := fun k hk => by rw [hw61]; exact Below.heap_setCell _ _ _ _ hk
      have hset2 : ∀ k, k ≠ gc.1 → w62.heap[k]? = w6.heap[k]? := fun k hk => by rw [hw62]; exact (Below.heap_setCell _ _ _ _ hk).trans (hset1 k hk)
      have hne : ∀ (k : Nat) (zs : Array Value) (t : TypeId) (f : Nat × Nat), w6.heap[k]? = some (Obj.cells zs t f) → t ≠ 43 → k ≠ gc.1 := fun k zs t f hk ht e => by
        subst e
        rw [hzq] at hk
        injection hk with hk
        injection hk with _ h5 _
        exact ht h5.symm
      have hib := hne ib _ 36 (0, 0) (unhide HI6) (by decide)
      obtain ⟨zo, hzo⟩ := own_obj (unhide HL6).oo (g := go) rfl
      have hgo := hne go _ 41 (0, 0) hzo (by decide)
      have c61 : w61.cell? ⟨ib, 1, none⟩ = some (.slice (some ⟨go, 0, none⟩) nr co) := by
        rw [← c6]
        exact World.cell?_of_block (a := ⟨ib, 1, none⟩) (hset1 ib hib)
      have ch1 : w61.cell? ⟨go, q, none⟩ = some (.slice (some ⟨gc.1, 0, none⟩) r.x.length gc.2) := by
        rw [← ch]
        exact World.cell?_of_block (a := ⟨go, q, none⟩) (hset1 go hgo)
      have hI62 : w62.heap[ib]? = some (tbO (some ⟨gt, 0, none⟩) nt ct2 (some ⟨go, 0, none⟩) nr co) := (hset2 ib hib).trans (unhide HI6)
      have hlo62 : LoOk w.heap.size w62 T nt (upC X q) nr gt ct2 go co pl cl G MR := by
        rw [hw62, hw61]
        exact (unhide HL6).up (unhide HGQ) (unhide HRQ) hrx
      have hfl : (kC.flat (r.x ++ Kg.mklC 700000 64)).length = (r.x.length + 64) * 3 := hoq.1
      have s1 : w6.cell? ⟨gc.1, 1, none⟩ ≠ none := by
        rw [hoq.cellAt 1 (by omega), List.getElem?_eq_getElem (by omega)]
        simp
      obtain ⟨v1, hv1⟩ := Option.ne_none_iff_exists'.1 s1
      have f1 : w6.frozen? ⟨gc.1, 1, none⟩ = false := hoq.frozenAt 1
      have ho1 := (hoq.stored 1 (.int .i64 0)).1
      rw [← hw61] at ho1
      have s2 : w61.cell? ⟨gc.1, 2, none⟩ ≠ none := by
        rw [ho1.cellAt 2 (by omega), List.getElem?_eq_getElem (by rw [List.length_set]; omega)]
        simp
      obtain ⟨v2, hv2⟩ := Option.ne_none_iff_exists'.1 s2
      have f2 : w61.frozen? ⟨gc.1, 2, none⟩ = false := ho1.frozenAt 2
      have hb62 : Below w.heap.size w w62 := by
        rw [hw62, hw61]
        exact ((unhide HB06).setCell (p := ⟨gc.1, 1, none⟩) hlow _).setCell (p := ⟨gc.1, 2, none⟩) hlow _
      have HB62 := hide hb62; have HI62 := hide hI62; have HL62 := hide hlo62
      obtain ⟨m, hm⟩ : ∃ m, m = r.x.length := ⟨_, rfl⟩
      have hm0 : 0 < m := by rw [hm, hrx]; simp
      have hmI : (0 : Int) < (m : Int) := by omega
      have hdm : decide (0 < m) = true := decide_eq_true hm0
      have hm0n : ¬ m = 0 := by omega
      rw [← hm] at ch ch1
      have hw61' := hw61.symm
      have hw62' := hw62.symm
      have HX2 : Hid ((upC X q).length = nr) := by show _ = _; rw [upC_len, unhide HX]
      have HOK2 := hide (upC_ok (unhide HOK) q)
      have HSUM2 : Hid (((upC X q).map fun r => r.x.length + 1).sum ≤ 1048576) := by
        have := sum_lens (upC_lens X q)
        show _ ≤ _
        rw [this]
        exact unhide HSUM
      obtain ⟨X2, hX2⟩ : ∃ Z, Z = upC X q := ⟨_, rfl⟩
      rw [← hX2] at HX2 HOK2 HSUM2 HL62
      obtain ⟨gb, hgb⟩ : ∃ g, g = gc.1 := ⟨_, rfl⟩
      rw [← hgb] at ch ch1 hv1 f1 hv2 f2 hw61' hw62'
      clear hoq hlow hzq zq hw61 hw62 hset1 hset2 hne hib hzo zo hgo hI62 hlo62 hfl s1 ho1 s2 hb62 hm hrx hX2 hgb
      go_upto_region 9 with fail
      clear c6 ch c61 ch1 hv1 hv2 f1 f2 hw61' hw62' hnI hn1 hd1 hq2 hqI hq0 hqn hmI hdm hm0n hm0
      have d10 := tail_any ((unhide HP).below (unhide HB62)) ((unhide HMO).below (unhide HB62)) (unhide HT) (unhide HX2) (unhide HOK2) hnt hnr (unhide HSUM2) dg hdg (unhide HL62)
      obtain ⟨T2, hT2⟩ : ∃ S, S = txB (ansB dg T X2).1 := ⟨_, rfl⟩
      obtain ⟨E2, hE2⟩ : ∃ E, E = (ansB dg T X2).2 := ⟨_, rfl⟩
      rw [← hT2, ← hE2] at d10
      have D10 := hide d10
      have lI := unhide HLD w62 (unhide HI62)
      have HBT := hide (unhide HB62)
      have HIT := hide (unhide HI62)
      clear d10 hT2 hE2
      go_wp2_with fail
      refine (unhide D10).mono ?_
      rintro e w7 ⟨p7, c7, p8, c8, rfl, hb7, d11⟩
      obtain ⟨w8, hw8⟩ : ∃ V, V = w7.alloc (tbO p7 nt c7 p8 nr c8) := ⟨_, rfl⟩
      have b78 : Below w7.heap.size w7 w8 := by rw [hw8]; exact bal (Below.refl _ _) _
      have hh8 : w8.heap[w7.heap.size]? = some (tbO p7 nt c7 p8 nr c8) := by rw [hw8]; exact heap_new _ _
      have hw8' : w7.alloc (.cells #[.slice p7 nt c7, .slice p8 nr c8] 36) = w8 := by rw [hw8]; rfl
      have D11 := hide (d11 w8 b78)
      have hbW8 : Below (w62).heap.size w62 w8 := hb7.trans (b78.mono hb7.size)
      have hI8 : w8.heap[ib]? = some (tbO (some ⟨gt, 0, none⟩) nt ct2 (some ⟨go, 0, none⟩) nr co) := (hbW8.block _ (Array.getElem?_eq_some_iff.1 (unhide HIT)).1).trans (unhide HIT)
      have lI8 := unhide HLD w8 hI8
      obtain ⟨nb, hnb⟩ : ∃ b, b = w7.heap.size := ⟨_, rfl⟩
      rw [← hnb] at hh8
      have HNB := hide hnb
      have HH8 : Hid (∀ V, Below w8.heap.size w8 V → (ldT (.pointer (some ⟨w7.heap.size, 0, none⟩))).run Tryz.prog V = .ok (.agg #[.slice p7 nt c7, .slice p8 nr c8]) V) := fun V hb => by
        rw [← unhide HNB]
        exact run_ldT ((hb.block _ (Array.getElem?_eq_some_iff.1 hh8).1).trans hh8)
      have HB8 : Hid (Below w.heap.size w w8) := (unhide HBT).trans (hbW8.mono (unhide HBT).size)
      clear d11 hw8 b78 hb7 hh8 hbW8 hI8 D10 lI hnb
      go_wp2_with fail
      refine (unhide D11).mono ?_
      rintro e w9 ⟨rfl, hb9, d12⟩
      have l9 := unhide HH8 w9 hb9
      have D12 := hide d12
      have HB9 := hide hb9
      clear d12 hb9 D11 lI8 hw8'
      go_wp2_with fail
      refine (unhide D12).mono ?_
      rintro e w10 ⟨rfl, hb10, d13⟩
      have hb810 : Below w8.heap.size w8 w10 := (unhide HB9).trans (hb10.mono (unhide HB9).size)
      have l10 := unhide HH8 w10 hb810
      have D13 := hide d13
      have HB10 := hide hb810
      clear d13 hb10 hb810 D12 l9
      go_wp2_with (go_at_call 12; refine (like_yes _ _ _).mono ?_; rintro e wz ⟨rfl, hwz⟩; rw [hwz]; clear hwz wz)
      refine (unhide D13).mono ?_
      rintro e w11 ⟨rfl, hb11⟩
      have HFIN : Hid (Below w'.heap.size w' w11) := by
        have h1 : Below w8.heap.size w8 w11 := (unhide HB10).trans (hb11.mono (unhide HB10).size)
        have h2 : Below w.heap.size w w11 := (unhide HB8).trans (h1.mono (unhide HB8).size)
        exact (unhide HBW0).trans (h2.mono (unhide HBW0).size)
      clear hb11 D13 l10
      go_wp2_with fail
      go_ret
      exact ⟨rfl, unhide HFIN⟩
end Go.Proofs.YtcafhmlpmbkhkaaGreatDoor
