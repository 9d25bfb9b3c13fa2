import Derived.Test.YtdeibifjiefapaaGreatDoorW11
import Derived.Shelf.Spec.SlicesInsertGrow
import Derived.Laws.Externs
/- chart: slices.Insert of one node (38). -/
namespace Go.Proofs.YtdeibifjiefapaaGreatDoor
open Go Go.Shelf Go.ChangeShapes Go.WideShapes Go.ChangeAt Go.RowKit Go.Maps Go.Sort
set_option linter.unusedVariables false
/-- pointers as elements of a slice -/
def kP : Kd Nat := ⟨fun b => [ptr b], 1, 66, 98, 8⟩
theorem kP_ok : KdOK kP := kd_ok (fun _ => rfl) (by decide) (fun x u hu => by simp [kP] at hu; subst hu; rfl) Tryz.underlying66 (z := .pointer none) (by kernel_rfl) rfl (by decide)
theorem kP_flat (P : List Nat) : kP.flat P = P.map ptr := by
  unfold Kd.flat kP
  induction P with
  | nil => rfl
  | cons a P ih => simp [ih]
/-- a row of pointers in a block -/
def RowP (w : World) (q : Nat) (P : List Nat) (ex : List Value) : Prop := w.heap[q]? = some (.cells (P.map ptr ++ ex).toArray 98)
theorem RowP.cell {w : World} {q : Nat} {P : List Nat} {ex : List Value} (h : RowP w q P ex) (j : Nat) (v : Value) (hv : (P.map ptr)[j]? = some v) : w.cell? ⟨q, j, none⟩ = some v := by
  refine cell_of h ?_
  have hl := (List.getElem?_eq_some_iff.1 hv).1
  rw [List.getElem?_toArray, List.getElem?_append_left hl]
  exact hv
theorem RowP.isS {w : World} {q : Nat} {P : List Nat} {ex : List Value} (h : RowP w q P ex) {j : Nat} (hj : j < P.length + ex.length) : (w.cell? ⟨q, j, none⟩).isSome = true := by
  have : (P.map ptr ++ ex).toArray[j]? = some ((P.map ptr ++ ex)[j]'(by simpa using hj)) := by rw [List.getElem?_toArray, List.getElem?_eq_getElem (by simpa using hj)]
  rw [cell_of h this]
  rfl
theorem RowP.own {w : World} {q : Nat} {P : List Nat} {ex : List Value} {n c : Nat} (h : RowP w q P ex) (hn : P.length = n) (hc : n + ex.length = c) (hm : c ≤ maxLen) : w.ownsRow 0 kP.e kP.s (.slice (some ⟨q, 0, none⟩) n c) n (kP.flat P) := by
  rw [kP_flat]
  refine ⟨by simp [kP, hn], .inr ⟨q, c, _, rfl, Nat.zero_le _, h, by omega, hm, by simp [kP]; omega, ?_⟩⟩
  show List.take (n * 1) (P.map ptr ++ ex) = P.map ptr
  rw [Nat.mul_one, List.take_left' (by simpa using hn)]
/-- what Insert leaves: the row with one more -/
structure InsOut (w : World) (q : Option Nat) (n : Nat) (Q : List Nat) (e : Ending) (w' : World) (q' c' : Nat) (ex' : List Value) : Prop where
  res : e = .returned (.slice (some ⟨q', 0, none⟩) (n + 1) c')
  row : RowP w' q' Q ex'
  cap : n + 1 + ex'.length = c'
  big : c' ≤ maxLen
  new : some q' = q ∨ w.heap.size ≤ q'
  os : w'.os = w.os
  tape : w'.tape = w.tape
  out : w'.output = w.output
  size : w.heap.size ≤ w'.heap.size
  blk : ∀ k, k < w.heap.size → some k ≠ q → w'.heap[k]? = w.heap[k]?
theorem InsOut.drew {w : World} {q : Option Nat} {n : Nat} {Q : List Nat} {e : Ending} {w' : World} {q' c' : Nat} {ex' : List Value} (h : InsOut w q n Q e w' q' c' ex') : InsOut w q n Q e w'.drew q' c' ex' := ⟨h.res, h.row, h.cap, h.big, h.new, h.os, h.tape, h.out, h.size, h.blk⟩
theorem row_split {w : World} {B n c : Nat} {p : Option Addr} {Q : List Nat} (h : w.ownsRow B kP.e kP.s (.slice p n c) n (kP.flat Q)) (hn : Q.length = n) (h0 : 0 < n) : ∃ q ex, p = some ⟨q, 0, none⟩ ∧ RowP w q Q ex ∧ n + ex.length = c ∧ c ≤ maxLen := by
  rcases h.2 with ⟨_, e⟩ | ⟨g, cap, cur, e, _, hh, h3, h4, h5, h6⟩
  · omega
  · injection e with e1 e2 e3
    subst e3
    refine ⟨g, cur.toList.drop n, e1, ?_, ?_, h4⟩
    · show w.heap[g]? = _
      rw [hh]
      have e4 : cur.toList.take n = Q.map ptr := by rw [← kP_flat, ← h6]; simp [kP]
      have e5 : cur = (Q.map ptr ++ cur.toList.drop n).toArray := by rw [← e4, List.take_append_drop]
      rw [← e5]
      rfl
    · have : cur.size = c * 1 := h5
      simp
      omega
set_option maxRecDepth 100000 in
set_option maxHeartbeats 4000000 in
/-- at the end -/
theorem insert_end (w : World) (p : Option Addr) (n c vb nb : Nat) (Pb : List Nat) (hn : Pb.length = n) (hn1 : n ≤ 100) (hr : w.ownsRow 0 kP.e kP.s (.slice p n c) n (kP.flat Pb)) (hv : w.heap[vb]? = some (.cells #[ptr nb] 98)) :
    Calls Tryz.prog 158 #[.slice p n c, .int .i64 n, .slice (some ⟨vb, 0, none⟩) 1 1] w fun e w' => ∃ q' c' ex', InsOut w (p.map (·.block)) n (Pb ++ [nb]) e w' q' c' ex' := by
  have hl : Lies kP w (some ⟨vb, 0, none⟩) [nb] := ⟨(fun h => by cases h), fun k hk => ⟨vb, 0, rfl, (Array.getElem?_eq_some_iff.1 hv).1, fun j u hu => by
    have e : k = 0 := by simp at hk; exact hk
    subst e
    refine cell_of hv ?_
    have : ([ptr nb] : List Value)[j]? = some u := hu
    simpa using this⟩⟩
  obtain ⟨p', c', w', hrun, ho, hb, hk, hat⟩ := run_app kP_ok 66 hr (Nat.zero_le _) (some ⟨vb, 0, none⟩) 1 (fun h => by cases h) hl (by simp; omega)
  obtain ⟨q', ex', e1, h1, h2, h3⟩ := row_split ho (by simp [hn]) (by simp)
  obtain ⟨_, _, _, _, hspot⟩ := row_slice hr
  subst e1
  have hfin : InsOut w (p.map (·.block)) n (Pb ++ [nb]) (.returned (.slice (some ⟨q', 0, none⟩) (n + 1) c')) w' q' c' ex' := by
    have hob : (Value.slice p n c).ownBlock = p.map (·.block) := by cases p <;> rfl
    refine ⟨rfl, h1, h2, h3, ?_, hb.os, hb.tape, hb.output, hb.size, fun k hk1 hk2 => hk k hk1 (by rw [hob]; exact fun e => hk2 e.symm)⟩
    rcases hat with h | h
    · left
      rw [hob] at h
      exact h
    · right
      have : q' = w.heap.size := by simpa [Value.ownBlock] using h
      omega
  have HFIN := hide hfin; have HRUN := hide hrun
  have hle : (n : Int) ≤ (n : Int) := Int.le_refl _
  have hnc : n ≤ c := by
    rcases hr.2 with ⟨e, e2⟩ | ⟨_, _, _, e, _, _, h, _⟩
    · omega
    · injection e with _ _ e3; omega
  clear hfin hrun ho hb hk hat h1 h2 h3 hl hr hspot
  by_cases hcn : c = n
  · go_enter Tryz.func158, Tryz.ntmps158
    go_wp2_with (at_builtin; refine wpList_append_run rfl _ _ 66 rfl _ _ _ _ rfl rfl (unhide HRUN) ?_)
    go_ret
    exact ⟨_, _, _, unhide HFIN⟩
  · go_enter Tryz.func158, Tryz.ntmps158
    go_wp2_with (at_builtin; refine wpList_append_run rfl _ _ 66 rfl _ _ _ _ rfl rfl (unhide HRUN) ?_)
    go_ret
    exact ⟨_, _, _, unhide HFIN⟩

theorem heap_setCells {b : Nat} {t : TypeId} : ∀ (vs : List Value) (o : Nat) (W : World) (c : Array Value), W.heap[b]? = some (.cells c t) → o + vs.length ≤ c.size → ∃ c', (W.setCells b o vs).heap[b]? = some (.cells c' t) ∧ c'.size = c.size ∧ ∀ j, c'[j]? = if o ≤ j ∧ j < o + vs.length then vs[j - o]? else c[j]?
  | [], o, W, c, h, hl => ⟨c, h, rfl, fun j => by rw [if_neg (by simp)]⟩
  | v :: r, o, W, c, h, hl => by
    have hl' : o + (r.length + 1) ≤ c.size := hl
    obtain ⟨c', h1, h2, h3⟩ := heap_setCells r (o + 1) (W.setCell ⟨b, o, none⟩ v) (c.setIfInBounds o v) (heap_set h v) (by simp; omega)
    refine ⟨c', h1, by rw [h2]; simp, fun j => ?_⟩
    rw [h3 j]
    by_cases e : j = o
    · subst e
      rw [if_neg (by omega), if_pos (by simp), Nat.sub_self, Array.getElem?_setIfInBounds_self_of_lt (by omega)]
      rfl
    · by_cases hin : o + 1 ≤ j ∧ j < o + 1 + r.length
      · rw [if_pos hin, if_pos (by simp; omega), show j - o = (j - (o + 1)) + 1 by omega]
        rfl
      · rw [if_neg hin, if_neg (by simp; omega), Array.getElem?_setIfInBounds_ne (by omega)]
theorem heap_setCells_ne {b k : Nat} (hk : k ≠ b) : ∀ (vs : List Value) (o : Nat) (W : World), (W.setCells b o vs).heap[k]? = W.heap[k]?
  | [], o, W => rfl
  | v :: r, o, W => by
    show ((W.setCell ⟨b, o, none⟩ v).setCells b (o + 1) r).heap[k]? = _
    rw [heap_setCells_ne hk r]
    exact Below.heap_setCell _ _ _ _ hk
theorem size_setCells {b : Nat} : ∀ (vs : List Value) (o : Nat) (W : World), (W.setCells b o vs).heap.size = W.heap.size
  | [], o, W => rfl
  | v :: r, o, W => by
    show ((W.setCell ⟨b, o, none⟩ v).setCells b (o + 1) r).heap.size = _
    rw [size_setCells r]
    simp
theorem os_setCells {b : Nat} : ∀ (vs : List Value) (o : Nat) (W : World), (W.setCells b o vs).os = W.os ∧ (W.setCells b o vs).tape = W.tape ∧ (W.setCells b o vs).output = W.output
  | [], o, W => ⟨rfl, rfl, rfl⟩
  | v :: r, o, W => by
    obtain ⟨h1, h2, h3⟩ := os_setCells (b := b) r (o + 1) (W.setCell ⟨b, o, none⟩ v)
    exact ⟨h1, h2, h3⟩
theorem ins_list {P : List Value} {i n : Nat} (hn : P.length = n) (hi : i < n) {v : Value} {c : Array Value} (h1 : ∀ j, j < i → c[j]? = P[j]?) (h2 : c[i]? = some v) (h3 : ∀ j, i < j → j ≤ n → c[j]? = P[j - 1]?) : c = ((P.take i ++ v :: P.drop i) ++ c.toList.drop (n + 1)).toArray := by
  have ht : c.toList.take (n + 1) = P.take i ++ v :: P.drop i := by
    refine List.ext_getElem? (fun j => ?_)
    by_cases hj : j < n + 1
    · rw [List.getElem?_take_of_lt hj, Array.getElem?_toList]
      by_cases hji : j < i
      · rw [h1 j hji, List.getElem?_append_left (by rw [List.length_take]; omega), List.getElem?_take_of_lt hji]
      · rw [List.getElem?_append_right (by rw [List.length_take]; omega), List.length_take, Nat.min_eq_left (by omega)]
        by_cases e : j = i
        · subst e
          rw [h2, Nat.sub_self]
          rfl
        · rw [h3 j (by omega) (by omega), show j - i = (j - i - 1) + 1 by omega, List.getElem?_cons_succ, List.getElem?_drop]
          congr 1
          omega
    · rw [List.getElem?_eq_none (by rw [List.length_take]; omega), List.getElem?_eq_none (by simp; omega)]
  rw [← ht, List.take_append_drop]
theorem RowP.of {w : World} {q i n : Nat} {Pb : List Nat} {nb : Nat} {c : Array Value} (hn : Pb.length = n) (hi : i < n) (hc : w.heap[q]? = some (.cells c 98)) (hl : n + 1 ≤ c.size) (h1 : ∀ j, j < i → c[j]? = (Pb.map ptr)[j]?) (h2 : c[i]? = some (ptr nb)) (h3 : ∀ j, i < j → j ≤ n → c[j]? = (Pb.map ptr)[j - 1]?) :
    RowP w q (Pb.take i ++ nb :: Pb.drop i) (c.toList.drop (n + 1)) ∧ n + 1 + (c.toList.drop (n + 1)).length = c.size := by
  refine ⟨?_, by simp; omega⟩
  have := ins_list (P := Pb.map ptr) (by simpa using hn) hi h1 h2 h3
  rw [RowP, hc]
  congr 2
  refine this.trans ?_
  simp
theorem size63 : (Tryz.prog.info? 98).map (·.size) = some 1 := by kernel_rfl
theorem ptr_one (P : List Nat) : ∀ v ∈ P.map ptr, v.oneCell' = true := fun v hv => by
  obtain ⟨b, _, rfl⟩ := List.mem_map.1 hv
  rfl
theorem wrapI {z : Int} (h1 : -9223372036854775808 ≤ z) (h2 : z ≤ 9223372036854775807) : IntKind.i64.wrap z = z := by rw [IntKind.wrap_i64]; omega
set_option maxRecDepth 100000 in
set_option maxHeartbeats 4000000 in
/-- within, where there is room -/
theorem insert_shift (w : World) (q n c i vb nb : Nat) (Pb : List Nat) (ex : List Value) (hn : Pb.length = n) (hn1 : n ≤ 100) (hi : i < n) (hr : RowP w q Pb ex) (hc : n + ex.length = c) (hcm : c ≤ maxLen) (hroom : n + 1 ≤ c) (hv : w.heap[vb]? = some (.cells #[ptr nb] 98)) (hvq : vb ≠ q) :
    Calls Tryz.prog 158 #[.slice (some ⟨q, 0, none⟩) n c, .int .i64 i, .slice (some ⟨vb, 0, none⟩) 1 1] w fun e w' => ∃ q' c' ex', InsOut w (some q) n (Pb.take i ++ nb :: Pb.drop i) e w' q' c' ex' := by
  have hz2 : ¬ ((i : Int) = (n : Int)) := by omega
  have hcl : (Pb.map ptr).length = n := by simpa using hn
  have hdl : ((Pb.map ptr).drop i).length = n - i := by rw [List.length_drop, hcl]
  have hov : ∀ lb cb, (callFunc 213 #[.slice (some ⟨vb, 0, none⟩) 1 1, .slice (some ⟨q, i + 1, none⟩) lb cb]).run Tryz.prog w = .ok (.value (.bool false)) w := fun lb cb => by
    rw [run_callFunc_extern Tryz.func213 (by kernel_rfl) (by kernel_rfl) (by kernel_rfl) (e := Extern.SlicesOverlaps.overlaps #[66, 66] #[4]) (by kernel_rfl),
      Lib.run_overlaps_apart w 66 4 98 Tryz.underlying66 1 Tryz.sizeOf98 ⟨vb, 0, none⟩ ⟨q, i + 1, none⟩ 1 1 lb cb hvq 98 98 1 (Pb.map ptr ++ ex).toArray.size (by simp [World.shape?, hv]) (by simp [World.shape?, show w.heap[q]? = _ from hr]) (by rw [show (Pb.map ptr ++ ex).toArray.size = c by simp; omega]; omega) (froz_of hv 0) (froz_of hv 1)]
    rfl
  have hcp1 : ∀ ty dc sc, (Builtin.copy_ #[66, 66] ty #[.slice (some ⟨q, i + 1, none⟩) (n - i) dc, .slice (some ⟨q, i, none⟩) (n + 1 - i) sc]).run Tryz.prog w.drew = .ok (goInt ((Pb.map ptr).drop i).length) (w.drew.setCells q (i + 1) ((Pb.map ptr).drop i)) := fun ty dc sc =>
    run_copy_cells w.drew _ _ ty 98 q (i + 1) (n - i) dc ⟨q, i, none⟩ (n + 1 - i) sc ((Pb.map ptr).drop i) Tryz.underlying66 size63 (by rw [hdl]; show n - i = Nat.min (n + 1 - i) (n - i); exact (Nat.min_eq_right (by omega)).symm)
      (fun j v hj => by rw [Addr.add_lit]; exact hr.cell (i + j) v (by rwa [List.getElem?_drop] at hj))
      (fun j hj => hr.isS (by rw [hdl] at hj; omega)) (fun j hj => froz_of (W := w) hr _) (fun v hv2 => ptr_one Pb v (List.mem_of_mem_drop hv2))
  obtain ⟨c1, hc1, hs1, hj1⟩ := heap_setCells ((Pb.map ptr).drop i) (i + 1) w.drew _ hr (by simp; omega)
  obtain ⟨W1, hW1⟩ : ∃ W1, W1 = w.drew.setCells q (i + 1) ((Pb.map ptr).drop i) := ⟨_, rfl⟩
  rw [← hW1] at hc1 hcp1
  have hsz0 : (Pb.map ptr ++ ex).toArray.size = c := by simp; omega
  have hv1 : W1.heap[vb]? = some (.cells #[ptr nb] 98) := by rw [hW1]; exact (heap_setCells_ne hvq _ _ _).trans hv
  have hcp2 : ∀ (W : World), (∀ x, W.cell? x = W1.cell? x) → (∀ x, W.frozen? x = W1.frozen? x) → ∀ ty dc, (Builtin.copy_ #[66, 66] ty #[.slice (some ⟨q, i, none⟩) (n + 1 - i) dc, .slice (some ⟨vb, 0, none⟩) 1 1]).run Tryz.prog W = .ok (goInt ([ptr nb] : List Value).length) (W.setCells q i [ptr nb]) := fun W hWc hWf ty dc =>
    run_copy_cells W _ _ ty 98 q i (n + 1 - i) dc ⟨vb, 0, none⟩ 1 1 [ptr nb] Tryz.underlying66 size63 (by simp only [List.length_cons, List.length_nil, Nat.min_def]; split <;> omega)
      (fun j v hj => by rw [hWc]; have e : j = 0 := by { have := (List.getElem?_eq_some_iff.1 hj).1; simp at this; exact this }; subst e; simp at hj; subst hj; exact cell_of hv1 rfl)
      (fun j hj => by rw [hWc]; have e : j = 0 := by { simp at hj; exact hj }; subst e; rw [cell_of hc1 (v := c1[i]'(by omega)) (by rw [Nat.add_zero]; exact Array.getElem?_eq_getElem (by omega))]; rfl) (fun j hj => by rw [hWf]; exact froz_of hc1 _) (fun v hv2 => by simp at hv2; subst hv2; rfl)
  obtain ⟨c2, hc2, hs2, hj2⟩ := heap_setCells [ptr nb] i W1 c1 hc1 (by simp; omega)
  obtain ⟨hrow, hcap⟩ := RowP.of (w := W1.setCells q i [ptr nb]) (nb := nb) hn hi hc2 (by omega) (fun j hj => by
    rw [hj2, if_neg (by simp; omega), hj1, if_neg (by omega), List.getElem?_toArray, List.getElem?_append_left (by omega)]) (by
    rw [hj2, if_pos (by simp), Nat.sub_self]; rfl) (fun j h1 h2 => by
    rw [hj2, if_neg (by simp; omega), hj1, if_pos (by omega), List.getElem?_drop]; congr 1; omega)
  have hw1 : IntKind.i64.wrap ((i : Int) + 1) = (i : Int) + 1 := wrapI (by omega) (by omega)
  have hw2 : IntKind.i64.wrap ((n : Int) + 1) = (n : Int) + 1 := wrapI (by omega) (by omega)
  have hfin : InsOut w (some q) n (Pb.take i ++ nb :: Pb.drop i) (.returned (.slice (some ⟨q, 0, none⟩) (n + 1) c)) (W1.setCells q i [ptr nb]) q c (c2.toList.drop (n + 1)) := by
    obtain ⟨o1, o2, o3⟩ := os_setCells (b := q) [ptr nb] i W1
    obtain ⟨p1, p2, p3⟩ := os_setCells (b := q) ((Pb.map ptr).drop i) (i + 1) w.drew
    rw [← hW1] at p1 p2 p3
    refine ⟨rfl, hrow, by omega, hcm, .inl rfl, o1.trans p1, o2.trans p2, o3.trans p3, by rw [size_setCells, hW1, size_setCells]; exact Nat.le_refl _, fun k hk hkq => ?_⟩
    have hkq' : k ≠ q := fun e => hkq (by rw [e])
    rw [heap_setCells_ne hkq', hW1, heap_setCells_ne hkq']
    rfl
  have HFIN := hide hfin
  have hb2 : ¬ (c = i + 1) := by omega
  have hb3 : (i : Int) ≤ (n : Int) + 1 := by omega
  have hb4 : ¬ (c = i) := by omega
  have hb5 : (0 : Int) ≤ (i : Int) + 1 := by omega
  have hb6 : ¬ ((c : Int) < (n : Int) + 1) := by omega
  have htn : ((i : Int) + 1).toNat = i + 1 := by omega
  have hin : i ≤ n := by omega
  have hcm' : (c : Int) ≤ 9223372036854775807 := by unfold maxLen at hcm; omega
  have hmx : Tryz.prog.follows .mixedOrders = true := by kernel_rfl
  clear hfin hrow hcap hj2 hs2 hc2 hj1 hs1 hc1 hv1 hdl hcl hsz0
  go_enter Tryz.func158, Tryz.ntmps158
  go_wp2_with (simp only [hov])
  go_region_law_o (refine step_copy_runI rfl _ _ 66 66 rfl _ _ (by simp [Act.eval, Act.put]) (by simp [Act.eval, Act.put]) (hcp1 _ _ _) ?_)
  go_wp2_with (at_builtin; refine wpList_copy_runI _ rfl _ _ 66 66 rfl _ _ rfl rfl (hcp2 _ (fun _ => rfl) (fun _ => rfl) _ _) ?_)
  go_ret
  have hfin := unhide HFIN
  rw [hW1] at hfin
  exact ⟨_, _, _, hfin⟩

set_option maxRecDepth 100000 in
set_option maxHeartbeats 4000000 in
/-- within, where there is no room -/
theorem insert_grow (w : World) (q n c i vb nb : Nat) (Pb : List Nat) (ex : List Value) (hn : Pb.length = n) (hn1 : n ≤ 100) (hi : i < n) (hr : RowP w q Pb ex) (hc : n + ex.length = c) (hroom : c < n + 1) (hv : w.heap[vb]? = some (.cells #[ptr nb] 98)) (hvq : vb ≠ q) :
    Calls Tryz.prog 158 #[.slice (some ⟨q, 0, none⟩) n c, .int .i64 i, .slice (some ⟨vb, 0, none⟩) 1 1] w fun e w' => ∃ q' c' ex', InsOut w (some q) n (Pb.take i ++ nb :: Pb.drop i) e w' q' c' ex' := by
  obtain ⟨i0, hi0, hz0, hzs, hzb⟩ := info_parts (z := .pointer none) (a := 1) (b := 8) (t := 98) (by kernel_rfl)
  have hz2 : ¬ ((i : Int) = (n : Int)) := by omega
  have hz3 : (c : Int) < (n : Int) + 1 := by omega
  have hcl : (Pb.map ptr).length = n := by simpa using hn
  have hdl : ((Pb.map ptr).drop i).length = n - i := by rw [List.length_drop, hcl]
  have hqw : q < w.heap.size := (Array.getElem?_eq_some_iff.1 hr).1
  have hvw : vb < w.heap.size := (Array.getElem?_eq_some_iff.1 hv).1
  have hkk : (n : Int) + 1 - (i : Int) = ((n + 1 - i : Nat) : Int) := by omega
  have hik : i + (n + 1 - i) = n + 1 := by omega
  have hold : (Builtin.firstCells i0.size i (.slice (some ⟨q, 0, none⟩) i c)).run Tryz.prog w.drew = .ok ((Pb.map ptr).take i).toArray w.drew := by
    rw [hzs]
    exact run_firstCells_some w.drew 1 i ⟨q, 0, none⟩ i c ((Pb.map ptr).take i) (by rw [List.length_take]; omega) (fun j v hj => by
      rw [Addr.add_lit, Nat.zero_add]
      rw [List.getElem?_take] at hj
      split at hj
      · exact hr.cell j v hj
      · cases hj)
  obtain ⟨G, hG⟩ : ∃ G, G = grownCap w (n + 1) c 98 := ⟨_, rfl⟩
  obtain ⟨ROW, hROW⟩ : ∃ ROW : Array Value, ROW = ((Pb.map ptr).take i).toArray ++ Builtin.zeroCells (Value.pointer none).cells (n + 1 - i) ++ Builtin.zeroCells (Value.pointer none).cells (G - (n + 1)) := ⟨_, rfl⟩
  have hrz : ∀ ty, (Builtin.append_ #[66, 3] ty #[.slice (some ⟨q, 0, none⟩) i c, .int .i64 ((n : Int) + 1 - (i : Int))]).run Tryz.prog w = .ok (.slice (some ⟨w.heap.size, 0, none⟩) (n + 1) G) (w.drew.alloc (.cells ROW 98)) := fun ty => by
    have h := Lib.run_append_grow_zeros w 66 3 ty 98 i0 _ .i64 .i64 Tryz.underlying66 Tryz.underlying3 hi0 hz0 (some ⟨q, 0, none⟩) i c ((Pb.map ptr).take i) hold (n + 1 - i) (by omega) (by omega) (by omega) (by omega) (by rw [hzb]; omega) (by rw [hzb, hik]; exact growslice_fits (by omega) (by omega))
    rw [hik, ← hG] at h
    rw [hkk, h, hROW]
  have hGn : n + 1 ≤ G := by rw [hG]; exact grownCap_ge w _ _ _
  have hGm : G ≤ maxLen := by rw [hG]; exact grownCap_le_maxLen w (n + 1) c 98 (by unfold maxLen; omega)
  have hRs : ROW.size = G := by
    rw [hROW]
    simp [Builtin.zeroCells, Value.cells]
    omega
  have hR1 : ∀ j, j < i → ROW[j]? = (Pb.map ptr)[j]? := fun j hj => by
    rw [hROW, Array.append_assoc, Array.getElem?_append_left (by simp; omega), List.getElem?_toArray, List.getElem?_take_of_lt hj]
  obtain ⟨W1, hW1⟩ : ∃ W1, W1 = w.drew.alloc (.cells ROW 98) := ⟨_, rfl⟩
  have hN : W1.heap[w.heap.size]? = some (.cells ROW 98) := by rw [hW1]; exact World.alloc_heap_new w.drew _
  have hO : ∀ k, k < w.heap.size → W1.heap[k]? = w.heap[k]? := fun k hk => by rw [hW1]; exact Below.heap_alloc w.drew _ _ hk
  have hv1 := (hO vb hvw).trans hv
  have hr1 : RowP W1 q Pb ex := (hO q hqw).trans hr
  have hcpA : ∀ (W : World), (∀ x, W.cell? x = W1.cell? x) → (∀ x, W.frozen? x = W1.frozen? x) → ∀ ty dc, (Builtin.copy_ #[66, 66] ty #[.slice (some ⟨w.heap.size, i, none⟩) (n + 1 - i) dc, .slice (some ⟨vb, 0, none⟩) 1 1]).run Tryz.prog W = .ok (goInt ([ptr nb] : List Value).length) (W.setCells w.heap.size i [ptr nb]) := fun W hWc hWf ty dc =>
    run_copy_cells W _ _ ty 98 w.heap.size i (n + 1 - i) dc ⟨vb, 0, none⟩ 1 1 [ptr nb] Tryz.underlying66 size63 (by simp only [List.length_cons, List.length_nil, Nat.min_def]; split <;> omega)
      (fun j v hj => by rw [hWc]; have e : j = 0 := by { have := (List.getElem?_eq_some_iff.1 hj).1; simp at this; exact this }; subst e; simp at hj; subst hj; exact cell_of hv1 rfl)
      (fun j hj => by rw [hWc]; have e : j = 0 := by { simp at hj; exact hj }; subst e; rw [cell_of hN (v := ROW[i]'(by omega)) (by rw [Nat.add_zero]; exact Array.getElem?_eq_getElem (by omega))]; rfl) (fun j hj => by rw [hWf]; exact froz_of hN _) (fun v hv2 => by simp at hv2; subst hv2; rfl)
  obtain ⟨c1, hc1, hs1, hj1⟩ := heap_setCells [ptr nb] i W1 ROW hN (by simp; omega)
  have hqN : q ≠ w.heap.size := by omega
  have hr2 : RowP (W1.setCells w.heap.size i [ptr nb]) q Pb ex := (heap_setCells_ne hqN _ _ _).trans hr1
  have hcpB : ∀ (W : World), (∀ x, W.cell? x = (W1.setCells w.heap.size i [ptr nb]).cell? x) → (∀ x, W.frozen? x = (W1.setCells w.heap.size i [ptr nb]).frozen? x) → ∀ ty dc sc, (Builtin.copy_ #[66, 66] ty #[.slice (some ⟨w.heap.size, i + 1, none⟩) (n - i) dc, .slice (some ⟨q, i, none⟩) (n - i) sc]).run Tryz.prog W = .ok (goInt ((Pb.map ptr).drop i).length) (W.setCells w.heap.size (i + 1) ((Pb.map ptr).drop i)) := fun W hWc hWf ty dc sc =>
    run_copy_cells W _ _ ty 98 w.heap.size (i + 1) (n - i) dc ⟨q, i, none⟩ (n - i) sc ((Pb.map ptr).drop i) Tryz.underlying66 size63 (by rw [hdl]; exact (Nat.min_self _).symm)
      (fun j v hj => by rw [Addr.add_lit, hWc]; exact hr2.cell (i + j) v (by rwa [List.getElem?_drop] at hj))
      (fun j hj => by rw [hWc]; rw [hdl] at hj; rw [cell_of hc1 (v := c1[i + 1 + j]'(by omega)) (Array.getElem?_eq_getElem (by omega))]; rfl)
      (fun j hj => by rw [hWf]; exact froz_of hc1 _) (fun v hv2 => ptr_one Pb v (List.mem_of_mem_drop hv2))
  obtain ⟨c2, hc2, hs2, hj2⟩ := heap_setCells ((Pb.map ptr).drop i) (i + 1) (W1.setCells w.heap.size i [ptr nb]) c1 hc1 (by rw [hdl]; omega)
  obtain ⟨hrow, hcap⟩ := RowP.of (w := (W1.setCells w.heap.size i [ptr nb]).setCells w.heap.size (i + 1) ((Pb.map ptr).drop i)) (nb := nb) hn hi hc2 (by omega) (fun j hj => by
    rw [hj2, if_neg (by omega), hj1, if_neg (by omega)]; exact hR1 j hj) (by
    rw [hj2, if_neg (by omega), hj1, if_pos (by simp), Nat.sub_self]; rfl) (fun j h1 h2 => by
    rw [hj2, if_pos (by rw [hdl]; omega), List.getElem?_drop]; congr 1; omega)
  have hfin : InsOut w (some q) n (Pb.take i ++ nb :: Pb.drop i) (.returned (.slice (some ⟨w.heap.size, 0, none⟩) (n + 1) G)) ((W1.setCells w.heap.size i [ptr nb]).setCells w.heap.size (i + 1) ((Pb.map ptr).drop i)) w.heap.size G (c2.toList.drop (n + 1)) := by
    obtain ⟨o1, o2, o3⟩ := os_setCells (b := w.heap.size) ((Pb.map ptr).drop i) (i + 1) (W1.setCells w.heap.size i [ptr nb])
    obtain ⟨p1, p2, p3⟩ := os_setCells (b := w.heap.size) [ptr nb] i W1
    refine ⟨rfl, hrow, by omega, hGm, .inr (Nat.le_refl _), (o1.trans p1).trans (by rw [hW1]; rfl), (o2.trans p2).trans (by rw [hW1]; rfl), (o3.trans p3).trans (by rw [hW1]; rfl), by rw [size_setCells, size_setCells, hW1, World.size_alloc]; show w.heap.size ≤ w.heap.size + 1; omega, fun k hk hkq => ?_⟩
    rw [heap_setCells_ne (by omega), heap_setCells_ne (by omega)]
    exact hO k hk
  have HFIN := hide hfin
  have hw1 : IntKind.i64.wrap ((i : Int) + 1) = (i : Int) + 1 := wrapI (by omega) (by omega)
  have hw2 : IntKind.i64.wrap ((n : Int) + 1) = (n : Int) + 1 := wrapI (by omega) (by omega)
  have hw3 : IntKind.i64.wrap ((n : Int) + 1 - (i : Int)) = (n : Int) + 1 - (i : Int) := wrapI (by omega) (by omega)
  have hGi : ¬ (G = i) := by omega
  have hGim : ¬ (G = i + 1) := by omega
  have hci : ¬ (c = i) := by omega
  have hb1 : (0 : Int) ≤ (i : Int) + 1 := by omega
  have hin : i ≤ n := by omega
  have htn : ((i : Int) + 1).toNat = i + 1 := by omega
  have hb3 : (i : Int) ≤ (n : Int) := by omega
  have hGm' : G ≤ 9223372036854775807 := by unfold maxLen at hGm; omega
  have hmx : Tryz.prog.follows .mixedOrders = true := by kernel_rfl
  rw [← hW1] at hrz
  subst hW1
  have hE1 : ∀ x, ((w.alloc (.cells ROW 98)).drew).cell? x = (w.drew.alloc (.cells ROW 98)).cell? x := fun x => rfl
  have hE2 : ∀ x, ((w.alloc (.cells ROW 98)).drew).frozen? x = (w.drew.alloc (.cells ROW 98)).frozen? x := fun x => rfl
  have hF1 : ∀ x, (((w.alloc (.cells ROW 98)).drew.setCells w.heap.size i [ptr nb]).drew).cell? x = ((w.drew.alloc (.cells ROW 98)).setCells w.heap.size i [ptr nb]).cell? x := fun x => rfl
  have hF2 : ∀ x, (((w.alloc (.cells ROW 98)).drew.setCells w.heap.size i [ptr nb]).drew).frozen? x = ((w.drew.alloc (.cells ROW 98)).setCells w.heap.size i [ptr nb]).frozen? x := fun x => rfl
  clear hfin hrow hcap hj2 hs2 hc2 hj1 hs1 hc1 hv1 hdl hcl hr2 hr1 hN hO hROW hRs hR1 hold hkk hik hG
  go_enter Tryz.func158, Tryz.ntmps158
  go_wp2_with (first
    | (at_builtin; refine Lib.wpList_append_run _ rfl _ _ _ _ rfl _ _ rfl rfl _ _ (hrz _) ?_)
    | (at_builtin; refine wpList_copy_runI _ rfl _ _ 66 66 rfl _ _ rfl rfl (hcpA _ hE1 hE2 _ _) ?_))
  go_region_law_o (refine step_copy_runI rfl _ _ 66 66 rfl _ _ (by simp [Act.eval, Act.put]) (by simp [Act.eval, Act.put]) (hcpB _ hF1 hF2 3 (G - (i + 1)) (c - i)) ?_)
  go_wp2
  go_ret
  have hfin := (unhide HFIN).drew
  rw [drew_setCells] at hfin
  exact ⟨_, _, _, hfin⟩
end Go.Proofs.YtdeibifjiefapaaGreatDoor
