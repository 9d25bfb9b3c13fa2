import Derived.Test.YtcafhmlpmbkhkaaGreatDoorR02
import Derived.Maps.AppendAt
import Derived.Shelf.RegionOpen
import Derived.Stop.RegionWithIn
import Derived.Shelf.Spec.SlicesInsertGrow
import Derived.Laws.Externs
import Derived.Test.YtcafhmlpmbkhkaaGreatDoorR01
namespace Go.Proofs.YtcafhmlpmbkhkaaGreatDoor.Ch
open Go Go.Shelf Go.ChangeShapes Go.WideShapes Go.ChangeAt Go.RowKit Go.Maps
set_option linter.unusedVariables false
attribute [local go_sem] Oper.semAt_some
open Go Go.Shelf Go.ChangeShapes Go.WideShapes Go.ChangeAt Go.RowKit Go.Maps
set_option linter.unusedVariables false
attribute [local go_sem] Oper.semAt_some
structure Fr (S : Nat → Prop) (W W' : World) : Prop where
  os : W'.os = W.os
  tape : W'.tape = W.tape
  output : W'.output = W.output
  size : W.heap.size ≤ W'.heap.size
  block : ∀ k, k < W.heap.size → ¬ S k → W'.heap[k]? = W.heap[k]?
def fnd (L : List Ac) (x : Nm) : Option Ac := L.find? fun a => decide (a.nm = x)
theorem fnd_some {L : List Ac} {x : Nm} {a : Ac} (h : fnd L x = some a) : a ∈ L ∧ a.nm = x := by
  have h1 := List.find?_some h
  exact ⟨List.mem_of_find?_eq_some h, by simpa using h1⟩
theorem fnd_none {L : List Ac} {x : Nm} (h : fnd L x = none) : ¬ ∃ a ∈ L, a.nm = x := by
  rintro ⟨a, ha, e⟩
  have := List.find?_eq_none.1 h a ha
  simp [e] at this
theorem fnd_of {L : List Ac} (hG : Good L) {a : Ac} (ha : a ∈ L) : fnd L a.nm = some a := by
  cases h : fnd L a.nm with
  | none => exact absurd ⟨a, ha, rfl⟩ (fnd_none h)
  | some b =>
    obtain ⟨hb, e⟩ := fnd_some h
    rw [hG.one hb ha e]
theorem heap_set {W : World} {b k : Nat} {c : Array Value} {t : TypeId} (h : W.heap[b]? = some (.cells c t)) (v : Value) : (W.setCell ⟨b, k, none⟩ v).heap[b]? = some (.cells (c.setIfInBounds k v) t) := by
  obtain ⟨hlt, hk⟩ := Array.getElem?_eq_some_iff.1 h
  show (W.heap.modify b _)[b]? = _
  rw [Array.getElem?_eq_getElem (by rw [Array.size_modify]; exact hlt), Array.getElem_modify_self, hk]
  rfl
theorem ChAt.inj {W : World} {d : Nat} {S : Nat → Prop} {L : List Ac} {g : Gh} (h : ChAt W d S L g) {a b : Ac} (ha : a ∈ L) (hb : b ∈ L) (e : g.nd a.nm = g.nd b.nm) : a.nm = b.nm := by
  have h1 := h.name ha
  have h2 := h.name hb
  rw [e, h2] at h1
  injection h1 with h1
  injection h1 with h1
  injection h1 with h1
  have := congrArg Array.toList h1
  simpa using this.symm
open Go Go.Shelf Go.ChangeShapes Go.WideShapes Go.ChangeAt Go.RowKit Go.Maps Go.Sort
set_option linter.unusedVariables false
def kA : Kd Ac := ⟨fun a => [.string (txN a.nm), .int .i64 a.ty, .int .i64 a.dy, .bool a.cl], 4, 55, 139, 40⟩
theorem kA_ok : KdOK kA := kd_ok (fun _ => rfl) (by decide) (fun x u hu => by simp [kA] at hu; rcases hu with rfl | rfl | rfl | rfl <;> rfl) Tryz.underlying55 (z := .agg #[.string ⟨#[]⟩, .int .i64 0, .int .i64 0, .bool false]) (by kernel_rfl) rfl (by decide)
section
variable {α : Type} {K : Kd α}
end
open Go Go.Shelf Go.ChangeShapes Go.WideShapes Go.ChangeAt Go.RowKit Go.Maps Go.Sort
set_option linter.unusedVariables false
attribute [local go_sem] Oper.semAt_some
open Go Go.Shelf Go.ChangeShapes Go.WideShapes Go.ChangeAt Go.RowKit Go.Maps Go.Sort
set_option linter.unusedVariables false
def kP : Kd Nat := ⟨fun b => [ptr b], 1, 256, 263, 8⟩
theorem kP_ok : KdOK kP := kd_ok (fun _ => rfl) (by decide) (fun x u hu => by simp [kP] at hu; subst hu; rfl) Tryz.underlying256 (z := .pointer none) (by kernel_rfl) rfl (by decide)
theorem kP_flat (P : List Nat) : kP.flat P = P.map ptr := by
  unfold Kd.flat kP
  induction P with
  | nil => rfl
  | cons a P ih => simp [ih]
def RowP (w : World) (q : Nat) (P : List Nat) (ex : List Value) : Prop := w.heap[q]? = some (.cells (P.map ptr ++ ex).toArray 263)
theorem RowP.cell {w : World} {q : Nat} {P : List Nat} {ex : List Value} (h : RowP w q P ex) (j : Nat) (v : Value) (hv : (P.map ptr)[j]? = some v) : w.cell? ⟨q, j, none⟩ = some v := by
  refine cell_of h ?_
  have hl := (List.getElem?_eq_some_iff.1 hv).1
  rw [List.getElem?_toArray, List.getElem?_append_left hl]
  exact hv
theorem RowP.isS {w : World} {q : Nat} {P : List Nat} {ex : List Value} (h : RowP w q P ex) {j : Nat} (hj : j < P.length + ex.length) : (w.cell? ⟨q, j, none⟩).isSome = true := by
  have : (P.map ptr ++ ex).toArray[j]? = some ((P.map ptr ++ ex)[j]'(by simpa using hj)) := by rw [List.getElem?_toArray, List.getElem?_eq_getElem (by simpa using hj)]
  rw [cell_of h this]
  rfl
theorem RowP.own {w : World} {q : Nat} {P : List Nat} {ex : List Value} {n c : Nat} (h : RowP w q P ex) (hn : P.length = n) (hc : n + ex.length = c) (hm : c ≤ maxLen) : w.ownsRow 0 kP.e kP.s (.slice (some ⟨q, 0, none⟩) n c) n (kP.flat P) := by
  rw [kP_flat]
  refine ⟨by simp [kP, hn], .inr ⟨q, c, _, rfl, Nat.zero_le _, h, by omega, hm, by simp [kP]; omega, ?_⟩⟩
  show List.take (n * 1) (P.map ptr ++ ex) = P.map ptr
  rw [Nat.mul_one, List.take_left' (by simpa using hn)]
structure InsOut (w : World) (q : Option Nat) (n : Nat) (Q : List Nat) (e : Ending) (w' : World) (q' c' : Nat) (ex' : List Value) : Prop where
  res : e = .returned (.slice (some ⟨q', 0, none⟩) (n + 1) c')
  row : RowP w' q' Q ex'
  cap : n + 1 + ex'.length = c'
  big : c' ≤ maxLen
  new : some q' = q ∨ w.heap.size ≤ q'
  os : w'.os = w.os
  tape : w'.tape = w.tape
  out : w'.output = w.output
  size : w.heap.size ≤ w'.heap.size
  blk : ∀ k, k < w.heap.size → some k ≠ q → w'.heap[k]? = w.heap[k]?
theorem InsOut.drew {w : World} {q : Option Nat} {n : Nat} {Q : List Nat} {e : Ending} {w' : World} {q' c' : Nat} {ex' : List Value} (h : InsOut w q n Q e w' q' c' ex') : InsOut w q n Q e w'.drew q' c' ex' := ⟨h.res, h.row, h.cap, h.big, h.new, h.os, h.tape, h.out, h.size, h.blk⟩
theorem row_split {w : World} {B n c : Nat} {p : Option Addr} {Q : List Nat} (h : w.ownsRow B kP.e kP.s (.slice p n c) n (kP.flat Q)) (hn : Q.length = n) (h0 : 0 < n) : ∃ q ex, p = some ⟨q, 0, none⟩ ∧ RowP w q Q ex ∧ n + ex.length = c ∧ c ≤ maxLen := by
  rcases h.2 with ⟨_, e⟩ | ⟨g, cap, cur, e, _, hh, h3, h4, h5, h6⟩
  · omega
  · injection e with e1 e2 e3
    subst e3
    refine ⟨g, cur.toList.drop n, e1, ?_, ?_, h4⟩
    · show w.heap[g]? = _
      rw [hh]
      have e4 : cur.toList.take n = Q.map ptr := by rw [← kP_flat, ← h6]; simp [kP]
      have e5 : cur = (Q.map ptr ++ cur.toList.drop n).toArray := by rw [← e4, List.take_append_drop]
      rw [← e5]
      rfl
    · have : cur.size = c * 1 := h5
      simp
      omega
set_option maxRecDepth 100000 in
set_option maxHeartbeats 4000000 in
theorem insert_end (w : World) (p : Option Addr) (n c vb nb : Nat) (Pb : List Nat) (hn : Pb.length = n) (hn1 : n ≤ 100) (hr : w.ownsRow 0 kP.e kP.s (.slice p n c) n (kP.flat Pb)) (hv : w.heap[vb]? = some (.cells #[ptr nb] 263)) :
    Calls Tryz.prog 220 #[.slice p n c, .int .i64 n, .slice (some ⟨vb, 0, none⟩) 1 1] w fun e w' => ∃ q' c' ex', InsOut w (p.map (·.block)) n (Pb ++ [nb]) e w' q' c' ex' := by
  have hl : Lies kP w (some ⟨vb, 0, none⟩) [nb] := ⟨(fun h => by cases h), fun k hk => ⟨vb, 0, rfl, (Array.getElem?_eq_some_iff.1 hv).1, fun j u hu => by
    have e : k = 0 := by simp at hk; exact hk
    subst e
    refine cell_of hv ?_
    have : ([ptr nb] : List Value)[j]? = some u := hu
    simpa using this⟩⟩
  obtain ⟨p', c', w', hrun, ho, hb, hk, hat⟩ := run_app kP_ok 256 hr (Nat.zero_le _) (some ⟨vb, 0, none⟩) 1 (fun h => by cases h) hl (by simp; omega)
  obtain ⟨q', ex', e1, h1, h2, h3⟩ := row_split ho (by simp [hn]) (by simp)
  obtain ⟨_, _, _, _, hspot⟩ := row_slice hr
  subst e1
  have hfin : InsOut w (p.map (·.block)) n (Pb ++ [nb]) (.returned (.slice (some ⟨q', 0, none⟩) (n + 1) c')) w' q' c' ex' := by
    have hob : (Value.slice p n c).ownBlock = p.map (·.block) := by cases p <;> rfl
    refine ⟨rfl, h1, h2, h3, ?_, hb.os, hb.tape, hb.output, hb.size, fun k hk1 hk2 => hk k hk1 (by rw [hob]; exact fun e => hk2 e.symm)⟩
    rcases hat with h | h
    · left
      rw [hob] at h
      exact h
    · right
      have : q' = w.heap.size := by simpa [Value.ownBlock] using h
      omega
  have HFIN := hide hfin; have HRUN := hide hrun
  have hle : (n : Int) ≤ (n : Int) := Int.le_refl _
  have hnc : n ≤ c := by
    rcases hr.2 with ⟨e, e2⟩ | ⟨_, _, _, e, _, _, h, _⟩
    · omega
    · injection e with _ _ e3; omega
  clear hfin hrun ho hb hk hat h1 h2 h3 hl hr hspot
  by_cases hcn : c = n
  · go_enter Tryz.func220, Tryz.ntmps220
    go_wp2_with (at_builtin; refine wpList_append_run rfl _ _ 256 rfl _ _ _ _ rfl rfl (unhide HRUN) ?_)
    go_ret
    exact ⟨_, _, _, unhide HFIN⟩
  · go_enter Tryz.func220, Tryz.ntmps220
    go_wp2_with (at_builtin; refine wpList_append_run rfl _ _ 256 rfl _ _ _ _ rfl rfl (unhide HRUN) ?_)
    go_ret
    exact ⟨_, _, _, unhide HFIN⟩
theorem heap_setCells {b : Nat} {t : TypeId} : ∀ (vs : List Value) (o : Nat) (W : World) (c : Array Value), W.heap[b]? = some (.cells c t) → o + vs.length ≤ c.size → ∃ c', (W.setCells b o vs).heap[b]? = some (.cells c' t) ∧ c'.size = c.size ∧ ∀ j, c'[j]? = if o ≤ j ∧ j < o + vs.length then vs[j - o]? else c[j]?
  | [], o, W, c, h, hl => ⟨c, h, rfl, fun j => by rw [if_neg (by simp)]⟩
  | v :: r, o, W, c, h, hl => by
    have hl' : o + (r.length + 1) ≤ c.size := hl
    obtain ⟨c', h1, h2, h3⟩ := heap_setCells r (o + 1) (W.setCell ⟨b, o, none⟩ v) (c.setIfInBounds o v) (heap_set h v) (by simp; omega)
    refine ⟨c', h1, by rw [h2]; simp, fun j => ?_⟩
    rw [h3 j]
    by_cases e : j = o
    · subst e
      rw [if_neg (by omega), if_pos (by simp), Nat.sub_self, Array.getElem?_setIfInBounds_self_of_lt (by omega)]
      rfl
    · by_cases hin : o + 1 ≤ j ∧ j < o + 1 + r.length
      · rw [if_pos hin, if_pos (by simp; omega), show j - o = (j - (o + 1)) + 1 by omega]
        rfl
      · rw [if_neg hin, if_neg (by simp; omega), Array.getElem?_setIfInBounds_ne (by omega)]
theorem heap_setCells_ne {b k : Nat} (hk : k ≠ b) : ∀ (vs : List Value) (o : Nat) (W : World), (W.setCells b o vs).heap[k]? = W.heap[k]?
  | [], o, W => rfl
  | v :: r, o, W => by
    show ((W.setCell ⟨b, o, none⟩ v).setCells b (o + 1) r).heap[k]? = _
    rw [heap_setCells_ne hk r]
    exact Below.heap_setCell _ _ _ _ hk
theorem size_setCells {b : Nat} : ∀ (vs : List Value) (o : Nat) (W : World), (W.setCells b o vs).heap.size = W.heap.size
  | [], o, W => rfl
  | v :: r, o, W => by
    show ((W.setCell ⟨b, o, none⟩ v).setCells b (o + 1) r).heap.size = _
    rw [size_setCells r]
    simp
theorem os_setCells {b : Nat} : ∀ (vs : List Value) (o : Nat) (W : World), (W.setCells b o vs).os = W.os ∧ (W.setCells b o vs).tape = W.tape ∧ (W.setCells b o vs).output = W.output
  | [], o, W => ⟨rfl, rfl, rfl⟩
  | v :: r, o, W => by
    obtain ⟨h1, h2, h3⟩ := os_setCells (b := b) r (o + 1) (W.setCell ⟨b, o, none⟩ v)
    exact ⟨h1, h2, h3⟩
theorem ins_list {P : List Value} {i n : Nat} (hn : P.length = n) (hi : i < n) {v : Value} {c : Array Value} (h1 : ∀ j, j < i → c[j]? = P[j]?) (h2 : c[i]? = some v) (h3 : ∀ j, i < j → j ≤ n → c[j]? = P[j - 1]?) : c = ((P.take i ++ v :: P.drop i) ++ c.toList.drop (n + 1)).toArray := by
  have ht : c.toList.take (n + 1) = P.take i ++ v :: P.drop i := by
    refine List.ext_getElem? (fun j => ?_)
    by_cases hj : j < n + 1
    · rw [List.getElem?_take_of_lt hj, Array.getElem?_toList]
      by_cases hji : j < i
      · rw [h1 j hji, List.getElem?_append_left (by rw [List.length_take]; omega), List.getElem?_take_of_lt hji]
      · rw [List.getElem?_append_right (by rw [List.length_take]; omega), List.length_take, Nat.min_eq_left (by omega)]
        by_cases e : j = i
        · subst e
          rw [h2, Nat.sub_self]
          rfl
        · rw [h3 j (by omega) (by omega), show j - i = (j - i - 1) + 1 by omega, List.getElem?_cons_succ, List.getElem?_drop]
          congr 1
          omega
    · rw [List.getElem?_eq_none (by rw [List.length_take]; omega), List.getElem?_eq_none (by simp; omega)]
  rw [← ht, List.take_append_drop]
theorem RowP.of {w : World} {q i n : Nat} {Pb : List Nat} {nb : Nat} {c : Array Value} (hn : Pb.length = n) (hi : i < n) (hc : w.heap[q]? = some (.cells c 263)) (hl : n + 1 ≤ c.size) (h1 : ∀ j, j < i → c[j]? = (Pb.map ptr)[j]?) (h2 : c[i]? = some (ptr nb)) (h3 : ∀ j, i < j → j ≤ n → c[j]? = (Pb.map ptr)[j - 1]?) :
    RowP w q (Pb.take i ++ nb :: Pb.drop i) (c.toList.drop (n + 1)) ∧ n + 1 + (c.toList.drop (n + 1)).length = c.size := by
  refine ⟨?_, by simp; omega⟩
  have := ins_list (P := Pb.map ptr) (by simpa using hn) hi h1 h2 h3
  rw [RowP, hc]
  congr 2
  refine this.trans ?_
  simp
theorem size63 : (Tryz.prog.info? 263).map (·.size) = some 1 := by kernel_rfl
theorem ptr_one (P : List Nat) : ∀ v ∈ P.map ptr, v.oneCell' = true := fun v hv => by
  obtain ⟨b, _, rfl⟩ := List.mem_map.1 hv
  rfl
theorem wrapI {z : Int} (h1 : -9223372036854775808 ≤ z) (h2 : z ≤ 9223372036854775807) : IntKind.i64.wrap z = z := by rw [IntKind.wrap_i64]; omega
set_option maxRecDepth 100000 in
set_option maxHeartbeats 4000000 in
theorem insert_shift (w : World) (q n c i vb nb : Nat) (Pb : List Nat) (ex : List Value) (hn : Pb.length = n) (hn1 : n ≤ 100) (hi : i < n) (hr : RowP w q Pb ex) (hc : n + ex.length = c) (hcm : c ≤ maxLen) (hroom : n + 1 ≤ c) (hv : w.heap[vb]? = some (.cells #[ptr nb] 263)) (hvq : vb ≠ q) :
    Calls Tryz.prog 220 #[.slice (some ⟨q, 0, none⟩) n c, .int .i64 i, .slice (some ⟨vb, 0, none⟩) 1 1] w fun e w' => ∃ q' c' ex', InsOut w (some q) n (Pb.take i ++ nb :: Pb.drop i) e w' q' c' ex' := by
  have hz2 : ¬ ((i : Int) = (n : Int)) := by omega
  have hcl : (Pb.map ptr).length = n := by simpa using hn
  have hdl : ((Pb.map ptr).drop i).length = n - i := by rw [List.length_drop, hcl]
  have hov : ∀ lb cb, (callFunc 262 #[.slice (some ⟨vb, 0, none⟩) 1 1, .slice (some ⟨q, i + 1, none⟩) lb cb]).run Tryz.prog w = .ok (.value (.bool false)) w := fun lb cb => by
    rw [run_callFunc_extern Tryz.func262 (by kernel_rfl) (by kernel_rfl) (by kernel_rfl) (e := Extern.SlicesOverlaps.overlaps #[256, 256] #[4]) (by kernel_rfl),
      Lib.run_overlaps_apart w 256 4 263 Tryz.underlying256 1 Tryz.sizeOf263 ⟨vb, 0, none⟩ ⟨q, i + 1, none⟩ 1 1 lb cb hvq 263 263 1 (Pb.map ptr ++ ex).toArray.size (by simp [World.shape?, hv]) (by simp [World.shape?, show w.heap[q]? = _ from hr]) (by rw [show (Pb.map ptr ++ ex).toArray.size = c by simp; omega]; omega) (froz_of hv 0) (froz_of hv 1)]
    rfl
  have hcp1 : ∀ ty dc sc, (Builtin.copy_ #[256, 256] ty #[.slice (some ⟨q, i + 1, none⟩) (n - i) dc, .slice (some ⟨q, i, none⟩) (n + 1 - i) sc]).run Tryz.prog w.drew = .ok (goInt ((Pb.map ptr).drop i).length) (w.drew.setCells q (i + 1) ((Pb.map ptr).drop i)) := fun ty dc sc =>
    run_copy_cells w.drew _ _ ty 263 q (i + 1) (n - i) dc ⟨q, i, none⟩ (n + 1 - i) sc ((Pb.map ptr).drop i) Tryz.underlying256 size63 (by rw [hdl]; show n - i = Nat.min (n + 1 - i) (n - i); exact (Nat.min_eq_right (by omega)).symm)
      (fun j v hj => by rw [Addr.add_lit]; exact hr.cell (i + j) v (by rwa [List.getElem?_drop] at hj))
      (fun j hj => hr.isS (by rw [hdl] at hj; omega)) (fun j hj => froz_of (W := w) hr _) (fun v hv2 => ptr_one Pb v (List.mem_of_mem_drop hv2))
  obtain ⟨c1, hc1, hs1, hj1⟩ := heap_setCells ((Pb.map ptr).drop i) (i + 1) w.drew _ hr (by simp; omega)
  obtain ⟨W1, hW1⟩ : ∃ W1, W1 = w.drew.setCells q (i + 1) ((Pb.map ptr).drop i) := ⟨_, rfl⟩
  rw [← hW1] at hc1 hcp1
  have hsz0 : (Pb.map ptr ++ ex).toArray.size = c := by simp; omega
  have hv1 : W1.heap[vb]? = some (.cells #[ptr nb] 263) := by rw [hW1]; exact (heap_setCells_ne hvq _ _ _).trans hv
  have hcp2 : ∀ (W : World), (∀ x, W.cell? x = W1.cell? x) → (∀ x, W.frozen? x = W1.frozen? x) → ∀ ty dc, (Builtin.copy_ #[256, 256] ty #[.slice (some ⟨q, i, none⟩) (n + 1 - i) dc, .slice (some ⟨vb, 0, none⟩) 1 1]).run Tryz.prog W = .ok (goInt ([ptr nb] : List Value).length) (W.setCells q i [ptr nb]) := fun W hWc hWf ty dc =>
    run_copy_cells W _ _ ty 263 q i (n + 1 - i) dc ⟨vb, 0, none⟩ 1 1 [ptr nb] Tryz.underlying256 size63 (by simp only [List.length_cons, List.length_nil, Nat.min_def]; split <;> omega)
      (fun j v hj => by rw [hWc]; have e : j = 0 := by { have := (List.getElem?_eq_some_iff.1 hj).1; simp at this; exact this }; subst e; simp at hj; subst hj; exact cell_of hv1 rfl)
      (fun j hj => by rw [hWc]; have e : j = 0 := by { simp at hj; exact hj }; subst e; rw [cell_of hc1 (v := c1[i]'(by omega)) (by rw [Nat.add_zero]; exact Array.getElem?_eq_getElem (by omega))]; rfl) (fun j hj => by rw [hWf]; exact froz_of hc1 _) (fun v hv2 => by simp at hv2; subst hv2; rfl)
  obtain ⟨c2, hc2, hs2, hj2⟩ := heap_setCells [ptr nb] i W1 c1 hc1 (by simp; omega)
  obtain ⟨hrow, hcap⟩ := RowP.of (w := W1.setCells q i [ptr nb]) (nb := nb) hn hi hc2 (by omega) (fun j hj => by
    rw [hj2, if_neg (by simp; omega), hj1, if_neg (by omega), List.getElem?_toArray, List.getElem?_append_left (by omega)]) (by
    rw [hj2, if_pos (by simp), Nat.sub_self]; rfl) (fun j h1 h2 => by
    rw [hj2, if_neg (by simp; omega), hj1, if_pos (by omega), List.getElem?_drop]; congr 1; omega)
  have hw1 : IntKind.i64.wrap ((i : Int) + 1) = (i : Int) + 1 := wrapI (by omega) (by omega)
  have hw2 : IntKind.i64.wrap ((n : Int) + 1) = (n : Int) + 1 := wrapI (by omega) (by omega)
  have hfin : InsOut w (some q) n (Pb.take i ++ nb :: Pb.drop i) (.returned (.slice (some ⟨q, 0, none⟩) (n + 1) c)) (W1.setCells q i [ptr nb]) q c (c2.toList.drop (n + 1)) := by
    obtain ⟨o1, o2, o3⟩ := os_setCells (b := q) [ptr nb] i W1
    obtain ⟨p1, p2, p3⟩ := os_setCells (b := q) ((Pb.map ptr).drop i) (i + 1) w.drew
    rw [← hW1] at p1 p2 p3
    refine ⟨rfl, hrow, by omega, hcm, .inl rfl, o1.trans p1, o2.trans p2, o3.trans p3, by rw [size_setCells, hW1, size_setCells]; exact Nat.le_refl _, fun k hk hkq => ?_⟩
    have hkq' : k ≠ q := fun e => hkq (by rw [e])
    rw [heap_setCells_ne hkq', hW1, heap_setCells_ne hkq']
    rfl
  have HFIN := hide hfin
  have hb2 : ¬ (c = i + 1) := by omega
  have hb3 : (i : Int) ≤ (n : Int) + 1 := by omega
  have hb4 : ¬ (c = i) := by omega
  have hb5 : (0 : Int) ≤ (i : Int) + 1 := by omega
  have hb6 : ¬ ((c : Int) < (n : Int) + 1) := by omega
  have htn : ((i : Int) + 1).toNat = i + 1 := by omega
  have hin : i ≤ n := by omega
  have hcm' : (c : Int) ≤ 9223372036854775807 := by unfold maxLen at hcm; omega
  have hmx : Tryz.prog.follows .mixedOrders = true := by kernel_rfl
  clear hfin hrow hcap hj2 hs2 hc2 hj1 hs1 hc1 hv1 hdl hcl hsz0
  go_enter Tryz.func220, Tryz.ntmps220
  go_wp2_with (simp only [hov])
  go_region_law_o (refine step_copy_runI rfl _ _ 256 256 rfl _ _ (by simp [Act.eval, Act.put]) (by simp [Act.eval, Act.put]) (hcp1 _ _ _) ?_)
  go_wp2_with (at_builtin; refine wpList_copy_runI _ rfl _ _ 256 256 rfl _ _ rfl rfl (hcp2 _ (fun _ => rfl) (fun _ => rfl) _ _) ?_)
  go_ret
  have hfin := unhide HFIN
  rw [hW1] at hfin
  exact ⟨_, _, _, hfin⟩
set_option maxRecDepth 100000 in
set_option maxHeartbeats 4000000 in
theorem insert_grow (w : World) (q n c i vb nb : Nat) (Pb : List Nat) (ex : List Value) (hn : Pb.length = n) (hn1 : n ≤ 100) (hi : i < n) (hr : RowP w q Pb ex) (hc : n + ex.length = c) (hroom : c < n + 1) (hv : w.heap[vb]? = some (.cells #[ptr nb] 263)) (hvq : vb ≠ q) :
    Calls Tryz.prog 220 #[.slice (some ⟨q, 0, none⟩) n c, .int .i64 i, .slice (some ⟨vb, 0, none⟩) 1 1] w fun e w' => ∃ q' c' ex', InsOut w (some q) n (Pb.take i ++ nb :: Pb.drop i) e w' q' c' ex' := by
  obtain ⟨i0, hi0, hz0, hzs, hzb⟩ := info_parts (z := .pointer none) (a := 1) (b := 8) (t := 263) (by kernel_rfl)
  have hz2 : ¬ ((i : Int) = (n : Int)) := by omega
  have hz3 : (c : Int) < (n : Int) + 1 := by omega
  have hcl : (Pb.map ptr).length = n := by simpa using hn
  have hdl : ((Pb.map ptr).drop i).length = n - i := by rw [List.length_drop, hcl]
  have hqw : q < w.heap.size := (Array.getElem?_eq_some_iff.1 hr).1
  have hvw : vb < w.heap.size := (Array.getElem?_eq_some_iff.1 hv).1
  have hkk : (n : Int) + 1 - (i : Int) = ((n + 1 - i : Nat) : Int) := by omega
  have hik : i + (n + 1 - i) = n + 1 := by omega
  have hold : (Builtin.firstCells i0.size i (.slice (some ⟨q, 0, none⟩) i c)).run Tryz.prog w.drew = .ok ((Pb.map ptr).take i).toArray w.drew := by
    rw [hzs]
    exact run_firstCells_some w.drew 1 i ⟨q, 0, none⟩ i c ((Pb.map ptr).take i) (by rw [List.length_take]; omega) (fun j v hj => by
      rw [Addr.add_lit, Nat.zero_add]
      rw [List.getElem?_take] at hj
      split at hj
      · exact hr.cell j v hj
      · cases hj)
  obtain ⟨G, hG⟩ : ∃ G, G = grownCap w (n + 1) c 263 := ⟨_, rfl⟩
  obtain ⟨ROW, hROW⟩ : ∃ ROW : Array Value, ROW = ((Pb.map ptr).take i).toArray ++ Builtin.zeroCells (Value.pointer none).cells (n + 1 - i) ++ Builtin.zeroCells (Value.pointer none).cells (G - (n + 1)) := ⟨_, rfl⟩
  have hrz : ∀ ty, (Builtin.append_ #[256, 3] ty #[.slice (some ⟨q, 0, none⟩) i c, .int .i64 ((n : Int) + 1 - (i : Int))]).run Tryz.prog w = .ok (.slice (some ⟨w.heap.size, 0, none⟩) (n + 1) G) (w.drew.alloc (.cells ROW 263)) := fun ty => by
    have h := Lib.run_append_grow_zeros w 256 3 ty 263 i0 _ .i64 .i64 Tryz.underlying256 Tryz.underlying3 hi0 hz0 (some ⟨q, 0, none⟩) i c ((Pb.map ptr).take i) hold (n + 1 - i) (by omega) (by omega) (by omega) (by omega) (by rw [hzb]; omega) (by rw [hzb, hik]; exact growslice_fits (by omega) (by omega))
    rw [hik, ← hG] at h
    rw [hkk, h, hROW]
  have hGn : n + 1 ≤ G := by rw [hG]; exact grownCap_ge w _ _ _
  have hGm : G ≤ maxLen := by rw [hG]; exact grownCap_le_maxLen w (n + 1) c 263 (by unfold maxLen; omega)
  have hRs : ROW.size = G := by
    rw [hROW]
    simp [Builtin.zeroCells, Value.cells]
    omega
  have hR1 : ∀ j, j < i → ROW[j]? = (Pb.map ptr)[j]? := fun j hj => by
    rw [hROW, Array.append_assoc, Array.getElem?_append_left (by simp; omega), List.getElem?_toArray, List.getElem?_take_of_lt hj]
  obtain ⟨W1, hW1⟩ : ∃ W1, W1 = w.drew.alloc (.cells ROW 263) := ⟨_, rfl⟩
  have hN : W1.heap[w.heap.size]? = some (.cells ROW 263) := by rw [hW1]; exact World.alloc_heap_new w.drew _
  have hO : ∀ k, k < w.heap.size → W1.heap[k]? = w.heap[k]? := fun k hk => by rw [hW1]; exact Below.heap_alloc w.drew _ _ hk
  have hv1 := (hO vb hvw).trans hv
  have hr1 : RowP W1 q Pb ex := (hO q hqw).trans hr
  have hcpA : ∀ (W : World), (∀ x, W.cell? x = W1.cell? x) → (∀ x, W.frozen? x = W1.frozen? x) → ∀ ty dc, (Builtin.copy_ #[256, 256] ty #[.slice (some ⟨w.heap.size, i, none⟩) (n + 1 - i) dc, .slice (some ⟨vb, 0, none⟩) 1 1]).run Tryz.prog W = .ok (goInt ([ptr nb] : List Value).length) (W.setCells w.heap.size i [ptr nb]) := fun W hWc hWf ty dc =>
    run_copy_cells W _ _ ty 263 w.heap.size i (n + 1 - i) dc ⟨vb, 0, none⟩ 1 1 [ptr nb] Tryz.underlying256 size63 (by simp only [List.length_cons, List.length_nil, Nat.min_def]; split <;> omega)
      (fun j v hj => by rw [hWc]; have e : j = 0 := by { have := (List.getElem?_eq_some_iff.1 hj).1; simp at this; exact this }; subst e; simp at hj; subst hj; exact cell_of hv1 rfl)
      (fun j hj => by rw [hWc]; have e : j = 0 := by { simp at hj; exact hj }; subst e; rw [cell_of hN (v := ROW[i]'(by omega)) (by rw [Nat.add_zero]; exact Array.getElem?_eq_getElem (by omega))]; rfl) (fun j hj => by rw [hWf]; exact froz_of hN _) (fun v hv2 => by simp at hv2; subst hv2; rfl)
  obtain ⟨c1, hc1, hs1, hj1⟩ := heap_setCells [ptr nb] i W1 ROW hN (by simp; omega)
  have hqN : q ≠ w.heap.size := by omega
  have hr2 : RowP (W1.setCells w.heap.size i [ptr nb]) q Pb ex := (heap_setCells_ne hqN _ _ _).trans hr1
  have hcpB : ∀ (W : World), (∀ x, W.cell? x = (W1.setCells w.heap.size i [ptr nb]).cell? x) → (∀ x, W.frozen? x = (W1.setCells w.heap.size i [ptr nb]).frozen? x) → ∀ ty dc sc, (Builtin.copy_ #[256, 256] ty #[.slice (some ⟨w.heap.size, i + 1, none⟩) (n - i) dc, .slice (some ⟨q, i, none⟩) (n - i) sc]).run Tryz.prog W = .ok (goInt ((Pb.map ptr).drop i).length) (W.setCells w.heap.size (i + 1) ((Pb.map ptr).drop i)) := fun W hWc hWf ty dc sc =>
    run_copy_cells W _ _ ty 263 w.heap.size (i + 1) (n - i) dc ⟨q, i, none⟩ (n - i) sc ((Pb.map ptr).drop i) Tryz.underlying256 size63 (by rw [hdl]; exact (Nat.min_self _).symm)
      (fun j v hj => by rw [Addr.add_lit, hWc]; exact hr2.cell (i + j) v (by rwa [List.getElem?_drop] at hj))
      (fun j hj => by rw [hWc]; rw [hdl] at hj; rw [cell_of hc1 (v := c1[i + 1 + j]'(by omega)) (Array.getElem?_eq_getElem (by omega))]; rfl)
      (fun j hj => by rw [hWf]; exact froz_of hc1 _) (fun v hv2 => ptr_one Pb v (List.mem_of_mem_drop hv2))
  obtain ⟨c2, hc2, hs2, hj2⟩ := heap_setCells ((Pb.map ptr).drop i) (i + 1) (W1.setCells w.heap.size i [ptr nb]) c1 hc1 (by rw [hdl]; omega)
  obtain ⟨hrow, hcap⟩ := RowP.of (w := (W1.setCells w.heap.size i [ptr nb]).setCells w.heap.size (i + 1) ((Pb.map ptr).drop i)) (nb := nb) hn hi hc2 (by omega) (fun j hj => by
    rw [hj2, if_neg (by omega), hj1, if_neg (by omega)]; exact hR1 j hj) (by
    rw [hj2, if_neg (by omega), hj1, if_pos (by simp), Nat.sub_self]; rfl) (fun j h1 h2 => by
    rw [hj2, if_pos (by rw [hdl]; omega), List.getElem?_drop]; congr 1; omega)
  have hfin : InsOut w (some q) n (Pb.take i ++ nb :: Pb.drop i) (.returned (.slice (some ⟨w.heap.size, 0, none⟩) (n + 1) G)) ((W1.setCells w.heap.size i [ptr nb]).setCells w.heap.size (i + 1) ((Pb.map ptr).drop i)) w.heap.size G (c2.toList.drop (n + 1)) := by
    obtain ⟨o1, o2, o3⟩ := os_setCells (b := w.heap.size) ((Pb.map ptr).drop i) (i + 1) (W1.setCells w.heap.size i [ptr nb])
    obtain ⟨p1, p2, p3⟩ := os_setCells (b := w.heap.size) [ptr nb] i W1
    refine ⟨rfl, hrow, by omega, hGm, .inr (Nat.le_refl _), (o1.trans p1).trans (by rw [hW1]; rfl), (o2.trans p2).trans (by rw [hW1]; rfl), (o3.trans p3).trans (by rw [hW1]; rfl), by rw [size_setCells, size_setCells, hW1, World.size_alloc]; show w.heap.size ≤ w.heap.size + 1; omega, fun k hk hkq => ?_⟩
    rw [heap_setCells_ne (by omega), heap_setCells_ne (by omega)]
    exact hO k hk
  have HFIN := hide hfin
  have hw1 : IntKind.i64.wrap ((i : Int) + 1) = (i : Int) + 1 := wrapI (by omega) (by omega)
  have hw2 : IntKind.i64.wrap ((n : Int) + 1) = (n : Int) + 1 := wrapI (by omega) (by omega)
  have hw3 : IntKind.i64.wrap ((n : Int) + 1 - (i : Int)) = (n : Int) + 1 - (i : Int) := wrapI (by omega) (by omega)
  have hGi : ¬ (G = i) := by omega
  have hGim : ¬ (G = i + 1) := by omega
  have hci : ¬ (c = i) := by omega
  have hb1 : (0 : Int) ≤ (i : Int) + 1 := by omega
  have hin : i ≤ n := by omega
  have htn : ((i : Int) + 1).toNat = i + 1 := by omega
  have hb3 : (i : Int) ≤ (n : Int) := by omega
  have hGm' : G ≤ 9223372036854775807 := by unfold maxLen at hGm; omega
  have hmx : Tryz.prog.follows .mixedOrders = true := by kernel_rfl
  rw [← hW1] at hrz
  subst hW1
  have hE1 : ∀ x, ((w.alloc (.cells ROW 263)).drew).cell? x = (w.drew.alloc (.cells ROW 263)).cell? x := fun x => rfl
  have hE2 : ∀ x, ((w.alloc (.cells ROW 263)).drew).frozen? x = (w.drew.alloc (.cells ROW 263)).frozen? x := fun x => rfl
  have hF1 : ∀ x, (((w.alloc (.cells ROW 263)).drew.setCells w.heap.size i [ptr nb]).drew).cell? x = ((w.drew.alloc (.cells ROW 263)).setCells w.heap.size i [ptr nb]).cell? x := fun x => rfl
  have hF2 : ∀ x, (((w.alloc (.cells ROW 263)).drew.setCells w.heap.size i [ptr nb]).drew).frozen? x = ((w.drew.alloc (.cells ROW 263)).setCells w.heap.size i [ptr nb]).frozen? x := fun x => rfl
  clear hfin hrow hcap hj2 hs2 hc2 hj1 hs1 hc1 hv1 hdl hcl hr2 hr1 hN hO hROW hRs hR1 hold hkk hik hG
  go_enter Tryz.func220, Tryz.ntmps220
  go_wp2_with (first
    | (at_builtin; refine Lib.wpList_append_run _ rfl _ _ _ _ rfl _ _ rfl rfl _ _ (hrz _) ?_)
    | (at_builtin; refine wpList_copy_runI _ rfl _ _ 256 256 rfl _ _ rfl rfl (hcpA _ hE1 hE2 _ _) ?_))
  go_region_law_o (refine step_copy_runI rfl _ _ 256 256 rfl _ _ (by simp [Act.eval, Act.put]) (by simp [Act.eval, Act.put]) (hcpB _ hF1 hF2 3 (G - (i + 1)) (c - i)) ?_)
  go_wp2
  go_ret
  have hfin := (unhide HFIN).drew
  rw [drew_setCells] at hfin
  exact ⟨_, _, _, hfin⟩
open Go Go.Shelf Go.ChangeShapes Go.WideShapes Go.ChangeAt Go.RowKit Go.Maps Go.Sort
set_option linter.unusedVariables false
def insA (L : List Ac) (a : Ac) : List Ac := (L.filter fun b => decide (b.nm < a.nm)) ++ a :: (L.filter fun b => decide (a.nm < b.nm))
theorem mem_insA {L : List Ac} {a : Ac} (hn : ¬ ∃ b ∈ L, b.nm = a.nm) {b : Ac} : b ∈ insA L a ↔ b = a ∨ b ∈ L := by
  simp only [insA, List.mem_append, List.mem_filter, List.mem_cons, decide_eq_true_eq]
  constructor
  · rintro (⟨h, _⟩ | rfl | ⟨h, _⟩)
    · exact .inr h
    · exact .inl rfl
    · exact .inr h
  · rintro (rfl | h)
    · exact .inr (.inl rfl)
    · by_cases h1 : b.nm < a.nm
      · exact .inl ⟨h, h1⟩
      · by_cases h2 : a.nm < b.nm
        · exact .inr (.inr ⟨h, h2⟩)
        · exact absurd ⟨b, h, slt_tri h1 h2⟩ hn
theorem split_at {K : List Nm} (hK : K.Pairwise (· < ·)) {x : Nm} (hx : x ∉ K) : K.filter (fun y => decide (y < x)) = K.take (posK K x) ∧ K.filter (fun y => decide (x < y)) = K.drop (posK K x) := by
  unfold posK
  induction K with
  | nil => simp
  | cons k K ih =>
    rw [List.pairwise_cons] at hK
    obtain ⟨i1, i2⟩ := ih hK.2 (fun h => hx (List.mem_cons_of_mem _ h))
    by_cases h1 : k < x
    · have h2 : ¬ x < k := fun h => slt_irrefl _ (slt_trans h h1)
      rw [List.filter_cons_of_pos (by simpa using h1), List.filter_cons_of_neg (by simpa using h2), List.countP_cons_of_pos (by simpa using h1), i1, i2]
      exact ⟨rfl, rfl⟩
    · have h2 : x < k := by
        by_cases h2 : x < k
        · exact h2
        · exact absurd (by rw [slt_tri h1 h2]; exact List.mem_cons_self ..) hx
      have h3 : ∀ y ∈ K, ¬ y < x := fun y hy h => slt_irrefl _ (slt_trans h2 (slt_trans (hK.1 y hy) h))
      have h4 : ∀ y ∈ K, x < y := fun y hy => slt_trans h2 (hK.1 y hy)
      have c0 : List.countP (fun y => decide (y < x)) (k :: K) = 0 := by
        rw [List.countP_eq_zero]
        intro y hy
        rcases List.mem_cons.1 hy with rfl | hy
        · simpa using h1
        · simpa using h3 y hy
      rw [c0]
      refine ⟨?_, ?_⟩
      · rw [List.take_zero, List.filter_eq_nil_iff]
        intro y hy
        rcases List.mem_cons.1 hy with rfl | hy
        · simpa using h1
        · simpa using h3 y hy
      · rw [List.drop_zero, List.filter_eq_self]
        intro y hy
        rcases List.mem_cons.1 hy with rfl | hy
        · simpa using h2
        · simpa using h4 y hy
theorem kids_ins {L : List Ac} (hG : Good L) {a : Ac} (hn : ¬ ∃ b ∈ L, b.nm = a.nm) (x : Nm) :
    kids (insA L a) x = if par a.nm = x then (kids L x).take (posK (kids L x) a.nm) ++ a.nm :: (kids L x).drop (posK (kids L x) a.nm) else kids L x := by
  have hnk : a.nm ∉ kids L x := fun h => by
    obtain ⟨⟨b, hb, e⟩, _⟩ := mem_kids.1 h
    exact hn ⟨b, hb, e⟩
  obtain ⟨s1, s2⟩ := split_at (hG.kids_rise x) hnk
  have f1 : ∀ (q : Nm → Bool), ((L.filter fun b => q b.nm).filter fun b => decide (par b.nm = x)).map (·.nm) = (kids L x).filter q := fun q => by
    rw [kids, List.filter_map, List.filter_filter, List.filter_filter]
    congr 2
    funext b
    simp only [Function.comp]
    exact Bool.and_comm _ _
  have e1 : kids (insA L a) x = (kids L x).filter (fun y => decide (y < a.nm)) ++ ((([a].filter fun b => decide (par b.nm = x)).map (·.nm)) ++ (kids L x).filter (fun y => decide (a.nm < y))) := by
    rw [← f1 (fun y => decide (y < a.nm)), ← f1 (fun y => decide (a.nm < y)), ← List.map_append, ← List.map_append, ← List.filter_append, ← List.filter_append]
    rfl
  rw [e1, s1, s2]
  by_cases hp : par a.nm = x
  · rw [if_pos hp, List.filter_cons_of_pos (by simpa using hp)]
    rfl
  · rw [if_neg hp, List.filter_cons_of_neg (by simpa using hp)]
    show List.take _ _ ++ ([] ++ List.drop _ _) = _
    rw [List.nil_append, List.take_append_drop]
structure Fits (L : List Ac) (a : Ac) : Prop where
  new : ¬ ∃ b ∈ L, b.nm = a.nm
  nam : nameL a.nm = true
  day : 1 ≤ a.dy ∧ a.dy ≤ 3652059
  typ : 1 ≤ a.ty ∧ a.ty ≤ 5
  up : ∀ p t, ups a.nm = p :: t → ∃ b ∈ L, b.nm = p ∧ b.ty = a.ty ∧ b.dy ≤ a.dy ∧ (b.cl = true → a.cl = true)
  len : L.length < 100
theorem ins_len {L : List Ac} {a : Ac} (hr : L.Pairwise fun a b => a.nm < b.nm) (hn : ¬ ∃ b ∈ L, b.nm = a.nm) : (insA L a).length = L.length + 1 := by
  have h1 : (L.filter fun b => decide (b.nm < a.nm)).length + (L.filter fun b => decide (a.nm < b.nm)).length = L.length := by
    clear hr
    induction L with
    | nil => rfl
    | cons b L ih =>
      have ih' := ih (fun ⟨c, hc, e⟩ => hn ⟨c, List.mem_cons_of_mem _ hc, e⟩)
      by_cases h1 : b.nm < a.nm
      · have h2 : ¬ a.nm < b.nm := fun h => slt_irrefl _ (slt_trans h h1)
        rw [List.filter_cons_of_pos (by simpa using h1), List.filter_cons_of_neg (by simpa using h2)]
        simp
        omega
      · have h2 : a.nm < b.nm := by
          by_cases h2 : a.nm < b.nm
          · exact h2
          · exact absurd ⟨b, List.mem_cons_self .., slt_tri h1 h2⟩ hn
        rw [List.filter_cons_of_neg (by simpa using h1), List.filter_cons_of_pos (by simpa using h2)]
        simp
        omega
  simp [insA]
  omega
theorem Good.ins {L : List Ac} (h : Good L) {a : Ac} (ha : Fits L a) : Good (insA L a) := by
  refine ⟨?_, fun b hb => ?_, fun b hb p t e => ?_, fun b hb => ?_, fun b hb => ?_, by rw [ins_len h.rise ha.new]; exact ha.len⟩
  · unfold insA
    rw [List.pairwise_append, List.pairwise_cons]
    refine ⟨h.rise.filter _, ⟨fun b hb => ?_, h.rise.filter _⟩, fun b hb c hc => ?_⟩
    · simpa using (List.mem_filter.1 hb).2
    · have h1 : b.nm < a.nm := by simpa using (List.mem_filter.1 hb).2
      rcases List.mem_cons.1 hc with rfl | hc
      · exact h1
      · exact slt_trans h1 (by simpa using (List.mem_filter.1 hc).2)
  · rcases (mem_insA ha.new).1 hb with rfl | hb
    · exact ha.nam
    · exact h.name b hb
  · rcases (mem_insA ha.new).1 hb with rfl | hb
    · obtain ⟨c, hc, h2⟩ := ha.up p t e
      exact ⟨c, (mem_insA ha.new).2 (.inr hc), h2⟩
    · obtain ⟨c, hc, h2⟩ := h.up b hb p t e
      exact ⟨c, (mem_insA ha.new).2 (.inr hc), h2⟩
  · rcases (mem_insA ha.new).1 hb with rfl | hb
    · exact ha.day
    · exact h.day b hb
  · rcases (mem_insA ha.new).1 hb with rfl | hb
    · exact ha.typ
    · exact h.typ b hb
theorem isN_par {L : List Ac} {a : Ac} (ha : Fits L a) : isN L (par a.nm) := by
  rcases ups_cases a.nm with e | ⟨p, e, _⟩
  · left; rw [par, e]; rfl
  · right
    obtain ⟨b, hb, e2, _⟩ := ha.up p _ e
    exact ⟨b, hb, by rw [par, e]; exact e2⟩
theorem isN_ins {L : List Ac} {a : Ac} (hn : ¬ ∃ b ∈ L, b.nm = a.nm) {x : Nm} : isN (insA L a) x ↔ x = a.nm ∨ isN L x := by
  unfold isN
  constructor
  · rintro (h | ⟨b, hb, rfl⟩)
    · exact .inr (.inl h)
    · rcases (mem_insA hn).1 hb with rfl | hb
      · exact .inl rfl
      · exact .inr (.inr ⟨b, hb, rfl⟩)
  · rintro (rfl | h | ⟨b, hb, rfl⟩)
    · exact .inr ⟨a, (mem_insA hn).2 (.inl rfl), rfl⟩
    · exact .inl h
    · exact .inr ⟨b, (mem_insA hn).2 (.inr hb), rfl⟩
theorem kids_new {L : List Ac} (hG : Good L) {a : Ac} (ha : Fits L a) : kids L a.nm = [] := by
  cases e : kids L a.nm with
  | nil => rfl
  | cons y t =>
    exfalso
    obtain ⟨⟨b, hb, hby⟩, hp⟩ := mem_kids.1 (show y ∈ kids L a.nm by rw [e]; exact List.mem_cons_self ..)
    subst hby
    rcases ups_cases b.nm with e2 | ⟨p, e2, _⟩
    · rw [par, e2] at hp
      exact name_ne ha.nam hp.symm
    · obtain ⟨c, hc, hcp, _⟩ := hG.up b hb p _ e2
      rw [par, e2] at hp
      have hp' : p = a.nm := hp
      exact ha.new ⟨c, hc, hcp.trans hp'⟩
theorem par_self {a : Ac} (h : nameL a.nm = true) : par a.nm ≠ a.nm := fun e => by
  have := par_lt (name_ne h)
  rw [e] at this
  omega
theorem ptr_inj {a b : Nat} (h : ptr a = ptr b) : a = b := by
  injection h with h
  injection h with h
  injection h with h
theorem ChAt.row_inj {W : World} {d : Nat} {S : Nat → Prop} {L : List Ac} {g : Gh} (h : ChAt W d S L g) {x y : Nm} {q : Nat} (hx : isN L x) (hy : isN L y) (ex : g.kb x = some q) (ey : g.kb y = some q) : x = y := by
  have key : ∀ z, isN L z → g.kb z = some q → ∃ k t, kids L z = k :: t ∧ W.cell? ⟨q, 0, none⟩ = some (ptr (g.nd k)) := fun z hz ez => by
    rcases h.row z hz with ⟨_, h2, _⟩ | ⟨q2, h1, h2, h3, h4, _⟩
    · rw [ez] at h2; cases h2
    · rw [ez] at h1
      injection h1 with h1
      subst h1
      cases e : kids L z with
      | nil => exact absurd e h4
      | cons k t =>
        refine ⟨k, t, rfl, cell_of h2 ?_⟩
        rw [rowA, e]
        simp
  obtain ⟨k, t, e1, c1⟩ := key x hx ex
  obtain ⟨k', t', e2, c2⟩ := key y hy ey
  rw [c1] at c2
  injection c2 with c2
  have hk : k ∈ kids L x := by rw [e1]; exact List.mem_cons_self ..
  have hk' : k' ∈ kids L y := by rw [e2]; exact List.mem_cons_self ..
  obtain ⟨⟨a, ha, rfl⟩, p1⟩ := mem_kids.1 hk
  obtain ⟨⟨b, hb, rfl⟩, p2⟩ := mem_kids.1 hk'
  have := h.inj ha hb (ptr_inj c2)
  rw [← p1, ← p2, this]
def insG (g : Gh) (a : Nm) (p : Nm) (nb q' c' : Nat) (ex' : List Value) : Gh :=
  ⟨fun y => if y = a then nb else g.nd y, fun y => if y = p then some q' else if y = a then none else g.kb y, fun y => if y = p then c' else if y = a then 0 else g.kc y, fun y => if y = p then ex' else if y = a then [] else g.ex y⟩
theorem ChAt.ins {W W' : World} {d : Nat} {S : Nat → Prop} {L : List Ac} {g : Gh} {a : Ac} {p : Nm} {nb q' c' i : Nat} {ex' : List Value} (h : ChAt W d S L g) (hG : Good L) (ha : Fits L a) (hp : par a.nm = p) (hi : i = posK (kids L p) a.nm)
    (hnb : W'.heap[nb]? = some (.cells (cellsA a (.slice none 0 0)) 258))
    (hrow : RowP W' q' (((kids L p).map g.nd).take i ++ nb :: ((kids L p).map g.nd).drop i) ex') (hcap : (kids L p).length + 1 + ex'.length = c') (hbig : c' ≤ maxLen)
    (hpar : ∀ arr t, W.heap[g.nd p]? = some (.cells arr t) → W'.heap[g.nd p]? = some (.cells (arr.setIfInBounds 4 (.slice (some ⟨q', 0, none⟩) ((kids L p).length + 1) c')) t))
    (hoth : ∀ k, S k → k ≠ g.nd p → g.kb p ≠ some k → W'.heap[k]? = W.heap[k]?) :
    ChAt W' d (fun k => S k ∨ k = nb ∨ k = q') (insA L a) (insG g a.nm p nb q' c' ex') := by
  have h0 : a.nm ≠ [] := name_ne ha.nam
  have hpN : isN L p := by rw [← hp]; exact isN_par ha
  have hpa : p ≠ a.nm := by rw [← hp]; exact par_self ha.nam
  have hap : ¬ a.nm = p := fun e => hpa e.symm
  have kp : kids (insA L a) p = (kids L p).take i ++ a.nm :: (kids L p).drop i := by rw [kids_ins hG ha.new, if_pos hp, hi]
  have ko : ∀ x, x ≠ p → kids (insA L a) x = kids L x := fun x hx => by rw [kids_ins hG ha.new, if_neg (fun e => hx (e.symm.trans hp))]
  have kpl : (kids (insA L a) p).length = (kids L p).length + 1 := by
    rw [kp]
    simp
    have := posK_le (kids L p) a.nm
    omega
  have ka : kids (insA L a) a.nm = [] := by rw [ko _ (fun e => hpa e.symm)]; exact kids_new hG ha
  have sp : ksl (insG g a.nm p nb q' c' ex') (insA L a) p = .slice (some ⟨q', 0, none⟩) ((kids L p).length + 1) c' := by
    rw [ksl, kpl]
    simp [insG]
  have so : ∀ x, x ≠ p → x ≠ a.nm → ksl (insG g a.nm p nb q' c' ex') (insA L a) x = ksl g L x := fun x h1 h2 => by
    rw [ksl, ksl, ko x h1]
    simp [insG, h1, h2]
  have sa : ksl (insG g a.nm p nb q' c' ex') (insA L a) a.nm = .slice none 0 0 := by
    rw [ksl, ka]
    simp [insG, hap]
  have rowT : ∀ {x : Nm} {q : Nat}, isN L x → g.kb x = some q → ∃ c, W.heap[q]? = some (Obj.cells c 263) := fun {x q} hx e => by
    rcases h.row x hx with ⟨_, h2, _⟩ | ⟨q2, h1, h2, _⟩
    · rw [e] at h2; cases h2
    · rw [e] at h1
      injection h1 with h1
      subst h1
      exact ⟨_, h2⟩
  have typ : ∀ {k : Nat} {c c2 : Array Value} {t t2 : TypeId}, W.heap[k]? = some (Obj.cells c t) → W.heap[k]? = some (Obj.cells c2 t2) → t = t2 := fun h1 h2 => by
    rw [h1] at h2
    injection h2 with h2
    injection h2
  have noK : ∀ {x : Nm} {q : Nat}, isN L x → g.kb x = some q → ∀ {c : Array Value} {t : TypeId}, W.heap[q]? = some (Obj.cells c t) → t = 263 := fun {x q} hx e {c t} hc => by
    obtain ⟨c2, h2⟩ := rowT hx e
    exact typ hc h2
  have nodeP : p = [] ∨ ∃ b ∈ L, b.nm = p ∧ W.heap[g.nd p]? = some (.cells (cellsA b (ksl g L b.nm)) 258) := by
    rcases hpN with e | ⟨b, hb, e⟩
    · exact .inl e
    · exact .inr ⟨b, hb, e, by rw [← e]; exact h.node b hb⟩
  have ndO : ∀ x, x ≠ a.nm → (insG g a.nm p nb q' c' ex').nd x = g.nd x := fun x hx => by simp [insG, hx]
  have kidN : ∀ x, ∀ y ∈ kids L x, y ≠ a.nm := fun x y hy e => by
    obtain ⟨⟨b, hb, e2⟩, _⟩ := mem_kids.1 hy
    exact ha.new ⟨b, hb, e2.trans e⟩
  have mapO : ∀ x, (kids L x).map (fun y => ptr ((insG g a.nm p nb q' c' ex').nd y)) = (kids L x).map (fun y => ptr (g.nd y)) := fun x => List.map_congr_left (fun y hy => by rw [ndO y (kidN x y hy)])
  refine ⟨?_, ?_, fun b hb => ?_, fun x hx => ?_, .inl h.sd, fun b hb => ?_, fun x q hx hq => ?_⟩
  · rw [ndO [] (fun e => h0 e.symm)]; exact h.top
  · by_cases e : p = []
    · have h1 := hpar _ _ (by rw [e, h.top]; exact h.tn)
      have hd : g.nd p = d := by rw [e]; exact h.top
      rw [hd] at h1
      have sp' := sp
      rw [e] at sp'
      have e2 : ksl (insG g a.nm p nb q' c' ex') (insA L a) [] = .slice (some ⟨q', 0, none⟩) ((kids L p).length + 1) c' := by rw [e]; exact sp'
      rw [e2, h1]
      rfl
    · rw [so [] (fun e2 => e e2.symm) (fun e2 => h0 e2.symm)]
      refine (hoth d h.sd (fun e2 => ?_) (fun e2 => ?_)).trans h.tn
      · rcases nodeP with e3 | ⟨b, hb, e3, h3⟩
        · exact e e3
        · rw [← e2] at h3
          exact absurd (typ h.tn h3) (by decide)
      · exact absurd (noK hpN e2 h.tn) (by decide)
  · rcases (mem_insA ha.new).1 hb with rfl | hb
    · rw [sa]
      have : (insG g b.nm p nb q' c' ex').nd b.nm = nb := by simp [insG]
      rw [this]
      exact hnb
    · have hba : b.nm ≠ a.nm := fun e => ha.new ⟨b, hb, e⟩
      rw [ndO _ hba]
      by_cases e : b.nm = p
      · rw [e, sp]
        have h1 := hpar _ _ (by rw [← e]; exact h.node b hb)
        rw [h1]
        rfl
      · rw [so _ e hba]
        refine (hoth _ (h.sn b hb) (fun e2 => ?_) (fun e2 => ?_)).trans (h.node b hb)
        · rcases nodeP with e3 | ⟨b2, hb2, e3, h3⟩
          · rw [e3, h.top] at e2
            have := h.node b hb
            rw [e2] at this
            exact absurd (typ h.tn this) (by decide)
          · exact e ((h.inj hb hb2 (by rw [e3]; exact e2)).trans e3)
        · exact absurd (noK hpN e2 (h.node b hb)) (by decide)
  · by_cases e : x = p
    · right
      subst e
      refine ⟨q', by simp [insG], ?_, by rw [kpl]; simp [insG]; exact hcap, by rw [kp]; simp, by simp [insG]; exact hbig⟩
      have e1 : rowA (insG g a.nm x nb q' c' ex') (insA L a) x = ((((kids L x).map g.nd).take i ++ nb :: ((kids L x).map g.nd).drop i).map ptr ++ ex').toArray := by
        rw [rowA, kp, List.map_append, List.map_cons]
        have t1 : ((kids L x).take i).map (fun y => ptr ((insG g a.nm x nb q' c' ex').nd y)) = (((kids L x).map g.nd).take i).map ptr := by
          rw [List.map_take, mapO x, ← List.map_take, ← List.map_take, List.map_map]
          rfl
        have t2 : ((kids L x).drop i).map (fun y => ptr ((insG g a.nm x nb q' c' ex').nd y)) = (((kids L x).map g.nd).drop i).map ptr := by
          rw [List.map_drop, mapO x, ← List.map_drop, ← List.map_drop, List.map_map]
          rfl
        have t3 : (insG g a.nm x nb q' c' ex').nd a.nm = nb := by simp [insG]
        have t4 : (insG g a.nm x nb q' c' ex').ex x = ex' := by simp [insG]
        rw [t1, t2, t3, t4, List.map_append, List.map_cons]
      rw [e1]
      exact hrow
    · by_cases e2 : x = a.nm
      · left
        rw [e2, ka]
        simp [insG, hap]
      · have hxN : isN L x := by
          rcases (isN_ins ha.new).1 hx with h1 | h1
          · exact absurd h1 e2
          · exact h1
        have ekb : (insG g a.nm p nb q' c' ex').kb x = g.kb x := by simp [insG, e, e2]
        have ekc : (insG g a.nm p nb q' c' ex').kc x = g.kc x := by simp [insG, e, e2]
        have eex : (insG g a.nm p nb q' c' ex').ex x = g.ex x := by simp [insG, e, e2]
        rw [ekb, ekc, eex, ko x e]
        rcases h.row x hxN with h1 | ⟨q, h1, h2, h3⟩
        · exact .inl h1
        · refine .inr ⟨q, h1, ?_, h3⟩
          have er : rowA (insG g a.nm p nb q' c' ex') (insA L a) x = rowA g L x := by rw [rowA, rowA, ko x e, mapO x, eex]
          rw [er]
          refine (hoth q (h.sq x q hxN h1) (fun e3 => ?_) (fun e3 => e (h.row_inj hxN hpN h1 e3))).trans h2
          rcases nodeP with e4 | ⟨b2, hb2, e4, h4⟩
          · rw [e4, h.top] at e3
            rw [e3] at h2
            exact absurd (typ h.tn h2) (by decide)
          · rw [e3] at h2
            exact absurd (typ h4 h2) (by decide)
  · rcases (mem_insA ha.new).1 hb with rfl | hb
    · exact .inr (.inl (by simp [insG]))
    · rw [ndO _ (fun e => ha.new ⟨b, hb, e⟩)]
      exact .inl (h.sn b hb)
  · by_cases e : x = p
    · subst e
      have : q' = q := by simpa [insG] using hq
      exact .inr (.inr this.symm)
    · by_cases e2 : x = a.nm
      · rw [e2] at hq
        simp [insG, hap] at hq
      · have hxN : isN L x := by
          rcases (isN_ins ha.new).1 hx with h1 | h1
          · exact absurd h1 e2
          · exact h1
        have ekb : (insG g a.nm p nb q' c' ex').kb x = g.kb x := by simp [insG, e, e2]
        rw [ekb] at hq
        exact .inl (h.sq x q hxN hq)
end Go.Proofs.YtcafhmlpmbkhkaaGreatDoor.Ch
