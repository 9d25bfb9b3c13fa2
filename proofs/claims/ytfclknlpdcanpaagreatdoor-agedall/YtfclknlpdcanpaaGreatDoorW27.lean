import Derived.Test.YtfclknlpdcanpaaGreatDoorW24
import Derived.Test.YtfclknlpdcanpaaGreatDoorW22
import Derived.Test.YtfclknlpdcanpaaGreatDoorW26
import Derived.Test.YtfclknlpdcanpaaGreatDoorW13
/- aged: a new view; the asking calls by the view. -/
namespace Go.Proofs.YtfclknlpdcanpaaGreatDoor
open Go Go.Shelf Go.ChangeShapes Go.WideShapes Go.ChangeAt Go.RowKit Go.Maps
set_option linter.unusedVariables false
def cl0 : Cl := ⟨⟨#[]⟩, ⟨#[]⟩, 0, 0, 0⟩
def gh0 : Gh := ⟨[], fun _ => cl0, fun _ => 0, fun _ => [], fun _ => .slice none 0 0, fun _ => (0, 0), .slice none 0 0, [], .slice none 0 0, [], .slice none 0 0, [], 0, 0, none, none, fun _ => none, fun _ => none, 0, 0, fun _ => .slice none 0 0, fun _ => [], fun _ _ => 0⟩
theorem inv_0 : Inv gh0 := by
  refine { pb := rfl, nd := List.Pairwise.nil, km := Iff.rfl, mp := fun _ => rfl, kf := fun s p => ⟨(fun h => by cases h), (fun h => by cases h.1)⟩, qa := fun k => ⟨(fun h => absurd rfl h), (fun ⟨p, hp, _⟩ => by cases hp)⟩, ls := fun k => rfl, pt := fun p hp => (by cases hp), lf := fun p hp => (by cases hp), sum := fun p hp => (by cases hp), ok := fun p hp => (by cases hp), al := fun a ha => (by cases ha), inv := rfl, invm := (by show (0 : Int) ≤ _; omega), gone := (by show (0 : Int) ≤ 0 ∧ (0 : Int) ≤ _; omega), shb := fun p hp => (by cases hp), nw := fun k j => rfl, hp := fun k h1 h2 => (by cases h2), ts := fun x hx => (by cases hx), l1 := Nat.zero_le _, l2 := Nat.zero_le _, l3 := Nat.zero_le _, l4 := Nat.zero_le _, l5 := Nat.zero_le _, sh := fun p hp => (by cases hp), tc := fun p hp => (by cases hp) }
theorem own_0 {d b : Nat} (h : gh0.own d b) : b = d := by
  refine own_elim h id (fun h => by cases h) (fun h => by cases h) (fun h => by cases h) (fun h => by cases h) (fun p hp => by cases hp) (fun h => by cases h) (fun h => by cases h) (fun k h => by cases h) (fun k hk => absurd rfl hk)
theorem raw_0 {W : World} {d : Nat} (hd : W.heap[d]? = some newA) : Raw W d gh0 := by
  refine { ob := hd, rc := World.ownsRow_nil _ _ _ _, ra := World.ownsRow_nil _ _ _ _, rt := World.ownsRow_nil _ _ _ _, nd := List.Pairwise.nil, cb := fun p hp => (by cases hp), pr := fun p hp => (by cases hp), pi := fun p hp => (by cases hp), mm := fun b hb => (by cases hb), mn := fun _ _ => rfl, am := fun b hb => (by cases hb), an := fun _ _ => rfl, mx := fun b hb => (by cases hb), ac := fun k q hq => (by cases hq), ar := fun k q hq => (by cases hq), qi := fun k k' q hq => (by cases hq), ai := fun k k' g h => absurd rfl h, vi := fun k g h => absurd rfl h }
theorem new_vw {W : World} (h0 : 0 < W.heap.size) : Calls Tryz.prog 48 #[] W fun e w' => e = .returned (ptr W.heap.size) ∧ Vw w' W.heap.size (fun b => b = W.heap.size) [] [] 0 ∧ Below W.heap.size W w' := by
  refine (new_any W).mono ?_
  rintro e w' ⟨rfl, rfl⟩
  refine ⟨rfl, ⟨⟨gh0, inv_0, raw_0 (heap_new _ _), rfl, rfl, rfl, fun b hb => own_0 hb⟩, fun b hb => by rw [hb]; simp, fun hb => by omega⟩, (Below.refl _ _).alloc (Nat.le_refl _) _⟩
/-- what At and Now tell -/
def atS (C : List Cl) (A : List Al) (k : List UInt8) (t : Int) (j : Nat) : Int := if dayB t = true then ageS C A k t j else 0
theorem now_vw {W : World} {d : Nat} {S : Nat → Prop} {C : List Cl} {A : List Al} {g : Int} (hV : Vw W d S C A g) {s : ByteArray} (hs : s.size ≤ maxLen) :
    Calls Tryz.prog 24 #[ptr d, .string s] W fun e w' => e = .returned (ag5 (ageS C A s.data.toList (1 + g))) ∧ Below W.heap.size W w' := by
  obtain ⟨G, hI, hR, hC, hA, hg, hown⟩ := hV.ex
  refine (now_raw hR hI.toInv0 hs).mono ?_
  rintro e w' ⟨rfl, hb⟩
  have e1 : G.nw s.data.toList = ageS C A s.data.toList (1 + g) := funext fun j => by rw [hI.now, hC, hA, hg]
  exact ⟨by rw [e1], hb⟩
theorem at_vw {W : World} {d : Nat} {S : Nat → Prop} {C : List Cl} {A : List Al} {g : Int} (hV : Vw W d S C A g) (hS : Stp W) {s : ByteArray} (hs : s.size ≤ maxLen) (t : Int) :
    Calls Tryz.prog 26 #[ptr d, .string s, .int .i64 t] W fun e w' => e = .returned (ag5 (atS C A s.data.toList t)) ∧ Below W.heap.size W w' := by
  obtain ⟨G, hI, hR, hC, hA, hg, hown⟩ := hV.ex
  refine (at_raw hR hI.toInv0 hS hs t).mono ?_
  rintro e w' ⟨rfl, hb⟩
  have e1 : (fun j => sumL (ofL G s.data.toList t) (fun p => con (shr (G.cl p) (G.pt p) t) j)) = atS C A s.data.toList t := funext fun j => by
    unfold ofL atS
    split
    · rw [← hC, ← hA, hI.toInv0.ageS]
    · rfl
  exact ⟨by rw [e1], hb⟩
theorem open_vw {W : World} {d : Nat} {S : Nat → Prop} {C : List Cl} {A : List Al} {g : Int} (hV : Vw W d S C A g) (hS : Stp W) {s : ByteArray} (hs : s.size ≤ maxLen) (t : Int) :
    Calls Tryz.prog 49 #[ptr d, .string s, .int .i64 t] W fun e w' => OpenOut W w' C A s.data.toList t e := by
  obtain ⟨G, hI, hR, hC, hA, hg, hown⟩ := hV.ex
  have := open_raw hR hI.toInv0 hS hs t
  rw [hC, hA] at this
  exact this
theorem asOf_vw {W : World} {d : Nat} {S : Nat → Prop} {C : List Cl} {A : List Al} {g : Int} (hV : Vw W d S C A g) : Calls Tryz.prog 23 #[ptr d] W fun e w' => e = .returned (.int .i64 (1 + g)) ∧ w' = W := by
  obtain ⟨G, hI, hR, hC, hA, hg, hown⟩ := hV.ex
  have h5 : W.cell? ⟨d, 5, none⟩ = some (.int .i64 G.gone) := by rw [cell_at hR.ob]; rfl
  rw [← hg]
  exact asOf_any h5 hI.gone
/-- what holds of a view's invoices and allotments -/
structure Good (C : List Cl) (A : List Al) (g : Int) : Prop where
  ok : ∀ c ∈ C, OkC c
  key : (C.map fun c => c.key.data.toList).Nodup
  l1 : C.length ≤ 1000
  l2 : A.length ≤ 1000
  tot : sumC C ≤ 9223372036854775807
  al : ∀ a ∈ A, 1 ≤ a.amt ∧ a.day ≤ 3652059 ∧ ∃ c ∈ C, c.key.data.toList = a.inv.data.toList ∧ c.day ≤ a.day
  sum : ∀ c ∈ C, sumAll (ptsOf A c.key.data.toList) ≤ c.amt
  g : 0 ≤ g ∧ g ≤ 3652058
theorem Vw.good {W : World} {d : Nat} {S : Nat → Prop} {C : List Cl} {A : List Al} {g : Int} (hV : Vw W d S C A g) : Good C A g := by
  obtain ⟨G, hI, hR, rfl, rfl, rfl, hown⟩ := hV.ex
  refine ⟨fun c hc => ?_, ?_, by simpa using hI.l1, hI.l2, by rw [← hI.toInv0.total]; exact hI.invm, fun a ha => ?_, fun c hc => ?_, hI.gone⟩
  · obtain ⟨p, hp, rfl⟩ := List.mem_map.1 hc
    exact hI.ok p hp
  · rw [List.map_map, List.nodup_iff_pairwise_ne, List.pairwise_map]
    refine (List.nodup_iff_pairwise_ne.1 hI.nd).imp_of_mem (fun {a b} ha hb hne e => hne ?_)
    have e : (G.cl a).key.data.toList = (G.cl b).key.data.toList := e
    have h1 := (hI.kf _ a).2 ⟨ha, rfl⟩
    have h2 := (hI.kf _ b).2 ⟨hb, rfl⟩
    rw [e, h2] at h1
    exact (Option.some.inj h1).symm
  · obtain ⟨h1, h2, p, hp, h3, h4⟩ := hI.al a ha
    exact ⟨h1, h2, G.cl p, List.mem_map.2 ⟨p, hp, rfl⟩, h3, h4⟩
  · obtain ⟨p, hp, rfl⟩ := List.mem_map.1 hc
    rw [← hI.pt p hp]
    exact hI.sum p hp
/-- Open tells one list -/
theorem Good.open_same {C : List Cl} {A : List Al} {g : Int} (h : Good C A g) {k : List UInt8} {t : Int} {R Q : List Cl} (hR : OpenIs C A k t R) (hQ : OpenIs C A k t Q) : R = Q := by
  refine sorted_unique (hR.perm.trans hQ.perm.symm) (fun x hx y hy h1 h2 => ?_) hR.sort hQ.sort
  have hk := (Lt3.tri h1 h2).2.2
  have hmem : ∀ z ∈ R, ∃ c ∈ C, tel A t c = some z := fun z hz => by
    have hz := hR.perm.mem_iff.1 hz
    unfold opn at hz
    split at hz
    · obtain ⟨c, hc, e⟩ := List.mem_filterMap.1 hz
      exact ⟨c, (List.mem_filter.1 hc).1, e⟩
    · cases hz
  obtain ⟨c1, hc1, e1⟩ := hmem x hx
  obtain ⟨c2, hc2, e2⟩ := hmem y hy
  have hk1 : x.key = c1.key := by
    unfold tel at e1
    split at e1
    · rw [← Option.some.inj e1]
    · cases e1
  have hk2 : y.key = c2.key := by
    unfold tel at e2
    split at e2
    · rw [← Option.some.inj e2]
    · cases e2
  rw [hk1, hk2] at hk
  have hcc : c1 = c2 := by
    have hn := h.key
    rw [List.nodup_iff_pairwise_ne, List.pairwise_map] at hn
    obtain ⟨i, hi, ei⟩ := List.mem_iff_getElem.1 hc1
    obtain ⟨j, hj, ej⟩ := List.mem_iff_getElem.1 hc2
    rw [List.pairwise_iff_getElem] at hn
    rcases Nat.lt_trichotomy i j with hij | hij | hij
    · exact absurd (by rw [ei, ej]; exact hk) (hn i j hi hj hij)
    · subst hij; rw [← ei, ← ej]
    · exact absurd (by rw [ei, ej]; exact hk.symm) (hn j i hj hi hij)
  rw [hcc, e2] at e1
  exact (Option.some.inj e1).symm
end Go.Proofs.YtfclknlpdcanpaaGreatDoor
/- aged: From of a view's own state takes all of it, in plain words. -/
namespace Go.Proofs.YtfclknlpdcanpaaGreatDoor
open Go Go.Shelf Go.ChangeShapes Go.WideShapes Go.ChangeAt Go.RowKit Go.Maps
set_option linter.unusedVariables false
theorem sumC_nonneg {C : List Cl} (h : ∀ c ∈ C, 0 ≤ c.amt) : 0 ≤ sumC C := by
  induction C with
  | nil => exact Int.le_refl _
  | cons c C ih =>
    have h1 := h c List.mem_cons_self
    have h2 := ih (fun x hx => h x (List.mem_cons_of_mem _ hx))
    show 0 ≤ c.amt + sumC C
    omega
theorem dayB_of {t : Int} (h1 : 1 ≤ t) (h2 : t ≤ 3652059) : dayB t = true := by
  unfold dayB
  rw [decide_eq_true h1, decide_eq_true h2]; rfl
theorem Good.inv0 {C : List Cl} {A : List Al} {g : Int} (h : Good C A g) (i : Nat) (hi : i < C.length) : invS (C.take i) C[i] = 0 := by
  have hc := h.ok C[i] (List.getElem_mem hi)
  have h1 := hc.d1; have h2 := hc.d2; have h3 := hc.d3; have h4 := hc.a1
  unfold invS
  rw [if_neg (fun hx => hx ⟨dayB_of h1 (by omega), dayB_of (by omega) h2, by omega, by omega⟩), if_neg (by rw [List.length_take]; have := h.l1; omega), if_neg, if_neg]
  · have e : C = C.take i ++ ([C[i]] ++ C.drop (i + 1)) := by
      rw [List.singleton_append, ← List.drop_eq_getElem_cons hi, List.take_append_drop]
    have h5 := h.tot
    rw [e, sumC_append, sumC_append] at h5
    have h6 : sumC [C[i]] = C[i].amt := by show C[i].amt + 0 = _; omega
    have h7 := sumC_nonneg (C := C.drop (i + 1)) (fun c hc => by have := (h.ok c (List.mem_of_mem_drop hc)).a1; omega)
    rw [h6] at h5
    omega
  · rw [has_iff]
    rintro ⟨c, hc, e⟩
    obtain ⟨j, hj, ej⟩ := List.mem_iff_getElem.1 hc
    have hj' : j < i := by rw [List.length_take] at hj; omega
    have hn := h.key
    rw [List.nodup_iff_pairwise_ne, List.pairwise_map, List.pairwise_iff_getElem] at hn
    refine hn j i (by omega) hi hj' ?_
    rw [List.getElem_take] at ej
    rw [ej]; exact e
theorem sumAll_ptsOf_le {A : List Al} (h : ∀ a ∈ A, 1 ≤ a.amt) (s : List UInt8) (i : Nat) (hi : i < A.length) (hs : A[i].inv.data.toList = s) : sumAll (ptsOf (A.take i) s) + A[i].amt ≤ sumAll (ptsOf A s) := by
  have e : A = A.take i ++ ([A[i]] ++ A.drop (i + 1)) := by
    rw [List.singleton_append, ← List.drop_eq_getElem_cons hi, List.take_append_drop]
  have h1 : ptsOf A s = ptsOf (A.take i) s ++ (ptsOf [A[i]] s ++ ptsOf (A.drop (i + 1)) s) := by
    conv => lhs; rw [e]
    rw [ptsOf_append, ptsOf_append]
  have h2 : ptsOf [A[i]] s = [(A[i].day, A[i].amt)] := by rw [ptsOf_one, if_pos hs]
  have h3 : 0 ≤ sumAll (ptsOf (A.drop (i + 1)) s) := sumAll_nonneg fun x hx => by
    unfold ptsOf at hx
    obtain ⟨a, ha, rfl⟩ := List.mem_map.1 hx
    exact h a (List.mem_of_mem_drop (List.mem_filter.1 ha).1)
  rw [h1, h2, sumAll_append, sumAll_append, sumAll_one]
  show _ + A[i].amt ≤ _ + (A[i].amt + _)
  omega
theorem Good.find {C : List Cl} {A : List Al} {g : Int} (h : Good C A g) {c : Cl} (hc : c ∈ C) : findC C c.key.data.toList = some c := by
  unfold findC
  cases hf : C.find? (fun x => decide (x.key.data.toList = c.key.data.toList)) with
  | none =>
    rw [List.find?_eq_none] at hf
    exact absurd (by simp) (hf c hc)
  | some x =>
    have h1 := List.mem_of_find?_eq_some hf
    have h2 : x.key.data.toList = c.key.data.toList := by simpa using List.find?_some hf
    have hn := h.key
    rw [List.nodup_iff_pairwise_ne, List.pairwise_map, List.pairwise_iff_getElem] at hn
    obtain ⟨i, hi, ei⟩ := List.mem_iff_getElem.1 h1
    obtain ⟨j, hj, ej⟩ := List.mem_iff_getElem.1 hc
    congr 1
    rcases Nat.lt_trichotomy i j with hij | hij | hij
    · exact absurd (by rw [ei, ej]; exact h2) (hn i j hi hj hij)
    · subst hij; rw [← ei, ← ej]
    · exact absurd (by rw [ei, ej]; exact h2.symm) (hn j i hj hi hij)
theorem Good.all0 {C : List Cl} {A : List Al} {g : Int} (h : Good C A g) (i : Nat) (hi : i < A.length) : allS C (A.take i) A[i] = 0 := by
  obtain ⟨h1, h2, c, hc, h3, h4⟩ := h.al A[i] (List.getElem_mem hi)
  have hd := (h.ok c hc).d1
  unfold allS
  rw [if_neg (fun hx => hx ⟨dayB_of (by omega) h2, by omega⟩), if_neg (by rw [List.length_take]; have := h.l2; omega), ← h3, h.find hc]
  show (if A[i].day < c.day then (66 : Int) else if A[i].amt > c.amt - sumAll (ptsOf (A.take i) c.key.data.toList) then 75 else 0) = 0
  have h5 := sumAll_ptsOf_le (fun a ha => (h.al a ha).1) c.key.data.toList i hi h3.symm
  have h6 := h.sum c hc
  rw [if_neg (by omega), if_neg (by omega)]
theorem Good.adv0 {C : List Cl} {A : List Al} {g : Int} (h : Good C A g) : advS 0 (1 + g) = 0 := by
  have := h.g
  unfold advS
  rw [dayB_of (by omega) (by omega), if_neg (by simp), if_neg (by omega)]
end Go.Proofs.YtfclknlpdcanpaaGreatDoor
/- The document's aged in memory: New (90), Advance (18), Invoice (14). -/
namespace Go.Proofs.YtfclknlpdcanpaaGreatDoor
open Go Go.Shelf Go.ChangeShapes Go.WideShapes Go.ChangeAt Go.RowKit Go.Maps
set_option linter.unusedVariables false
/-- the document's view at block d, its blocks within S -/
structure Rv (W : World) (d : Nat) (S : Nat → Prop) (C : List Cl) (A : List Al) (g : Int) : Prop where
  ex : ∃ vc va, W.heap[d]? = some (.cells #[vc, va, .int .i64 (1 + g)] 72 (0, 0)) ∧ W.ownsRow 0 56 5 vc C.length (kC.flat C) ∧ W.ownsRow 0 58 4 va A.length (kA.flat A) ∧ S d ∧ (∀ b, vc.ownBlock = some b → S b) ∧ ∀ b, va.ownBlock = some b → S b
  lt : ∀ b, S b → b < W.heap.size
def RvNext (W w' : World) (d : Nat) (S : Nat → Prop) (C : List Cl) (A : List Al) (g : Int) : Prop := ∃ S', Rv w' d S' C A g ∧ Fr W w' S ∧ ∀ b, S' b → S b ∨ W.heap.size ≤ b
theorem Rv.keep {W W' : World} {d : Nat} {S : Nat → Prop} {C : List Cl} {A : List Al} {g : Int} (h : Rv W d S C A g) (hs : W.heap.size ≤ W'.heap.size) (hk : ∀ b, S b → W'.heap[b]? = W.heap[b]?) : Rv W' d S C A g := by
  obtain ⟨vc, va, h1, h2, h3, h4, h5, h6⟩ := h.ex
  exact ⟨⟨vc, va, (hk d h4).trans h1, row_keep h2 (fun b hb => hk b (h5 b hb)), row_keep h3 (fun b hb => hk b (h6 b hb)), h4, h5, h6⟩, fun b hb => Nat.lt_of_lt_of_le (h.lt b hb) hs⟩
theorem Rv.below {W W' : World} {d : Nat} {S : Nat → Prop} {C : List Cl} {A : List Al} {g : Int} (h : Rv W d S C A g) (hb : Below W.heap.size W W') : Rv W' d S C A g := h.keep hb.size fun b hs => hb.block b (h.lt b hs)
theorem Rv.fr {W W' : World} {d : Nat} {S X : Nat → Prop} {C : List Cl} {A : List Al} {g : Int} (h : Rv W d S C A g) (hf : Fr W W' X) (hx : ∀ b, S b → ¬ X b) : Rv W' d S C A g := h.keep hf.size fun b hs => hf.block b (h.lt b hs) (hx b hs)
theorem rnew_any (w : World) : Calls Tryz.prog 94 #[] w fun e w' => e = .returned (.pointer (some ⟨w.heap.size, 0, none⟩)) ∧ Rv w' w.heap.size (fun b => b = w.heap.size) [] [] 0 ∧ Below w.heap.size w w' := by
  have HF : Hid (Rv (w.alloc (.cells #[.slice none 0 0, .slice none 0 0, .int .i64 1] 72)) w.heap.size (fun b => b = w.heap.size) [] [] 0 ∧ Below w.heap.size w (w.alloc (.cells #[.slice none 0 0, .slice none 0 0, .int .i64 1] 72))) :=
    ⟨⟨⟨.slice none 0 0, .slice none 0 0, heap_new _ _, World.ownsRow_nil _ _ _ _, World.ownsRow_nil _ _ _ _, rfl, fun b h => (by cases h), fun b h => (by cases h)⟩, fun b h => by rw [h]; simp⟩, (Below.refl _ _).alloc (Nat.le_refl _) _⟩
  go_enter Tryz.func94, Tryz.ntmps94
  go_wp2_with fail
  go_ret
  exact ⟨rfl, unhide HF⟩
def RAdvOut (W w' : World) (d : Nat) (S : Nat → Prop) (C : List Cl) (A : List Al) (g t : Int) : Prop := (advS g t ≠ 0 → w' = W) ∧ (advS g t = 0 → RvNext W w' d S C A (t - 1))
set_option maxRecDepth 100000 in
set_option maxHeartbeats 4000000 in
theorem radvance_any {W : World} {d : Nat} {S : Nat → Prop} {C : List Cl} {A : List Al} {g : Int} (hR : Rv W d S C A g) (hg : 0 ≤ g ∧ g ≤ 3652058) (t : Int) :
    Calls Tryz.prog 22 #[.pointer (some ⟨d, 0, none⟩), .int .i64 t] W fun e w' => e = .returned (.int .i64 (advS g t)) ∧ RAdvOut W w' d S C A g t := by
  obtain ⟨vc, va, h1, h2, h3, h4, h5, h6⟩ := hR.ex
  have c2 : W.cell? ⟨d, 2, none⟩ = some (.int .i64 (1 + g)) := by rw [cell_at h1]; rfl
  have f2 : W.frozen? ⟨d, 2, none⟩ = false := froz_at h1
  obtain ⟨Y, hY⟩ : ∃ Y, Y = W.setCell ⟨d, 2, none⟩ (.int .i64 t) := ⟨_, rfl⟩
  have dD := hide (rIsDay_any t)
  have HNX : Hid (RvNext W Y d S C A (t - 1)) := by
    have hne : ∀ b, b ≠ d → Y.heap[b]? = W.heap[b]? := fun b hb => by rw [hY]; exact Below.heap_setCell _ _ _ _ hb
    have hd := heap_lt h1
    have hsz : Y.heap.size = W.heap.size := by rw [hY]; simp
    have e1 : (1 : Int) + (t - 1) = t := by omega
    refine ⟨S, ⟨⟨vc, va, ?_, row_keep h2 (fun b hb => hne b (fun e => ?_)), row_keep h3 (fun b hb => hne b (fun e => ?_)), h4, h5, h6⟩, fun b hb => by rw [hsz]; exact hR.lt b hb⟩, ⟨by rw [hY]; rfl, by rw [hY]; rfl, by rw [hY]; rfl, by rw [hsz]; exact Nat.le_refl _, fun b hb hs => hne b (fun e => hs (by rw [e]; exact h4))⟩, fun b hb => .inl hb⟩
    · rw [hY, Go.heap_setCell_same _ _ _ _ _ _ h1, e1]
      rfl
    · have ty := row_ty h2 hb
      rw [e, ty_of h1] at ty
      cases ty
    · have ty := row_ty h3 hb
      rw [e, ty_of h1] at ty
      cases ty
  have HYY := hide hY
  obtain ⟨G, hG⟩ : ∃ G, G = 1 + g := ⟨_, rfl⟩
  rw [← hG] at c2
  unfold RAdvOut advS
  rw [← hG]
  clear h1 h2 h3 h4 h5 h6 hR hY hG
  cases hd : dayB t with
  | false =>
    rw [hd] at dD
    rw [if_pos rfl]
    clear hd
    go_enter Tryz.func22, Tryz.ntmps22
    go_wp2_with fail
    refine (unhide dD _).mono ?_
    rintro e w1 ⟨rfl, hw⟩
    rw [hw]
    clear hw w1
    go_wp2_with fail
    go_ret
    exact ⟨rfl, fun _ => rfl, fun h => by cases h⟩
  | true =>
    rw [hd] at dD
    rw [if_neg (by simp)]
    clear hd
    by_cases hlt : t < G
    · rw [if_pos hlt]
      go_enter Tryz.func22, Tryz.ntmps22
      go_wp2_with fail
      refine (unhide dD _).mono ?_
      rintro e w1 ⟨rfl, hw⟩
      rw [hw]
      clear hw w1
      go_wp2_with fail
      go_ret
      exact ⟨rfl, fun _ => rfl, fun h => by cases h⟩
    · rw [if_neg hlt]
      go_enter Tryz.func22, Tryz.ntmps22
      go_wp2_with fail
      refine (unhide dD _).mono ?_
      rintro e w1 ⟨rfl, hw⟩
      rw [hw]
      clear hw w1
      go_wp2_with fail
      rw [← unhide HYY]
      go_ret
      exact ⟨rfl, fun h => absurd rfl h, fun _ => unhide HNX⟩
end Go.Proofs.YtfclknlpdcanpaaGreatDoor
