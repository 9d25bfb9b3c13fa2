/- aged: a new view; the asking calls by the view. -/
import Derived.Test.YtildpgfhahmgmaaDoorOpA
import Derived.Test.YtildpgfhahmgmaaDoorAvA
import Derived.Test.YtildpgfhahmgmaaDoorAlB
namespace Go.Proofs.YtildpgfhahmgmaaDoor
open Go Go.Shelf Go.ChangeShapes Go.WideShapes Go.ChangeAt Go.RowKit Go.Maps
set_option linter.unusedVariables false
def cl0 : Cl := ⟨⟨#[]⟩, ⟨#[]⟩, 0, 0, 0⟩
def gh0 : Gh := ⟨[], fun _ => cl0, fun _ => 0, fun _ => [], fun _ => .slice none 0 0, fun _ => (0, 0), .slice none 0 0, [], .slice none 0 0, [], .slice none 0 0, [], 0, 0, none, none, fun _ => none, fun _ => none, 0, 0, fun _ => .slice none 0 0, fun _ => [], fun _ _ => 0⟩
theorem inv_0 : Inv gh0 := by
  refine { pb := rfl, nd := List.Pairwise.nil, km := Iff.rfl, mp := fun _ => rfl, kf := fun s p => ⟨(fun h => by cases h), (fun h => by cases h.1)⟩, qa := fun k => ⟨(fun h => absurd rfl h), (fun ⟨p, hp, _⟩ => by cases hp)⟩, ls := fun k => rfl, pt := fun p hp => (by cases hp), lf := fun p hp => (by cases hp), sum := fun p hp => (by cases hp), ok := fun p hp => (by cases hp), al := fun a ha => (by cases ha), inv := rfl, invm := (by show (0 : Int) ≤ _; omega), gone := (by show (0 : Int) ≤ 0 ∧ (0 : Int) ≤ _; omega), shb := fun p hp => (by cases hp), nw := fun k j => rfl, hp := fun k h1 h2 => (by cases h2), ts := fun x hx => (by cases hx), l1 := Nat.zero_le _, l2 := Nat.zero_le _, l3 := Nat.zero_le _, l4 := Nat.zero_le _, l5 := Nat.zero_le _, sh := fun p hp => (by cases hp), tc := fun p hp => (by cases hp) }
theorem own_0 {d b : Nat} (h : gh0.own d b) : b = d := by
  refine own_elim h id (fun h => by cases h) (fun h => by cases h) (fun h => by cases h) (fun h => by cases h) (fun p hp => by cases hp) (fun h => by cases h) (fun h => by cases h) (fun k h => by cases h) (fun k hk => absurd rfl hk)
theorem raw_0 {W : World} {d : Nat} (hd : W.heap[d]? = some newA) : Raw W d gh0 := by
  refine { ob := hd, rc := World.ownsRow_nil _ _ _ _, ra := World.ownsRow_nil _ _ _ _, rt := World.ownsRow_nil _ _ _ _, nd := List.Pairwise.nil, cb := fun p hp => (by cases hp), pr := fun p hp => (by cases hp), pi := fun p hp => (by cases hp), mm := fun b hb => (by cases hb), mn := fun _ _ => rfl, am := fun b hb => (by cases hb), an := fun _ _ => rfl, mx := fun b hb => (by cases hb), ac := fun k q hq => (by cases hq), ar := fun k q hq => (by cases hq), qi := fun k k' q hq => (by cases hq), ai := fun k k' g h => absurd rfl h, vi := fun k g h => absurd rfl h }
theorem new_vw {W : World} (h0 : 0 < W.heap.size) : Calls Tryd.prog 19 #[] W fun e w' => e = .returned (ptr W.heap.size) ∧ Vw w' W.heap.size (fun b => b = W.heap.size) [] [] 0 ∧ Below W.heap.size W w' := by
  refine (new_any W).mono ?_
  rintro e w' ⟨rfl, rfl⟩
  refine ⟨rfl, ⟨⟨gh0, inv_0, raw_0 (heap_new _ _), rfl, rfl, rfl, fun b hb => own_0 hb⟩, fun b hb => by rw [hb]; simp, fun hb => by omega⟩, (Below.refl _ _).alloc (Nat.le_refl _) _⟩
/-- what At and Now tell -/
def atS (C : List Cl) (A : List Al) (k : List UInt8) (t : Int) (j : Nat) : Int := if dayB t = true then ageS C A k t j else 0
theorem now_vw {W : World} {d : Nat} {S : Nat → Prop} {C : List Cl} {A : List Al} {g : Int} (hV : Vw W d S C A g) {s : ByteArray} (hs : s.size ≤ maxLen) :
    Calls Tryd.prog 16 #[ptr d, .string s] W fun e w' => e = .returned (ag5 (ageS C A s.data.toList (1 + g))) ∧ Below W.heap.size W w' := by
  obtain ⟨G, hI, hR, hC, hA, hg, hown⟩ := hV.ex
  refine (now_raw hR hI.toInv0 hs).mono ?_
  rintro e w' ⟨rfl, hb⟩
  have e1 : G.nw s.data.toList = ageS C A s.data.toList (1 + g) := funext fun j => by rw [hI.now, hC, hA, hg]
  exact ⟨by rw [e1], hb⟩
theorem at_vw {W : World} {d : Nat} {S : Nat → Prop} {C : List Cl} {A : List Al} {g : Int} (hV : Vw W d S C A g) (hS : Stp W) {s : ByteArray} (hs : s.size ≤ maxLen) (t : Int) :
    Calls Tryd.prog 17 #[ptr d, .string s, .int .i64 t] W fun e w' => e = .returned (ag5 (atS C A s.data.toList t)) ∧ Below W.heap.size W w' := by
  obtain ⟨G, hI, hR, hC, hA, hg, hown⟩ := hV.ex
  refine (at_raw hR hI.toInv0 hS hs t).mono ?_
  rintro e w' ⟨rfl, hb⟩
  have e1 : (fun j => sumL (ofL G s.data.toList t) (fun p => con (shr (G.cl p) (G.pt p) t) j)) = atS C A s.data.toList t := funext fun j => by
    unfold ofL atS
    split
    · rw [← hC, ← hA, hI.toInv0.ageS]
    · rfl
  exact ⟨by rw [e1], hb⟩
theorem open_vw {W : World} {d : Nat} {S : Nat → Prop} {C : List Cl} {A : List Al} {g : Int} (hV : Vw W d S C A g) (hS : Stp W) {s : ByteArray} (hs : s.size ≤ maxLen) (t : Int) :
    Calls Tryd.prog 30 #[ptr d, .string s, .int .i64 t] W fun e w' => OpenOut W w' C A s.data.toList t e := by
  obtain ⟨G, hI, hR, hC, hA, hg, hown⟩ := hV.ex
  have := open_raw hR hI.toInv0 hS hs t
  rw [hC, hA] at this
  exact this
theorem asOf_vw {W : World} {d : Nat} {S : Nat → Prop} {C : List Cl} {A : List Al} {g : Int} (hV : Vw W d S C A g) : Calls Tryd.prog 15 #[ptr d] W fun e w' => e = .returned (.int .i64 (1 + g)) ∧ w' = W := by
  obtain ⟨G, hI, hR, hC, hA, hg, hown⟩ := hV.ex
  have h5 : W.cell? ⟨d, 5, none⟩ = some (.int .i64 G.gone) := by rw [cell_at hR.ob]; rfl
  rw [← hg]
  exact asOf_any h5 hI.gone
/-- what holds of a view's invoices and allotments -/
structure Good (C : List Cl) (A : List Al) (g : Int) : Prop where
  ok : ∀ c ∈ C, OkC c
  key : (C.map fun c => c.key.data.toList).Nodup
  l1 : C.length ≤ 1000
  l2 : A.length ≤ 1000
  tot : sumC C ≤ 9223372036854775807
  al : ∀ a ∈ A, 1 ≤ a.amt ∧ a.day ≤ 3652059 ∧ ∃ c ∈ C, c.key.data.toList = a.inv.data.toList ∧ c.day ≤ a.day
  sum : ∀ c ∈ C, sumAll (ptsOf A c.key.data.toList) ≤ c.amt
  g : 0 ≤ g ∧ g ≤ 3652058
theorem Vw.good {W : World} {d : Nat} {S : Nat → Prop} {C : List Cl} {A : List Al} {g : Int} (hV : Vw W d S C A g) : Good C A g := by
  obtain ⟨G, hI, hR, rfl, rfl, rfl, hown⟩ := hV.ex
  refine ⟨fun c hc => ?_, ?_, by simpa using hI.l1, hI.l2, by rw [← hI.toInv0.total]; exact hI.invm, fun a ha => ?_, fun c hc => ?_, hI.gone⟩
  · obtain ⟨p, hp, rfl⟩ := List.mem_map.1 hc
    exact hI.ok p hp
  · rw [List.map_map, List.nodup_iff_pairwise_ne, List.pairwise_map]
    refine (List.nodup_iff_pairwise_ne.1 hI.nd).imp_of_mem (fun {a b} ha hb hne e => hne ?_)
    have e : (G.cl a).key.data.toList = (G.cl b).key.data.toList := e
    have h1 := (hI.kf _ a).2 ⟨ha, rfl⟩
    have h2 := (hI.kf _ b).2 ⟨hb, rfl⟩
    rw [e, h2] at h1
    exact (Option.some.inj h1).symm
  · obtain ⟨h1, h2, p, hp, h3, h4⟩ := hI.al a ha
    exact ⟨h1, h2, G.cl p, List.mem_map.2 ⟨p, hp, rfl⟩, h3, h4⟩
  · obtain ⟨p, hp, rfl⟩ := List.mem_map.1 hc
    rw [← hI.pt p hp]
    exact hI.sum p hp
/-- Open tells one list -/
theorem Good.open_same {C : List Cl} {A : List Al} {g : Int} (h : Good C A g) {k : List UInt8} {t : Int} {R Q : List Cl} (hR : OpenIs C A k t R) (hQ : OpenIs C A k t Q) : R = Q := by
  refine sorted_unique (hR.perm.trans hQ.perm.symm) (fun x hx y hy h1 h2 => ?_) hR.sort hQ.sort
  have hk := (Lt3.tri h1 h2).2.2
  have hmem : ∀ z ∈ R, ∃ c ∈ C, tel A t c = some z := fun z hz => by
    have hz := hR.perm.mem_iff.1 hz
    unfold opn at hz
    split at hz
    · obtain ⟨c, hc, e⟩ := List.mem_filterMap.1 hz
      exact ⟨c, (List.mem_filter.1 hc).1, e⟩
    · cases hz
  obtain ⟨c1, hc1, e1⟩ := hmem x hx
  obtain ⟨c2, hc2, e2⟩ := hmem y hy
  have hk1 : x.key = c1.key := by
    unfold tel at e1
    split at e1
    · rw [← Option.some.inj e1]
    · cases e1
  have hk2 : y.key = c2.key := by
    unfold tel at e2
    split at e2
    · rw [← Option.some.inj e2]
    · cases e2
  rw [hk1, hk2] at hk
  have hcc : c1 = c2 := by
    have hn := h.key
    rw [List.nodup_iff_pairwise_ne, List.pairwise_map] at hn
    obtain ⟨i, hi, ei⟩ := List.mem_iff_getElem.1 hc1
    obtain ⟨j, hj, ej⟩ := List.mem_iff_getElem.1 hc2
    rw [List.pairwise_iff_getElem] at hn
    rcases Nat.lt_trichotomy i j with hij | hij | hij
    · exact absurd (by rw [ei, ej]; exact hk) (hn i j hi hj hij)
    · subst hij; rw [← ei, ← ej]
    · exact absurd (by rw [ei, ej]; exact hk.symm) (hn j i hj hi hij)
  rw [hcc, e2] at e1
  exact (Option.some.inj e1).symm
end Go.Proofs.YtildpgfhahmgmaaDoor
