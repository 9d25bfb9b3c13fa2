/- daily: an account's days as plain lists. -/
import Derived.Test.YtenoaechonpjgaaDoorSumN
namespace Go.Proofs.YtenoaechonpjgaaDoor
set_option linter.unusedVariables false
abbrev isA (x : Int) : Prop := -9223372036854775807 ≤ x ∧ x ≤ 9223372036854775807
/-- a day and what is told of it -/
abbrev Td := List (Int × Int)
/-- the balance at the end of a day -/
def blc (T : Td) (d : Int) : Int := sm (fun r => if decide (r.1 ≤ d) = true then r.2 else 0) T
/-- a day, its change, its balance -/
abbrev Mk := Int × Int × Int
def tld (S : List Mk) : Td := S.map fun m => (m.1, m.2.1)
structure Ser (T : Td) (S : List Mk) : Prop where
  up : S.Pairwise fun a b => a.1 < b.1
  is : ∀ m ∈ S, m.2.1 = own T m.1 ∧ m.2.1 ≠ 0 ∧ m.2.2 = blc T m.1
  all : ∀ d, own T d ≠ 0 → ∃ m ∈ S, m.1 = d
def fitT (T : Td) : Prop := ∀ d, isA (own T d) ∧ isA (blc T d)
theorem blc_append (T U : Td) (d : Int) : blc (T ++ U) d = blc T d + blc U d := sm_append _ _ _
theorem blc_nil (d : Int) : blc [] d = 0 := rfl
theorem own_nil (d : Int) : own ([] : Td) d = 0 := rfl
theorem blc_same {T U : Td} (h : ∀ d, own T d = own U d) (d : Int) : blc T d = blc U d := by
  have hK := nodup_nub (T.map (·.1) ++ U.map (·.1))
  have hin : ∀ (V : Td) n, own V n ≠ 0 → n ∈ V.map (·.1) := fun V n hn => by
    by_cases hm : n ∈ V.map (·.1)
    · exact hm
    · exact absurd (own_none fun r hr e => hm (List.mem_map.2 ⟨r, hr, e⟩)) hn
  have h1 := by_held T hK (fun n hn => (mem_nub _ _).2 (List.mem_append_left _ (hin T n hn))) (fun x => decide (x ≤ d))
  have h2 := by_held U hK (fun n hn => (mem_nub _ _).2 (List.mem_append_right _ (hin U n hn))) (fun x => decide (x ≤ d))
  unfold blc
  rw [h1, h2]
  exact sm_congr fun n _ => by rw [h n]
theorem Ser.same {T U : Td} {S : List Mk} (hs : Ser T S) (h : ∀ d, own T d = own U d) : Ser U S where
  up := hs.up
  is m hm := by
    obtain ⟨h1, h2, h3⟩ := hs.is m hm
    exact ⟨h1.trans (h _), h2, h3.trans (blc_same h _)⟩
  all d hd := hs.all d (by rw [h d]; exact hd)
theorem fitT.same {T U : Td} (hf : fitT T) (h : ∀ d, own T d = own U d) : fitT U := fun d => by
  rw [← h d, ← blc_same h d]
  exact hf d
/-- sorted lists with the same members are the same -/
theorem sorted_ext : ∀ (S R : List Mk), S.Pairwise (fun a b => a.1 < b.1) → R.Pairwise (fun a b => a.1 < b.1) → (∀ m, m ∈ S ↔ m ∈ R) → S = R
  | [], [], _, _, _ => rfl
  | [], r :: R, _, _, h => by have := (h r).2 (List.mem_cons_self); cases this
  | s :: S, [], _, _, h => by have := (h s).1 (List.mem_cons_self); cases this
  | s :: S, r :: R, h1, h2, h => by
    rw [List.pairwise_cons] at h1 h2
    have e : s = r := by
      rcases List.mem_cons.1 ((h s).1 List.mem_cons_self) with e | hs
      · exact e
      · rcases List.mem_cons.1 ((h r).2 List.mem_cons_self) with e | hr
        · exact e.symm
        · have a1 := h1.1 r hr
          have a2 := h2.1 s hs
          omega
    subst e
    have hs : s ∉ S := fun hm => by have := h1.1 s hm; omega
    have hr : s ∉ R := fun hm => by have := h2.1 s hm; omega
    rw [sorted_ext S R h1.2 h2.2 fun m => ?_]
    constructor
    · intro hm
      rcases List.mem_cons.1 ((h m).1 (List.mem_cons_of_mem _ hm)) with e | hm'
      · subst e; exact absurd hm hs
      · exact hm'
    · intro hm
      rcases List.mem_cons.1 ((h m).2 (List.mem_cons_of_mem _ hm)) with e | hm'
      · subst e; exact absurd hm hr
      · exact hm'
theorem Ser.sub {T : Td} {S R : List Mk} (h : Ser T S) (k : Ser T R) : ∀ m, m ∈ S → m ∈ R := fun m hm => by
  obtain ⟨h1, h2, h3⟩ := h.is m hm
  obtain ⟨r, hr, e⟩ := k.all m.1 (by rw [← h1]; exact h2)
  obtain ⟨k1, k2, k3⟩ := k.is r hr
  have e2 : r = m := by
    obtain ⟨a, b, c⟩ := m
    obtain ⟨a', b', c'⟩ := r
    simp only at e h1 h3 k1 k3
    subst e
    rw [h1, h3, k1, k3]
  rw [← e2]
  exact hr
theorem Ser.uniq {T : Td} {S R : List Mk} (h : Ser T S) (k : Ser T R) : S = R :=
  sorted_ext S R h.up k.up fun m => ⟨h.sub k m, k.sub h m⟩
theorem Ser.nil : Ser [] [] := ⟨List.Pairwise.nil, (fun m h => by cases h), (fun d h => absurd (own_nil d) h)⟩
theorem fitT.nil : fitT [] := fun d => by rw [own_nil, blc_nil]; exact ⟨⟨by decide, by decide⟩, by decide, by decide⟩
/-- the marks alone tell the same changes -/
theorem own_tld {S : List Mk} (hu : S.Pairwise fun a b => a.1 < b.1) (d : Int) : (∀ m ∈ S, m.1 = d → own (tld S) d = m.2.1) ∧ ((∀ m ∈ S, m.1 ≠ d) → own (tld S) d = 0) := by
  refine ⟨?_, fun h => own_none fun r hr => ?_⟩
  · induction S with
    | nil => intro m h; cases h
    | cons s S ih =>
      rw [List.pairwise_cons] at hu
      intro m hm e
      have hc : own (tld (s :: S)) d = (if s.1 = d then s.2.1 else 0) + own (tld S) d := rfl
      rcases List.mem_cons.1 hm with e2 | hm
      · subst e2
        rw [hc, if_pos e, own_none fun r hr => ?_]
        · omega
        · obtain ⟨q, hq, rfl⟩ := List.mem_map.1 hr
          have := hu.1 q hq
          simp only
          omega
      · have := hu.1 m hm
        rw [hc, if_neg (by omega), ih hu.2 m hm e]
        omega
  · obtain ⟨q, hq, rfl⟩ := List.mem_map.1 hr
    exact h q hq
theorem Ser.own_tld {T : Td} {S : List Mk} (h : Ser T S) (d : Int) : own (tld S) d = own T d := by
  obtain ⟨h1, h2⟩ := YtenoaechonpjgaaDoor.own_tld h.up d
  by_cases hd : own T d = 0
  · rw [hd]
    refine h2 fun m hm e => ?_
    obtain ⟨k1, k2, _⟩ := h.is m hm
    rw [e] at k1
    omega
  · obtain ⟨m, hm, e⟩ := h.all d hd
    rw [h1 m hm e, (h.is m hm).1, e]
theorem blc_before {T : Td} {d : Int} (h : ∀ r ∈ T, d < r.1) : blc T d = 0 := sm_zero fun r hr => by
  rw [if_neg]
  have := h r hr
  simp
  omega
theorem blc_behind {T : Td} {d : Int} (h : ∀ r ∈ T, r.1 ≤ d) : blc T d = tot T := sm_congr fun r hr => by
  rw [if_pos]
  simpa using h r hr
/-- a day's rows behind those of earlier days -/
theorem step_own {V G : Td} {d : Int} (hV : ∀ r ∈ V, r.1 < d) (hG : ∀ r ∈ G, r.1 = d) (x : Int) : own (V ++ G) x = if x = d then tot G else own V x := by
  rw [own_append]
  by_cases hx : x = d
  · subst hx
    rw [if_pos rfl, own_none (fun r hr => by have := hV r hr; omega)]
    have : own G x = tot G := sm_congr fun r hr => by rw [if_pos (hG r hr)]
    omega
  · rw [if_neg hx, own_none (L := G) (fun r hr => by have := hG r hr; omega)]
    omega
theorem step_bal {V G : Td} {d : Int} (hV : ∀ r ∈ V, r.1 < d) (hG : ∀ r ∈ G, r.1 = d) (x : Int) : blc (V ++ G) x = if x < d then blc V x else tot V + tot G := by
  rw [blc_append]
  by_cases hx : x < d
  · rw [if_pos hx, blc_before (T := G) (fun r hr => by have := hG r hr; omega)]
    omega
  · rw [if_neg hx, blc_behind (T := G) (fun r hr => by have := hG r hr; omega), blc_behind (T := V) (fun r hr => by have := hV r hr; omega)]
theorem step_ser {V G : Td} {d : Int} {S : List Mk} (hV : ∀ r ∈ V, r.1 < d) (hG : ∀ r ∈ G, r.1 = d) (hS : Ser V S) : Ser (V ++ G) (if tot G = 0 then S else S ++ [(d, tot G, tot V + tot G)]) := by
  have hd : ∀ m ∈ S, m.1 < d := fun m hm => by
    obtain ⟨h1, h2, _⟩ := hS.is m hm
    by_cases hc : m.1 < d
    · exact hc
    · exfalso
      apply h2
      rw [h1]
      exact own_none fun r hr => by have := hV r hr; omega
  have hold : ∀ m ∈ S, m.2.1 = own (V ++ G) m.1 ∧ m.2.1 ≠ 0 ∧ m.2.2 = blc (V ++ G) m.1 := fun m hm => by
    obtain ⟨h1, h2, h3⟩ := hS.is m hm
    have := hd m hm
    rw [step_own hV hG, step_bal hV hG, if_neg (by omega), if_pos this]
    exact ⟨h1, h2, h3⟩
  by_cases hz : tot G = 0
  · rw [if_pos hz]
    refine ⟨hS.up, hold, fun x hx => ?_⟩
    rw [step_own hV hG] at hx
    by_cases hxd : x = d
    · rw [if_pos hxd] at hx; exact absurd hz hx
    · rw [if_neg hxd] at hx; exact hS.all x hx
  · rw [if_neg hz]
    refine ⟨?_, fun m hm => ?_, fun x hx => ?_⟩
    · rw [List.pairwise_append]
      refine ⟨hS.up, List.pairwise_singleton _ _, fun a ha b hb => ?_⟩
      rw [List.mem_singleton] at hb
      subst hb
      exact hd a ha
    · rcases List.mem_append.1 hm with hm | hm
      · exact hold m hm
      · rw [List.mem_singleton] at hm
        subst hm
        simp only
        rw [step_own hV hG, step_bal hV hG, if_pos rfl, if_neg (by omega)]
        exact ⟨rfl, hz, rfl⟩
    · rw [step_own hV hG] at hx
      by_cases hxd : x = d
      · exact ⟨_, List.mem_append_right _ (List.mem_singleton.2 rfl), hxd.symm⟩
      · rw [if_neg hxd] at hx
        obtain ⟨m, hm, e⟩ := hS.all x hx
        exact ⟨m, List.mem_append_left _ hm, e⟩
theorem step_fit {V G : Td} {d : Int} (hV : ∀ r ∈ V, r.1 < d) (hG : ∀ r ∈ G, r.1 = d) (hf : fitT V) (h1 : isA (tot G)) (h2 : isA (tot V + tot G)) : fitT (V ++ G) := fun x => by
  rw [step_own hV hG, step_bal hV hG]
  constructor
  · split
    · exact h1
    · exact (hf x).1
  · split
    · exact (hf x).2
    · exact h2
theorem step_bad {V G R : Td} {d : Int} (hV : ∀ r ∈ V, r.1 < d) (hG : ∀ r ∈ G, r.1 = d) (hR : ∀ r ∈ R, d < r.1) (h : ¬ (isA (tot G) ∧ isA (tot V + tot G))) : ¬ fitT (V ++ G ++ R) := fun hf => by
  apply h
  have h3 := hf d
  rw [own_append, blc_append, step_own hV hG, step_bal hV hG, if_pos rfl, if_neg (by omega), own_none (L := R) (fun r hr => by have := hR r hr; omega), blc_before hR, Int.add_zero, Int.add_zero] at h3
  exact h3
/-- the staying marks -/
theorem Ser.take {T : Td} {S : List Mk} (h : Ser T S) (k : Nat) : Ser (tld (S.take k)) (S.take k) := by
  have hu : (S.take k).Pairwise fun a b => a.1 < b.1 := h.up.sublist (List.take_sublist _ _)
  have hlt : ∀ a ∈ S.take k, ∀ b ∈ S.drop k, a.1 < b.1 := fun a ha b hb => by
    have := h.up
    rw [← List.take_append_drop k S, List.pairwise_append] at this
    exact this.2.2 a ha b hb
  refine ⟨hu, fun m hm => ?_, fun d hd => ?_⟩
  · have hmS : m ∈ S := List.mem_of_mem_take hm
    obtain ⟨h1, h2, h3⟩ := h.is m hmS
    refine ⟨((YtenoaechonpjgaaDoor.own_tld hu m.1).1 m hm rfl).symm, h2, ?_⟩
    rw [h3, ← blc_same h.own_tld]
    have e : tld S = tld (S.take k) ++ tld (S.drop k) := by unfold tld; rw [← List.map_append, List.take_append_drop]
    rw [e, blc_append, blc_before (T := tld (S.drop k)) (fun r hr => ?_)]
    · omega
    · obtain ⟨b, hb, rfl⟩ := List.mem_map.1 hr
      exact hlt m hm b hb
  · by_cases hm : ∃ m ∈ S.take k, m.1 = d
    · exact hm
    · exact absurd ((YtenoaechonpjgaaDoor.own_tld hu d).2 fun m hmm e => hm ⟨m, hmm, e⟩) hd
/-- the last mark's balance is all that was told -/
theorem Ser.tot_last {S : List Mk} {m : Mk} (h : Ser (tld (S ++ [m])) (S ++ [m])) : tot (tld (S ++ [m])) = m.2.2 := by
  obtain ⟨_, _, h3⟩ := h.is m (List.mem_append_right _ (List.mem_singleton.2 rfl))
  rw [h3]
  refine (blc_behind fun r hr => ?_).symm
  obtain ⟨b, hb, rfl⟩ := List.mem_map.1 hr
  rcases List.mem_append.1 hb with hb | hb
  · have := h.up
    rw [List.pairwise_append] at this
    have := this.2.2 b hb m (List.mem_singleton.2 rfl)
    simp only
    omega
  · rw [List.mem_singleton] at hb
    subst hb
    exact Int.le_refl _
theorem Ser.take_fit {T : Td} {S : List Mk} (h : Ser T S) (hf : fitT T) : ∀ k, fitT (tld (S.take k))
  | 0 => by rw [List.take_zero]; exact fitT.nil
  | k + 1 => by
    by_cases hk : k < S.length
    · have e : S.take (k + 1) = S.take k ++ [S[k]] := List.take_succ_eq_append_getElem hk
      have hm : S[k] ∈ S := List.getElem_mem hk
      obtain ⟨h1, h2, h3⟩ := h.is _ hm
      have ht := h.take (k + 1)
      rw [e] at ht ⊢
      have hl := ht.tot_last
      have e2 : tld (S.take k ++ [S[k]]) = tld (S.take k) ++ [(S[k].1, S[k].2.1)] := by unfold tld; rw [List.map_append]; rfl
      have hV : ∀ r ∈ tld (S.take k), r.1 < S[k].1 := fun r hr => by
        obtain ⟨b, hb, rfl⟩ := List.mem_map.1 hr
        have := ht.up
        rw [List.pairwise_append] at this
        exact this.2.2 b hb _ (List.mem_singleton.2 rfl)
      have hG : ∀ r ∈ [(S[k].1, S[k].2.1)], r.1 = S[k].1 := fun r hr => by rw [List.mem_singleton] at hr; subst hr; rfl
      have et : tot [(S[k].1, S[k].2.1)] = S[k].2.1 := by simp [tot, sm]
      rw [e2] at hl ⊢
      have etot : tot (tld (S.take k)) + tot [(S[k].1, S[k].2.1)] = S[k].2.2 := by
        rw [← hl]
        exact (sm_append _ _ _).symm
      refine step_fit hV hG (h.take_fit hf k) ?_ ?_
      · rw [et, h1]; exact (hf _).1
      · rw [etot, h3]; exact (hf _).2
    · rw [List.take_of_length_le (by omega), ← List.take_of_length_le (show S.length ≤ k by omega)]
      exact h.take_fit hf k
/-- rows told to a series: those that stay, and all others by their days -/
theorem own_cut {T M A : Td} {S : List Mk} (h : Ser T S) (k : Nat) (hA : A.Perm (M ++ tld (S.drop k))) (d : Int) : own (tld (S.take k) ++ A) d = own (T ++ M) d := by
  rw [own_append, own_append, own_perm hA, own_append, ← h.own_tld d]
  have e : tld S = tld (S.take k) ++ tld (S.drop k) := by unfold tld; rw [← List.map_append, List.take_append_drop]
  rw [e, own_append]
  omega
end Go.Proofs.YtenoaechonpjgaaDoor
