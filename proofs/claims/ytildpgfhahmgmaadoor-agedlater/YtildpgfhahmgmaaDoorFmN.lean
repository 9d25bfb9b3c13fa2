/- aged: From of a view's own state takes all of it, in plain words. -/
import Derived.Test.YtildpgfhahmgmaaDoorNwA
namespace Go.Proofs.YtildpgfhahmgmaaDoor
open Go Go.Shelf Go.ChangeShapes Go.WideShapes Go.ChangeAt Go.RowKit Go.Maps
set_option linter.unusedVariables false
theorem sumC_nonneg {C : List Cl} (h : ∀ c ∈ C, 0 ≤ c.amt) : 0 ≤ sumC C := by
  induction C with
  | nil => exact Int.le_refl _
  | cons c C ih =>
    have h1 := h c List.mem_cons_self
    have h2 := ih (fun x hx => h x (List.mem_cons_of_mem _ hx))
    show 0 ≤ c.amt + sumC C
    omega
theorem dayB_of {t : Int} (h1 : 1 ≤ t) (h2 : t ≤ 3652059) : dayB t = true := by
  unfold dayB
  rw [decide_eq_true h1, decide_eq_true h2]; rfl
theorem Good.inv0 {C : List Cl} {A : List Al} {g : Int} (h : Good C A g) (i : Nat) (hi : i < C.length) : invS (C.take i) C[i] = 0 := by
  have hc := h.ok C[i] (List.getElem_mem hi)
  have h1 := hc.d1; have h2 := hc.d2; have h3 := hc.d3; have h4 := hc.a1
  unfold invS
  rw [if_neg (fun hx => hx ⟨dayB_of h1 (by omega), dayB_of (by omega) h2, by omega, by omega⟩), if_neg (by rw [List.length_take]; have := h.l1; omega), if_neg, if_neg]
  · have e : C = C.take i ++ ([C[i]] ++ C.drop (i + 1)) := by
      rw [List.singleton_append, ← List.drop_eq_getElem_cons hi, List.take_append_drop]
    have h5 := h.tot
    rw [e, sumC_append, sumC_append] at h5
    have h6 : sumC [C[i]] = C[i].amt := by show C[i].amt + 0 = _; omega
    have h7 := sumC_nonneg (C := C.drop (i + 1)) (fun c hc => by have := (h.ok c (List.mem_of_mem_drop hc)).a1; omega)
    rw [h6] at h5
    omega
  · rw [has_iff]
    rintro ⟨c, hc, e⟩
    obtain ⟨j, hj, ej⟩ := List.mem_iff_getElem.1 hc
    have hj' : j < i := by rw [List.length_take] at hj; omega
    have hn := h.key
    rw [List.nodup_iff_pairwise_ne, List.pairwise_map, List.pairwise_iff_getElem] at hn
    refine hn j i (by omega) hi hj' ?_
    rw [List.getElem_take] at ej
    rw [ej]; exact e
theorem sumAll_ptsOf_le {A : List Al} (h : ∀ a ∈ A, 1 ≤ a.amt) (s : List UInt8) (i : Nat) (hi : i < A.length) (hs : A[i].inv.data.toList = s) : sumAll (ptsOf (A.take i) s) + A[i].amt ≤ sumAll (ptsOf A s) := by
  have e : A = A.take i ++ ([A[i]] ++ A.drop (i + 1)) := by
    rw [List.singleton_append, ← List.drop_eq_getElem_cons hi, List.take_append_drop]
  have h1 : ptsOf A s = ptsOf (A.take i) s ++ (ptsOf [A[i]] s ++ ptsOf (A.drop (i + 1)) s) := by
    conv => lhs; rw [e]
    rw [ptsOf_append, ptsOf_append]
  have h2 : ptsOf [A[i]] s = [(A[i].day, A[i].amt)] := by rw [ptsOf_one, if_pos hs]
  have h3 : 0 ≤ sumAll (ptsOf (A.drop (i + 1)) s) := sumAll_nonneg fun x hx => by
    unfold ptsOf at hx
    obtain ⟨a, ha, rfl⟩ := List.mem_map.1 hx
    exact h a (List.mem_of_mem_drop (List.mem_filter.1 ha).1)
  rw [h1, h2, sumAll_append, sumAll_append, sumAll_one]
  show _ + A[i].amt ≤ _ + (A[i].amt + _)
  omega
theorem Good.find {C : List Cl} {A : List Al} {g : Int} (h : Good C A g) {c : Cl} (hc : c ∈ C) : findC C c.key.data.toList = some c := by
  unfold findC
  cases hf : C.find? (fun x => decide (x.key.data.toList = c.key.data.toList)) with
  | none =>
    rw [List.find?_eq_none] at hf
    exact absurd (by simp) (hf c hc)
  | some x =>
    have h1 := List.mem_of_find?_eq_some hf
    have h2 : x.key.data.toList = c.key.data.toList := by simpa using List.find?_some hf
    have hn := h.key
    rw [List.nodup_iff_pairwise_ne, List.pairwise_map, List.pairwise_iff_getElem] at hn
    obtain ⟨i, hi, ei⟩ := List.mem_iff_getElem.1 h1
    obtain ⟨j, hj, ej⟩ := List.mem_iff_getElem.1 hc
    congr 1
    rcases Nat.lt_trichotomy i j with hij | hij | hij
    · exact absurd (by rw [ei, ej]; exact h2) (hn i j hi hj hij)
    · subst hij; rw [← ei, ← ej]
    · exact absurd (by rw [ei, ej]; exact h2.symm) (hn j i hj hi hij)
theorem Good.all0 {C : List Cl} {A : List Al} {g : Int} (h : Good C A g) (i : Nat) (hi : i < A.length) : allS C (A.take i) A[i] = 0 := by
  obtain ⟨h1, h2, c, hc, h3, h4⟩ := h.al A[i] (List.getElem_mem hi)
  have hd := (h.ok c hc).d1
  unfold allS
  rw [if_neg (fun hx => hx ⟨dayB_of (by omega) h2, by omega⟩), if_neg (by rw [List.length_take]; have := h.l2; omega), ← h3, h.find hc]
  show (if A[i].day < c.day then (66 : Int) else if A[i].amt > c.amt - sumAll (ptsOf (A.take i) c.key.data.toList) then 75 else 0) = 0
  have h5 := sumAll_ptsOf_le (fun a ha => (h.al a ha).1) c.key.data.toList i hi h3.symm
  have h6 := h.sum c hc
  rw [if_neg (by omega), if_neg (by omega)]
theorem Good.adv0 {C : List Cl} {A : List Al} {g : Int} (h : Good C A g) : advS 0 (1 + g) = 0 := by
  have := h.g
  unfold advS
  rw [dayB_of (by omega) (by omega), if_neg (by simp), if_neg (by omega)]
end Go.Proofs.YtildpgfhahmgmaaDoor
