/- the law's own makers: what they make is good. -/
import Derived.Test.YtildpgfhahmgmaaDoorDlC
import Derived.Test.YtildpgfhahmgmaaDoorNwA
namespace Go.Proofs.YtildpgfhahmgmaaDoor
open Go Go.Shelf Go.ChangeShapes Go.WideShapes Go.ChangeAt Go.RowKit Go.Maps
set_option linter.unusedVariables false
theorem alD_bounds {c : Cl} (h : 1 ≤ c.day ∧ c.day ≤ 3652059) (p : Int × Int) : c.day ≤ alD c p ∧ alD c p ≤ 3652059 := by
  have h1 := into_bounds p.1 (lo := 0) (hi := 500) (by decide)
  have h2 := into_bounds (c.day + intoS p.1 0 500) (lo := 1) (hi := 3652059) (by decide)
  refine ⟨?_, h2.2⟩
  unfold alD
  show c.day ≤ intoS (c.day + intoS p.1 0 500) 1 3652059
  generalize intoS p.1 0 500 = T at *
  unfold intoS
  split
  · omega
  · split <;> omega
theorem row_ind (c : Cl) (P : List (Int × Int)) (Q : Int × List Al → Prop) (h0 : Q (c.amt, [])) (hs : ∀ s p, Q s → Q (alStep c s p)) (k : Nat) : Q (rowS c P k) := by
  induction k with
  | zero => exact h0
  | succ k ih =>
    by_cases hk : k < P.length
    · rw [rowS_succ c hk]; exact hs _ _ ih
    · rw [rowS_all c (by omega), ← rowS_all c (k := k) (by omega)]; exact ih
theorem row_mem {c : Cl} (h : 1 ≤ c.day ∧ c.day ≤ 3652059) (P : List (Int × Int)) (k : Nat) : ∀ a ∈ (rowS c P k).2, a.inv = c.key ∧ 1 ≤ a.amt ∧ a.day ≤ 3652059 ∧ c.day ≤ a.day := by
  refine row_ind c P (fun s => ∀ a ∈ s.2, a.inv = c.key ∧ 1 ≤ a.amt ∧ a.day ≤ 3652059 ∧ c.day ≤ a.day) (fun a ha => by cases ha) (fun s p ih a ha => ?_) k
  unfold alStep at ha
  split at ha
  · exact ih a ha
  · rename_i hn
    rcases List.mem_append.1 ha with ha | ha
    · exact ih a ha
    · rw [List.mem_singleton.1 ha]
      exact ⟨rfl, by show 1 ≤ alN s.1 p; omega, (alD_bounds h p).2, (alD_bounds h p).1⟩
theorem row_sum (c : Cl) (P : List (Int × Int)) (k : Nat) : sumAll (ptsOf (rowS c P k).2 c.key.data.toList) = c.amt - (rowS c P k).1 := by
  refine row_ind c P (fun s => sumAll (ptsOf s.2 c.key.data.toList) = c.amt - s.1) (by show (0 : Int) = c.amt - c.amt; omega) (fun s p ih => ?_) k
  unfold alStep
  split
  · exact ih
  · show sumAll (ptsOf (s.2 ++ [_]) _) = c.amt - (s.1 - alN s.1 p)
    rw [ptsOf_append, ptsOf_one, if_pos rfl, sumAll_append, ih]
    show _ + (alN s.1 p + 0) = _
    omega
theorem row_else {c : Cl} (P : List (Int × Int)) (k : Nat) {s : List UInt8} (h : c.key.data.toList ≠ s) : ptsOf (rowS c P k).2 s = [] := by
  refine row_ind c P (fun x => ptsOf x.2 s = []) rfl (fun x p ih => ?_) k
  unfold alStep
  split
  · exact ih
  · show ptsOf (x.2 ++ [_]) s = []
    rw [ptsOf_append, ih, ptsOf_one, if_neg h]
    rfl
theorem alP_mem {C : List Cl} {L : List Dl} {i : Nat} {a : Al} (hi : i ≤ C.length) (hL : i ≤ L.length) (h : a ∈ alP C L i) : ∃ j, ∃ (h1 : j < C.length) (h2 : j < L.length), j < i ∧ a ∈ (rowS C[j] L[j].parts 6).2 := by
  induction i with
  | zero => cases h
  | succ i ih =>
    rw [alP_succ (by omega) (by omega)] at h
    rcases List.mem_append.1 h with h | h
    · obtain ⟨j, h1, h2, h3, h4⟩ := ih (by omega) (by omega) h
      exact ⟨j, h1, h2, by omega, h4⟩
    · exact ⟨i, by omega, by omega, by omega, h⟩
theorem alP_sum {C : List Cl} {L : List Dl} (hn : (C.map fun c => c.key.data.toList).Nodup) {q : Nat} (hq : q < C.length) (hqL : q < L.length) (i : Nat) (hi : i ≤ C.length) (hL : i ≤ L.length) :
    sumAll (ptsOf (alP C L i) C[q].key.data.toList) = if q < i then C[q].amt - (rowS C[q] L[q].parts 6).1 else 0 := by
  induction i with
  | zero => rfl
  | succ i ih =>
    rw [alP_succ (by omega) (by omega), ptsOf_append, sumAll_append, ih (by omega) (by omega)]
    by_cases e : q = i
    · subst e
      rw [row_sum, if_neg (by omega), if_pos (by omega)]
      omega
    · rw [row_else _ _ (fun h => e (by
        have h1 := (List.getElem_inj (i := i) (j := q) (h₀ := by simpa using (by omega : i < C.length)) (h₁ := by simpa using hq) hn).1 (by simpa using h)
        exact h1.symm))]
      by_cases hlt : q < i
      · rw [if_pos hlt, if_pos (by omega)]; show _ + 0 = _; omega
      · rw [if_neg hlt, if_neg (by omega)]; rfl
theorem alP_len {C : List Cl} {L : List Dl} (hc : ∀ c ∈ C, 0 ≤ c.amt) (i : Nat) (hi : i ≤ C.length) (hL : i ≤ L.length) : (alP C L i).length ≤ 6 * i := by
  induction i with
  | zero => exact Nat.le_refl _
  | succ i ih =>
    rw [alP_succ (by omega) (by omega), List.length_append]
    have := ih (by omega) (by omega)
    have := (rowS_bounds C[i] L[i].parts (hc _ (List.getElem_mem (by omega))) 6).2.2
    omega
theorem sumC_bound {C : List Cl} {B : Int} (hB : 0 ≤ B) (h : ∀ c ∈ C, c.amt ≤ B) : sumC C ≤ C.length * B := by
  induction C with
  | nil => show (0 : Int) ≤ _; simp
  | cons c C ih =>
    show c.amt + sumC C ≤ _
    have h1 := h c (List.mem_cons_self ..)
    have h2 := ih (fun x hx => h x (List.mem_cons_of_mem _ hx))
    rw [List.length_cons]
    push_cast
    rw [Int.add_mul, Int.one_mul]
    omega
/-- what the makers make -/
theorem made_good {C : List Cl} {L : List Dl} (h5 : C.length ≤ 50) (hL : C.length ≤ L.length) (hok : ∀ c ∈ C, OkC c) (ha : ∀ c ∈ C, c.amt ≤ 1000000000) (hn : (C.map fun c => c.key.data.toList).Nodup) : Good C (alP C L C.length) 0 := by
  have hd : ∀ c ∈ C, 1 ≤ c.day ∧ c.day ≤ 3652059 := fun c hc => ⟨(hok c hc).d1, Int.le_trans (hok c hc).d3 (hok c hc).d2⟩
  have h0 : ∀ c ∈ C, 0 ≤ c.amt := fun c hc => by have := (hok c hc).a1; omega
  refine ⟨hok, hn, by omega, by have := alP_len (L := L) h0 C.length (Nat.le_refl _) hL; omega, ?_, fun a hm => ?_, fun c hc => ?_, by omega, by omega⟩
  · have := sumC_bound (B := 1000000000) (by decide) ha
    omega
  · obtain ⟨j, h1, h2, _, h4⟩ := alP_mem (Nat.le_refl _) hL hm
    obtain ⟨e1, e2, e3, e4⟩ := row_mem (hd _ (List.getElem_mem h1)) _ _ a h4
    exact ⟨e2, e3, C[j], List.getElem_mem h1, by rw [e1], e4⟩
  · obtain ⟨q, hq, rfl⟩ := List.getElem_of_mem hc
    rw [alP_sum hn hq (by omega) _ (Nat.le_refl _) hL, if_pos hq]
    have := (rowS_bounds C[q] (L[q]'(by omega)).parts (h0 _ hc) 6).1
    omega
theorem clOf_ok {i : Nat} {d : Dl} (h : d.acc.size ≤ maxLen) : OkC (clOf i d) ∧ (clOf i d).amt ≤ 1000000000 := by
  have h1 := into_bounds d.day (lo := 1) (hi := 3651659) (by decide)
  have h2 := into_bounds d.wait (lo := 0) (hi := 400) (by decide)
  have h3 := amount_bounds d.amt
  refine ⟨⟨h1.1, ?_, ?_, h3.1, ?_, ?_, h⟩, h3.2⟩
  · show intoS d.day 1 3651659 + intoS d.wait 0 400 ≤ 3652059; omega
  · show intoS d.day 1 3651659 ≤ intoS d.day 1 3651659 + intoS d.wait 0 400; omega
  · show amountS d.amt ≤ _; omega
  · show (keyS i).size ≤ maxLen
    exact (by decide : 3 ≤ maxLen)
theorem clP_nodup (L : List Dl) {n : Nat} (h : n ≤ 50) : ((clP L n).map fun c => c.key.data.toList).Nodup := by
  unfold clP
  rw [List.map_map]
  refine List.Pairwise.map _ (R := fun a b => a < 50 ∧ b < 50 ∧ a ≠ b) (fun a b hab e => hab.2.2 (keyS_inj a hab.1 b hab.2.1 ?_)) ?_
  · have e2 : (keyS a).data.toList = (keyS b).data.toList := e
    cases ha : keyS a with
    | mk da => cases hb : keyS b with
      | mk db => rw [ha, hb] at e2; exact congrArg ByteArray.mk (Array.toList_inj.1 e2)
  · refine (List.nodup_range (n := n)).imp_of_mem (fun {a b} ha hb hab => ⟨?_, ?_, hab⟩)
    · have := List.mem_range.1 ha; omega
    · have := List.mem_range.1 hb; omega
/-- the deals' claims and allotments -/
theorem deals_good {L : List Dl} {n : Nat} (hn : n ≤ L.length) (h5 : n ≤ 50) (ha : ∀ d ∈ L, d.acc.size ≤ maxLen) : Good (clP L n) (alP (clP L n) L n) 0 ∧ (∀ c ∈ clP L n, c.key.size ≤ maxLen ∧ c.acc.size ≤ maxLen) ∧ ∀ a ∈ alP (clP L n) L n, a.inv.size ≤ maxLen := by
  have hl := clP_len L n
  have hc : ∀ c ∈ clP L n, OkC c ∧ c.amt ≤ 1000000000 := fun c hc => by
    unfold clP at hc
    obtain ⟨i, hi, rfl⟩ := List.mem_map.1 hc
    have hi' : i < L.length := by have := List.mem_range.1 hi; omega
    rw [List.getD_eq_getElem?_getD, List.getElem?_eq_getElem hi']
    exact clOf_ok (ha _ (List.getElem_mem hi'))
  have hg := made_good (C := clP L n) (L := L) (by omega) (by omega) (fun c h => (hc c h).1) (fun c h => (hc c h).2) (clP_nodup L h5)
  rw [hl] at hg
  refine ⟨hg, fun c h => ⟨(hc c h).1.s1, (hc c h).1.s2⟩, fun a hm => ?_⟩
  obtain ⟨j, h1, h2, _, h4⟩ := alP_mem (by omega) hn hm
  have hd := (hc _ (List.getElem_mem h1)).1
  rw [(row_mem ⟨hd.d1, Int.le_trans hd.d3 hd.d2⟩ _ _ a h4).1]
  exact hd.s1
end Go.Proofs.YtildpgfhahmgmaaDoor
