/- What is found of files that were put or taken away: plain theory. -/
import Derived.Test.YtpeohbkigkfcgaaDkU
namespace Go.Proofs.Ytpeohbkigkfcgaa
open Go Go.Shelf Go.ChangeShapes Go.WideShapes Go.ChangeAt Go.RowKit
set_option linter.unusedVariables false
theorem get_none_iff {k : List UInt8} {A : Fs} : getF k A = none ↔ ∀ p ∈ A, p.1 ≠ k := by
  unfold getF
  rw [Option.map_eq_none_iff, List.find?_eq_none]
  simp
theorem get_of_mem {k : List UInt8} {x : Fl} {A : Fs} (hO : OrdF A) (h : (k, x) ∈ A) : getF k A = some x := by
  obtain ⟨j, hj⟩ := List.mem_iff_getElem?.1 h
  exact get_at hO hj
theorem get_del_self (k : List UInt8) (A : Fs) : getF k (delF k A) = none := get_none_iff.2 fun p hp => (mem_delF.1 hp).2
theorem get_del_other {k k' : List UInt8} {A : Fs} (hO : OrdF A) (hne : k' ≠ k) : getF k' (delF k A) = getF k' A := by
  cases h : getF k' A with
  | none => exact get_none_iff.2 fun p hp => get_none_iff.1 h p (mem_delF.1 hp).1
  | some x => exact get_of_mem (ord_del hO k) (mem_delF.2 ⟨get_mem h, hne⟩)
theorem get_put_self {k : List UInt8} {x : Fl} {A : Fs} (hO : OrdF A) : getF k (putF k x A) = some x := get_of_mem (ord_put hO k x) (mem_putF.2 (.inl rfl))
theorem get_put_other {k k' : List UInt8} {x : Fl} {A : Fs} (hO : OrdF A) (hne : k' ≠ k) : getF k' (putF k x A) = getF k' A := by
  cases h : getF k' A with
  | none =>
    refine get_none_iff.2 (fun p hp => ?_)
    rcases mem_putF.1 hp with rfl | ⟨hp, _⟩
    · exact fun e => hne e.symm
    · exact get_none_iff.1 h p hp
  | some y => exact get_of_mem (ord_put hO k x) (mem_putF.2 (.inr ⟨get_mem h, hne⟩))
/-- one of the name taken away: just its bytes are gone -/
theorem tot_del_some {k : List UInt8} {x : Fl} {A : Fs} (hO : OrdF A) (h : getF k A = some x) : totF (delF k A) + x.bs.length = totF A := by
  have h1 : totF (putF k x A) = x.bs.length + totF (delF k A) := tot_ins (k, x) (delF k A)
  obtain ⟨j, hj⟩ := List.mem_iff_getElem?.1 (get_mem h)
  have h2 : putF k x A = A := by
    rw [put_set x hO hj]
    refine List.ext_getElem? (fun i => ?_)
    rw [List.getElem?_set]
    by_cases e : j = i
    · subst e
      have : j < A.length := by
        rw [List.getElem?_eq_some_iff] at hj
        exact hj.1
      rw [if_pos rfl, if_pos this, hj]
    · rw [if_neg e]
  rw [h2] at h1
  omega
theorem tot_put {k : List UInt8} {x : Fl} {A : Fs} : totF (putF k x A) = x.bs.length + totF (delF k A) := tot_ins (k, x) (delF k A)
theorem len_put {k : List UInt8} {x : Fl} {A : Fs} : (putF k x A).length = (delF k A).length + 1 := len_ins (k, x) (delF k A)
/-- put and taken away again: as if it had never been -/
theorem del_put {k : List UInt8} {x : Fl} {A : Fs} : ∀ (hO : OrdF A), totF (delF k (putF k x A)) = totF (delF k A) := fun hO => by
  have h1 := tot_del_some (ord_put hO k x) (get_put_self (k := k) (x := x) hO)
  have h2 : totF (putF k x A) = x.bs.length + totF (delF k A) := tot_put
  omega
/-- the names of a disk that acts have made -/
def SixK (K : Dk) : Prop := ∀ p ∈ K.A, ∃ s ∈ sixN, p.1 = s.data.toList
theorem prS_mem (s : ByteArray) : prS s ∈ sixN := by
  have h := prN_lt s.data.toList 0 (by decide)
  unfold prS
  generalize prN s.data.toList 0 = n at h
  match n, h with
  | 0, _ => simp [sixN]
  | 1, _ => simp [sixN]
  | 2, _ => simp [sixN]
  | 3, _ => simp [sixN]
  | 4, _ => simp [sixN]
  | 5, _ => simp [sixN]
theorem six_chg {K : Dk} {er : Int} {A' : Fs} (h : SixK K) (hA : ∀ p ∈ A', ∃ s ∈ sixN, p.1 = s.data.toList) : SixK (chgK K er A').1 := by
  unfold chgK
  split
  · exact h
  · split
    · exact h
    · split
      · exact h
      · exact hA
theorem six_put {A : Fs} {s : ByteArray} {x : Fl} (h : ∀ p ∈ A, ∃ s ∈ sixN, p.1 = s.data.toList) : ∀ p ∈ putF (prS s).data.toList x A, ∃ s ∈ sixN, p.1 = s.data.toList := fun p hp => by
  rcases mem_putF.1 hp with rfl | ⟨hp, _⟩
  · exact ⟨prS s, prS_mem s, rfl⟩
  · exact h p hp
theorem six_act {o : OpV} {K : Dk} (h : SixK K) : SixK (actK o K).1 := by
  unfold actK
  split
  · exact six_chg h (six_put h)
  · split
    · refine six_chg h ?_
      unfold appA
      split
      · exact six_put h
      · exact h
    · split
      · refine six_chg h ?_
        unfold syncA
        split
        · exact six_put h
        · exact h
      · split
        · refine six_chg h ?_
          unfold renA
          split
          · exact six_put (fun p hp => h p (mem_delF.1 hp).1)
          · exact h
        · split
          · exact six_chg h (fun p hp => h p (mem_delF.1 hp).1)
          · split
            · unfold fuseK
              split
              · exact h
              · split <;> exact h
            · split
              · intro p hp
                have hk : p.1 ∈ (cutTo o.ks K.A K.A.length).map (·.1) := List.mem_map.2 ⟨p, hp, rfl⟩
                rw [cutTo_keys] at hk
                obtain ⟨q, hq, e⟩ := List.mem_map.1 hk
                rw [← e]
                exact h q hq
              · exact h
end Go.Proofs.Ytpeohbkigkfcgaa
