/- What a crash leaves: plain theory. -/
import Derived.Test.YtpeohbkigkfcgaaDkN
namespace Go.Proofs.Ytpeohbkigkfcgaa
open Go Go.Shelf Go.ChangeShapes Go.WideShapes Go.ChangeAt Go.RowKit
set_option linter.unusedVariables false
theorem bytes_asymm {a b : List UInt8} (h : bytesBefore a b = true) : bytesBefore b a = false := by
  cases h2 : bytesBefore b a with
  | false => rfl
  | true =>
    have := bytes_trans _ _ _ h h2
    rw [Go.WideAt.bytes_irrefl] at this
    cases this
/-- a file put under a name that is there takes its place -/
theorem put_set : ∀ {A : Fs} {j : Nat} {k : List UInt8} {x : Fl} (y : Fl), OrdF A → A[j]? = some (k, x) → putF k y A = A.set j (k, y)
  | [], j, k, x, y, _, h => by simp at h
  | a :: A, 0, k, x, y, hO, h => by
    simp only [List.getElem?_cons_zero, Option.some.injEq] at h
    subst h
    unfold OrdF at hO
    rw [List.pairwise_cons] at hO
    have hd : delF k ((k, x) :: A) = A := by
      have h1 : delF k ((k, x) :: A) = delF k A := by unfold delF; rw [List.filter_cons]; simp
      rw [h1]
      refine del_none ?_
      unfold getF
      rw [Option.map_eq_none_iff, List.find?_eq_none]
      intro b hb e
      simp only [beq_iff_eq] at e
      have := hO.1 b hb
      rw [e, Go.WideAt.bytes_irrefl] at this
      cases this
    unfold putF
    rw [hd, List.set_cons_zero]
    cases A with
    | nil => rfl
    | cons b r =>
      have : (Lit.string k).before (.string b.1) = true := hO.1 b (by simp)
      unfold insF
      rw [if_pos this]
  | a :: A, j + 1, k, x, y, hO, h => by
    simp only [List.getElem?_cons_succ] at h
    unfold OrdF at hO
    rw [List.pairwise_cons] at hO
    have hb := hO.1 _ (List.mem_of_getElem? h)
    have hne : (a.1 == k) = false := by
      rw [beq_eq_false_iff_ne]
      intro e
      rw [e, Go.WideAt.bytes_irrefl] at hb
      cases hb
    have hd : delF k (a :: A) = a :: delF k A := by unfold delF; rw [List.filter_cons, hne]; rfl
    have hbb : (Lit.string k).before (.string a.1) = false := bytes_asymm hb
    have ih := put_set (A := A) y hO.2 h
    unfold putF at ih ⊢
    rw [hd, List.set_cons_succ, ← ih]
    show insF (k, y) (a :: delF k A) = _
    rw [insF, if_neg (by rw [hbb]; simp)]
/-- how many bytes of a file a crash leaves -/
def leftC (ks : List Int) (i : Nat) (x : Fl) : Nat := if ks = [] then x.sy else x.sy + (min (max (ks.getD (i % ks.length) 0) 0) ((x.bs.length : Int) - (x.sy : Int))).toNat
def cutF (ks : List Int) (i : Nat) (x : Fl) : Fl := ⟨x.bs.take (leftC ks i x), leftC ks i x⟩
theorem left_le (ks : List Int) (i : Nat) {x : Fl} (h : x.sy ≤ x.bs.length) : leftC ks i x ≤ x.bs.length := by
  unfold leftC
  split
  · exact h
  · omega
theorem cut_len (ks : List Int) (i : Nat) {x : Fl} (h : x.sy ≤ x.bs.length) : (cutF ks i x).bs.length = leftC ks i x := by
  unfold cutF
  rw [List.length_take]
  have := left_le ks i h
  omega
/-- the files while a crash goes over them: the first j are cut -/
def cutTo (ks : List Int) (A : Fs) (j : Nat) : Fs := A.mapIdx fun i p => if i < j then (p.1, cutF ks i p.2) else p
theorem cutTo_get (ks : List Int) (A : Fs) (j i : Nat) : (cutTo ks A j)[i]? = (A[i]?).map fun p => if i < j then (p.1, cutF ks i p.2) else p := by
  unfold cutTo
  rw [List.getElem?_mapIdx]
theorem cutTo_zero (ks : List Int) (A : Fs) : cutTo ks A 0 = A := by
  refine List.ext_getElem? (fun i => ?_)
  rw [cutTo_get]
  cases A[i]? <;> simp
theorem cutTo_keys (ks : List Int) (A : Fs) (j : Nat) : (cutTo ks A j).map (·.1) = A.map (·.1) := by
  refine List.ext_getElem? (fun i => ?_)
  rw [List.getElem?_map, List.getElem?_map, cutTo_get]
  cases A[i]? with
  | none => rfl
  | some p =>
    simp only [Option.map_some]
    split <;> rfl
theorem ord_keys {A B : Fs} (h : A.map (·.1) = B.map (·.1)) (hO : OrdF A) : OrdF B := by
  have h1 : (A.map (·.1)).Pairwise fun x y => bytesBefore x y = true := List.pairwise_map.2 hO
  rw [h] at h1
  exact List.pairwise_map.1 h1
theorem cutTo_ord (ks : List Int) {A : Fs} (j : Nat) (hO : OrdF A) : OrdF (cutTo ks A j) := ord_keys (cutTo_keys ks A j).symm hO
theorem cutTo_step (ks : List Int) {A : Fs} {j : Nat} {k : List UInt8} {x : Fl} (hO : OrdF A) (h : A[j]? = some (k, x)) : putF k (cutF ks j x) (cutTo ks A j) = cutTo ks A (j + 1) := by
  have hj : (cutTo ks A j)[j]? = some (k, x) := by rw [cutTo_get, h]; simp
  rw [put_set _ (cutTo_ord ks j hO) hj]
  refine List.ext_getElem? (fun i => ?_)
  have hlt : j < (cutTo ks A j).length := by
    rcases Nat.lt_or_ge j (cutTo ks A j).length with h1 | h1
    · exact h1
    · rw [List.getElem?_eq_none h1] at hj; cases hj
  rw [List.getElem?_set, cutTo_get, cutTo_get]
  by_cases e : j = i
  · subst e
    rw [if_pos rfl, if_pos hlt, h]
    simp
  · rw [if_neg e]
    cases A[i]? with
    | none => rfl
    | some p =>
      simp only [Option.map_some, Option.some.injEq]
      by_cases h1 : i < j
      · rw [if_pos h1, if_pos (by omega)]
      · rw [if_neg h1, if_neg (by omega)]
theorem cutTo_len (ks : List Int) (A : Fs) (j : Nat) : (cutTo ks A j).length = A.length := by unfold cutTo; simp
/-- what a crash makes of a disk -/
def crashK (ks : List Int) (K : Dk) : Dk := ⟨K.cap, cutTo ks K.A K.A.length, -1, false⟩
end Go.Proofs.Ytpeohbkigkfcgaa
