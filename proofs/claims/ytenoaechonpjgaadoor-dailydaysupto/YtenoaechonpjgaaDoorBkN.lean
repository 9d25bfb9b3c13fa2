/- daily: rows with the opposite amounts. -/
import Derived.Test.YtenoaechonpjgaaDoorDlV
namespace Go.Proofs.YtenoaechonpjgaaDoor
open Go Go.Shelf Go.ChangeShapes Go.WideShapes Go.ChangeAt Go.RowKit Go.Maps Go.Sort
set_option linter.unusedVariables false
/-- a row with the opposite amount -/
def bRo (r : Ro) : Ro := { r with amt := IntKind.i64.wrap (-r.amt) }
theorem wrap_opp {x : Int} (h1 : -9223372036854775807 ≤ x) (h2 : x ≤ 9223372036854775807) : IntKind.i64.wrap (-x) = -x := by
  rw [IntKind.wrap_i64]
  omega
theorem Can.back {R : List Ro} (h : Can R) : Can (R.map bRo) where
  acc r hr := by
    obtain ⟨q, hq, rfl⟩ := List.mem_map.1 hr
    exact h.acc q hq
  amt r hr := by
    obtain ⟨q, hq, rfl⟩ := List.mem_map.1 hr
    show -9223372036854775808 ≤ IntKind.i64.wrap (-q.amt) ∧ IntKind.i64.wrap (-q.amt) ≤ 9223372036854775807
    rw [IntKind.wrap_i64]
    omega
theorem ok_back {R : List Ro} (hc : Can R) (h : ∀ r ∈ R, okR r) : ∀ r ∈ R.map bRo, okR r := fun r hr => by
  obtain ⟨q, hq, rfl⟩ := List.mem_map.1 hr
  have ha := h q hq
  have hm := hc.amt q hq
  refine ⟨ha.1, ha.2.1, ha.2.2.1, ?_⟩
  show -9223372036854775807 ≤ IntKind.i64.wrap (-q.amt)
  rw [wrap_opp ha.2.2.2 hm.2]
  omega
theorem own_oppR : ∀ {R : List Ro}, Can R → (∀ r ∈ R, okR r) → ∀ k d, own (tol (R.map bRo) k) d = - own (tol R k) d
  | [], _, _, k, d => rfl
  | r :: R, hc, h, k, d => by
    have ih := own_oppR (hc.sub fun q hq => List.mem_cons_of_mem _ hq) (fun q hq => h q (List.mem_cons_of_mem _ hq)) k d
    have ha := h r List.mem_cons_self
    have hm := hc.amt r List.mem_cons_self
    rw [List.map_cons, tol_cons, tol_cons, own_append, own_append, ih]
    have e1 : (bRo r).acc = r.acc := rfl
    have e2 : (bRo r).day = r.day := rfl
    have e3 : (bRo r).amt = -r.amt := wrap_opp ha.2.2.2 hm.2
    rw [e1, e2, e3]
    by_cases hk : r.acc.data.toList = k
    · rw [if_pos hk, if_pos hk]
      have o1 : own [(r.day, -r.amt)] d = (if r.day = d then -r.amt else 0) + 0 := rfl
      have o2 : own [(r.day, r.amt)] d = (if r.day = d then r.amt else 0) + 0 := rfl
      rw [o1, o2]
      split <;> omega
    · rw [if_neg hk, if_neg hk, own_nil]
      omega
theorem own_there {R S : List Ro} (hc : Can S) (h : ∀ r ∈ S, okR r) (k : List UInt8) (d : Int) : own (tol (R ++ S ++ S.map bRo) k) d = own (tol R k) d := by
  rw [tol_append, tol_append, own_append, own_append, own_oppR hc h]
  omega
theorem fit_there {R S : List Ro} (hf : ∀ k, fitT (tol R k)) (hc : Can S) (h : ∀ r ∈ S, okR r) (k : List UInt8) : fitT (tol (R ++ S ++ S.map bRo) k) :=
  (hf k).same fun d => (own_there hc h k d).symm
end Go.Proofs.YtenoaechonpjgaaDoor
