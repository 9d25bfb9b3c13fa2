/- rows: lists of them copied, and built by append. -/
import Derived.Test.YtgohddimnphbkaaDoorVwA
import Derived.Laws.AppendOwnNone
namespace Go.Proofs.YtgohddimnphbkaaDoor
open Go Go.RowKit Go.Shelf Go.ChangeShapes Go.WideShapes Go.ChangeAt Go.Maps Go.Sort
set_option linter.unusedVariables false
def flatR (R : List Ro) : List Value := R.flatMap Ro.vals
theorem vals_len (r : Ro) : r.vals.length = 9 := rfl
theorem flatR_len (R : List Ro) : (flatR R).length = R.length * 9 := by
  induction R with
  | nil => rfl
  | cons r R ih => simp only [flatR, List.flatMap_cons, List.length_append, List.length_cons, vals_len] at ih ⊢; rw [ih]; omega
theorem flatR_append (R S : List Ro) : flatR (R ++ S) = flatR R ++ flatR S := List.flatMap_append
theorem flatR_one (r : Ro) : flatR [r] = r.vals := by simp [flatR]
theorem flatR_get : ∀ (R : List Ro) (k : Nat) (hk : k < R.length) (j : Nat), j < 9 → (flatR R)[k * 9 + j]? = (R[k]).vals[j]?
  | [], k, hk, _, _ => by simp at hk
  | r :: R, 0, _, j, hj => by
    rw [show flatR (r :: R) = r.vals ++ flatR R from by simp [flatR], List.getElem?_append_left (by rw [vals_len]; omega)]
    simp
  | r :: R, k + 1, hk, j, hj => by
    rw [show flatR (r :: R) = r.vals ++ flatR R from by simp [flatR], List.getElem?_append_right (by rw [vals_len]; omega)]
    have e : (k + 1) * 9 + j - r.vals.length = k * 9 + j := by rw [vals_len]; omega
    rw [e, flatR_get R k (by simpa using hk) j hj]
    simp
theorem vals_one (r : Ro) : ∀ u ∈ r.vals, u.oneCell' = true := fun u hu => by
  simp only [Ro.vals, List.mem_cons, List.not_mem_nil, or_false] at hu
  rcases hu with rfl | rfl | rfl | rfl | rfl | rfl | rfl | rfl | rfl <;> rfl
theorem flatR_one_cell (R : List Ro) : ∀ u ∈ flatR R, u.oneCell' = true := fun u hu => by
  obtain ⟨r, hr, h⟩ := List.mem_flatMap.1 hu
  exact vals_one r u h
theorem info35 : (Tryd.prog.info? 35).map (fun i => (i.zero, i.size, i.bytes)) = some (some (.agg #[.int .i64 0, .int .i64 0, .int .i64 0, .int .i64 0, .string ⟨#[]⟩, .string ⟨#[]⟩, .int .i64 0, .string ⟨#[]⟩, .string ⟨#[]⟩]), 9, 104) := by kernel_rfl
/-- a row of rows that a call owns -/
theorem own_rows {W : World} {B : Nat} {v : Value} {R : List Ro} {n : Nat} (hn : R.length = n) (h : W.ownsRow B 35 9 v n (flatR R)) : ∃ p c, v = .slice p n c ∧ RowsAt W p R ∧ ∀ q, p = some ⟨q, 0, none⟩ → B ≤ q := by
  rcases h.2 with ⟨e, h2⟩ | ⟨g, cap, cur, e, hB, hh, hc, hm, hcs, ht⟩
  · refine ⟨none, 0, by rw [e, h2], fun k hk => by omega, fun q h => by cases h⟩
  · refine ⟨_, _, e, fun k hk => ⟨g, rfl, (Array.getElem?_eq_some_iff.1 hh).1, fun j u hu => ?_⟩, fun q h => by injection h with h; injection h with h; omega⟩
    have hj : j < 9 := by
      have := (List.getElem?_eq_some_iff.1 hu).1
      rwa [vals_len] at this
    have h3 := flatR_get R k hk j hj
    rw [hu] at h3
    have hk2 : (cur.toList.take (n * 9))[k * 9 + j]? = some u := by rw [ht]; exact h3
    rw [List.getElem?_take_of_lt (by omega)] at hk2
    unfold World.cell?
    simp only [hh]
    simpa using hk2
/-- rows that came in: a slice at any place -/
def RowsIn (W : World) (pu : Option Addr) (R : List Ro) : Prop :=
  (pu = none → R = []) ∧ ∀ k (hk : k < R.length), ∃ b off, pu = some ⟨b, off, none⟩ ∧ b < W.heap.size ∧ W.rangeAt b (off + k * 9) (R[k]).vals
theorem RowsIn.below {W W' : World} {pu : Option Addr} {R : List Ro} (h : RowsIn W pu R) (hb : Below W.heap.size W W') : RowsIn W' pu R := by
  refine ⟨h.1, fun k hk => ?_⟩
  obtain ⟨b, off, e, hlt, hr⟩ := h.2 k hk
  exact ⟨b, off, e, Nat.lt_of_lt_of_le hlt hb.size, fun j u hu => (hb.cell (p := ⟨b, off + k * 9 + j, none⟩) hlt).trans (hr j u hu)⟩
set_option maxRecDepth 100000 in
theorem run_append_rows (W : World) (ty : TypeId) (pu : Option Addr) (cu : Nat) (R : List Ro) (hcu : pu = none → cu = 0) (hu : RowsIn W pu R) (hl : R.length ≤ 16777216) :
    ∃ p c w', (Builtin.append_ #[22, 22] ty #[.slice none 0 0, .slice pu R.length cu]).run Tryd.prog W = .ok (.slice p R.length c) w' ∧ RowsAt w' p R ∧ (∀ q, p = some ⟨q, 0, none⟩ → W.heap.size ≤ q) ∧ Below W.heap.size W w' := by
  obtain ⟨i, hi, hz, hsize, hby⟩ := info_parts info35
  cases pu with
  | none =>
    have hR := hu.1 rfl
    subst hR
    rw [hcu rfl]
    have hr := run_append_owned_none (P := Tryd.prog) (w := W) W.heap.size 22 ty 35 i 9 Tryd.underlying22 hi (.slice none 0 0) 0 [] (World.ownsRow_nil _ _ _ _)
    exact ⟨none, 0, W, hr, (fun k hk => (by simp at hk)), (fun q h => (by cases h)), Below.refl _ _⟩
  | some ad =>
    have hnews : ∀ j u, (flatR R)[j]? = some u → W.cell? (ad.add j) = some u := fun j u hj => by
      have hjl : j < R.length * 9 := by
        have := (List.getElem?_eq_some_iff.1 hj).1
        rwa [flatR_len] at this
      have hk : j / 9 < R.length := by omega
      obtain ⟨b, off, e, hlt, hr⟩ := hu.2 (j / 9) hk
      have e' : ad = ⟨b, off, none⟩ := Option.some.inj e
      subst e'
      have e9 : j = j / 9 * 9 + j % 9 := by omega
      rw [Addr.add_mid]
      have h3 := flatR_get R (j / 9) hk (j % 9) (by omega)
      rw [← e9, hj] at h3
      have h4 := hr (j % 9) u h3.symm
      rw [show off + j = off + j / 9 * 9 + j % 9 from by omega]
      exact h4
    obtain ⟨v', w', hr, ho, hg, hnil, hat⟩ := run_append_own_at (P := Tryd.prog) W W.heap.size 22 ty 35 i _ 9 104 Tryd.underlying22 hi hz hsize hby rfl (by decide) (.slice none 0 0) 0 [] (World.ownsRow_nil _ _ _ _) ad R.length cu (flatR R) (flatR_len R) hnews (flatR_one_cell R) (by unfold maxLen; omega) (by omega) (Nat.le_refl _)
    rw [Nat.zero_add, List.nil_append] at ho
    obtain ⟨p, c, rfl, h1, h2⟩ := own_rows rfl ho
    exact ⟨p, c, w', hr, h1, h2, below_of_grown hg⟩
/-- an append as an operation of a region, by its run -/
theorem wpList_append_run {P : Program} {w : World} {ops : Array Oper} {rest : List Oper} {o : Oper} {a : Act} {Q : Exit → Act → World → Prop} (hgd : o.guard = none) (s x : Operand) (t : TypeId)
    (ho : o.op = .call { callee := .builtin .append, args := #[s, x], argTypes := #[t, t] }) (v u v' : Value) (w' : World) (hs : a.eval s = v) (hx : a.eval x = u) (hr : (Builtin.append_ #[t, t] o.type #[v, u]).run P w = .ok v' w')
    (h : wpList P ops Q rest (a.put o.dst v') w') : wpList P ops Q (o :: rest) a w := by
  refine wpList_plain hgd fun K hK => ?_
  unfold Oper.wp execOp
  simp only [ho, resolve, invoke, builtin, Sem.run_bind, Sem.run_pure, Result.andThen_ok, List.map_toArray, List.map_cons, List.map_nil, hs, hx, hr]
  exact hK _ _ h
end Go.Proofs.YtgohddimnphbkaaDoor
