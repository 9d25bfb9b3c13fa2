/- ChartOrder (4): a chart that is being opened, and what is left to open. -/
import Derived.Test.YtgimeecklmmbjaaDoorTrA
import Derived.Test.YtgimeecklmmbjaaDoorOrM
namespace Go.Proofs.YtgimeecklmmbjaaDoor
open Go Go.Shelf Go.ChangeShapes Go.WideShapes Go.ChangeAt Go.RowKit Go.Maps Go.Sort
set_option linter.unusedVariables false
section
variable {α : Type} {K : Kd α}
theorem flat_take (hK : KdOK K) (L : List α) (k : Nat) : (K.flat L).take (k * K.s) = K.flat (L.take k) := by
  by_cases hk : k ≤ L.length
  · have e : K.flat L = K.flat (L.take k) ++ K.flat (L.drop k) := by rw [← flat_append, List.take_append_drop]
    have el : k * K.s = (K.flat (L.take k)).length := by rw [flat_len hK, List.length_take, Nat.min_eq_left hk]
    rw [e, el, List.take_left]
  · rw [List.take_of_length_le (l := L) (by omega), List.take_of_length_le]
    rw [flat_len hK]
    exact Nat.mul_le_mul_right _ (by omega)
/-- the beginning of a list that a call owns -/
theorem own_prefix (hK : KdOK K) {W : World} {B n c : Nat} {p : Option Addr} {L : List α} (h : W.ownsRow B K.e K.s (.slice p n c) n (K.flat L)) {k : Nat} (hk : k ≤ n) (hn : L.length = n) : W.ownsRow B K.e K.s (.slice p k c) k (K.flat (L.take k)) := by
  refine ⟨by rw [flat_len hK, List.length_take, hn, Nat.min_eq_left hk], ?_⟩
  rcases h.2 with ⟨e, h2⟩ | ⟨g, cap, cur, e, hB, hh, hc, hm, hcs, ht⟩
  · have : k = 0 := by omega
    subst this
    subst h2
    exact .inl ⟨e, rfl⟩
  · cases e
    refine .inr ⟨g, c, cur, rfl, hB, hh, by omega, hm, hcs, ?_⟩
    rw [← flat_take hK, ← ht, List.take_take, Nat.min_eq_left (Nat.mul_le_mul_right _ hk)]
end
theorem step_append_run {P : Program} {ops : Array Oper} {o : Oper} {a : Act} {K : Act → World → Prop} {Q : Exit → Act → World → Prop} {E : Prop} (w : World) (hgd : o.guard = none) (s x : Operand) (t : TypeId)
    (ho : o.op = .call { callee := .builtin .append, args := #[s, x], argTypes := #[t, t] }) (v u v' : Value) (w' : World) (hs : a.eval s = v) (hx : a.eval x = u) (hr : (Builtin.append_ #[t, t] o.type #[v, u]).run P w = .ok v' w')
    (h : K (a.put o.dst v') w') : if Region.wanted o (yielded ops a.tmps) = true then Oper.wp P o a w K Q else E := by
  have hw : Region.wanted o (yielded ops a.tmps) = true := by simp [Region.wanted, hgd]
  rw [if_pos hw]
  unfold Oper.wp execOp
  simp only [ho, resolve, invoke, builtin, Sem.run_bind, Sem.run_pure, Result.andThen_ok, List.map_toArray, List.map_cons, List.map_nil, hs, hx, hr]
  exact h
/-- a chart made since X, and a list that the caller owns and that lies apart -/
structure LfS (X : World) (d : Nat) (D R : List Ac) (v : Value) (m : Nat) (wr : World) (S : Nat → Prop) (g : Gh) : Prop where
  ct : Ct wr d S D g
  new : ∀ k, S k → X.heap.size ≤ k
  bel : Below X.heap.size X wr
  row : wr.ownsRow X.heap.size 41 4 v m (kA.flat R)
  ap : ∀ k, v.ownBlock = some k → ¬ S k
def Lf (X : World) (d : Nat) (D R : List Ac) (v : Value) (m : Nat) (wr : World) : Prop := ∃ S g, LfS X d D R v m wr S g
theorem Lf.isNew {X wr : World} {d m : Nat} {D R : List Ac} {v : Value} (h : Lf X d D R v m wr) : New X d D wr := by
  obtain ⟨S, g, h⟩ := h
  exact ⟨S, g, h.ct, h.new, h.bel⟩
theorem Lf.bel {X wr : World} {d m : Nat} {D R : List Ac} {v : Value} (h : Lf X d D R v m wr) : Below X.heap.size X wr := by
  obtain ⟨S, g, h⟩ := h
  exact h.bel
theorem Lf.below {X wr w' : World} {d m : Nat} {D R : List Ac} {v : Value} (h : Lf X d D R v m wr) (hb : Below wr.heap.size wr w') : Lf X d D R v m w' := by
  obtain ⟨S, g, h⟩ := h
  exact ⟨S, g, h.ct.below hb, h.new, h.bel.trans (hb.mono h.bel.size), row_keep h.row (fun k hk => hb.block k (row_block h.row hk).2.1), h.ap⟩
theorem Lf.lies {X wr : World} {d m c : Nat} {D R : List Ac} {p : Option Addr} (h : Lf X d D R (.slice p m c) m wr) (hm : R.length = m) : Lies kA wr p R := by
  obtain ⟨S, g, h⟩ := h
  exact own_lies kA_ok hm h.row
theorem Lf.opens {X wr : World} {d m : Nat} {D R : List Ac} {v : Value} (h : Lf X d D R v m wr) (tx : ByteArray) (htx : tx.size < 4611686018427387904) (t z : Int) (ht : -9223372036854775808 ≤ t ∧ t ≤ 9223372036854775807) :
    Calls Tryd.prog 15 #[ptr d, .string tx, .int .i64 t, .int .i64 z] wr fun e w' => e = .returned (.int .i64 (openE D tx.data.toList t z)) ∧ Lf X d (openL D tx.data.toList t z) R v m w' := by
  obtain ⟨S, g, h⟩ := h
  refine (open_any h.ct tx htx t z ht).mono ?_
  rintro e w' ⟨rfl, S', g', k1, k2, k3⟩
  have hS : ∀ k, S' k → S k ∨ wr.heap.size ≤ k := k2
  refine ⟨rfl, S', g', k1, fun k hk => ?_, ⟨k3.os.trans h.bel.os, k3.tape.trans h.bel.tape, k3.output.trans h.bel.output, Nat.le_trans h.bel.size k3.size, fun k hk => ?_⟩, row_keep h.row (fun k hk => k3.block k (row_block h.row hk).2.1 (h.ap k hk)), fun k hk hs => ?_⟩
  · rcases hS k hk with h1 | h1
    · exact h.new k h1
    · exact Nat.le_trans h.bel.size h1
  · refine (k3.block k (Nat.lt_of_lt_of_le hk h.bel.size) (fun hs => ?_)).trans (h.bel.block k hk)
    have := h.new k hs
    omega
  · rcases hS k hs with h1 | h1
    · exact h.ap k hk h1
    · have := (row_block h.row hk).2.1
      omega
/-- one is taken out of the list, in its place -/
theorem Lf.drop {X wr : World} {d m c q a : Nat} {D R : List Ac} (h : Lf X d D R (.slice (some ⟨q, 0, none⟩) m c) m wr) (hm : R.length = m) (ha : a < m) (hm1 : m ≤ 100) :
    ∃ p3 c3 w3, (Builtin.append_ #[29, 29] 29 #[.slice (some ⟨q, 0, none⟩) a c, .slice (if c = a + 1 then some ⟨q, 0, none⟩ else some ⟨q, (a + 1) * 4, none⟩) (m - (a + 1)) (c - (a + 1))]).run Tryd.prog wr = .ok (.slice p3 (m - 1) c3) w3 ∧ Lf X d D (R.take a ++ R.drop (a + 1)) (.slice p3 (m - 1) c3) (m - 1) w3 := by
  obtain ⟨S, g, h⟩ := h
  have hpre := own_prefix kA_ok h.row (k := a) (by omega) hm
  have hall : Lies kA wr (some ⟨q, 0, none⟩) R := own_lies kA_ok hm h.row
  have hpart := hall.part (a + 1) (m - (a + 1))
  have l2 : ((R.drop (a + 1)).take (m - (a + 1))) = R.drop (a + 1) := List.take_of_length_le (by rw [List.length_drop]; omega)
  rw [l2, Nat.zero_add] at hpart
  have l3 : (R.drop (a + 1)).length = m - (a + 1) := by rw [List.length_drop]; omega
  have hnc : m ≤ c := by
    rcases h.row.2 with ⟨e, h2⟩ | ⟨g', cap, cur, e, h1, h2, h3, _⟩
    · cases e
    · cases e; exact h3
  have hp3 : Lies kA wr (if c = a + 1 then some ⟨q, 0, none⟩ else some ⟨q, (a + 1) * 4, none⟩) (R.drop (a + 1)) := by
    by_cases hc : c = a + 1
    · rw [if_pos hc]
      have : R.drop (a + 1) = [] := List.drop_eq_nil_of_le (by omega)
      rw [this]
      exact Lies.nil _ _
    · rw [if_neg hc]
      exact hpart
  have hq : (if c = a + 1 then some (⟨q, 0, none⟩ : Addr) else some ⟨q, (a + 1) * 4, none⟩) = none → c - (a + 1) = 0 := fun h => by
    by_cases hc : c = a + 1
    · omega
    · rw [if_neg hc] at h
      cases h
  have hsz := h.bel.size
  obtain ⟨p3, c3, w3, hr3, ho3, hb3, hk3, hl3⟩ := run_app kA_ok (W := wr) (B := X.heap.size) (L := R.take a) (M := R.drop (a + 1)) (n := a) 29 hpre hsz (if c = a + 1 then some ⟨q, 0, none⟩ else some ⟨q, (a + 1) * 4, none⟩) (c - (a + 1)) hq hp3 (by omega)
  rw [l3] at hr3 ho3 hl3
  have e1 : a + (m - (a + 1)) = m - 1 := by omega
  rw [e1] at hr3 ho3 hl3
  have hob : (Value.slice (some ⟨q, 0, none⟩) a c).ownBlock = some q := rfl
  rw [hob] at hk3 hl3
  have hnq : ¬ S q := h.ap q rfl
  have hsz3 : wr.heap.size ≤ w3.heap.size := by
    rcases Nat.lt_or_ge w3.heap.size wr.heap.size with h1 | h1
    · exfalso
      have h2 := h.ct.inh
      by_cases h3 : w3.heap.size = q
      · have h4 := (row_block h.row (g := q) rfl)
        have h5 := hb3.size
        have h6 : w3.heap.size + 1 ≤ wr.heap.size := h1
        rcases hl3 with h7 | h7
        · have h8 := (row_block ho3 h7).2.1
          omega
        · have h8 := (row_block ho3 h7).2.1
          omega
      · have h4 := hk3 w3.heap.size h1 (fun e => h3 (Option.some.inj e).symm)
        rw [Array.getElem?_eq_none (by omega), Array.getElem?_eq_getElem h1] at h4
        cases h4
    · exact h1
  refine ⟨p3, c3, w3, hr3, S, g, ⟨h.ct.ch.keep (fun k hk => hk3 k (h.ct.inh k hk) (fun e => hnq (by rw [Option.some.inj e]; exact hk))), h.ct.good, fun k hk => Nat.lt_of_lt_of_le (h.ct.inh k hk) hsz3⟩, h.new, h.bel.trans hb3, ho3, fun k hk hs => ?_⟩
  rcases hl3 with h1 | h1
  · rw [h1] at hk
    exact hnq (by rw [Option.some.inj hk]; exact hs)
  · rw [h1] at hk
    have h2 := h.ct.inh k hs
    rw [← Option.some.inj hk] at h2
    omega
/-- two charts side by side, of two that were made one behind the other -/
theorem two_new {W X3 X4 : World} {d1 d2 : Nat} {L M : List Ac} (h2 : New W d1 L X3) (h4 : New X3 d2 M X4) : TwoP W d1 L d2 M none [] X4 := by
  obtain ⟨S1, g1, a1, a2, a3⟩ := h2
  obtain ⟨S2, g2, b1, b2, b3⟩ := h4
  exact ⟨none, ⟨S1, S2, g1, g2, a1.below b3, b1, fun k x y => by have := a1.inh k x; have := b2 k y; omega, a2, fun k hk => Nat.le_trans a3.size (b2 k hk), a3.trans (b3.mono a3.size), Lies.nil _ _, fun a ha => by cases ha⟩, fun _ => rfl⟩
end Go.Proofs.YtgimeecklmmbjaaDoor
