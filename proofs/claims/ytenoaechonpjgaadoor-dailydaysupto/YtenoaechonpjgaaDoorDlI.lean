/- daily: ending (20), put (19). -/
import Derived.Test.YtenoaechonpjgaaDoorDlG
import Derived.Deep.RegionHeldLaw
import Derived.Deep.RegionLaw
import Derived.Deep.RegionHeld3
namespace Go.Proofs.YtenoaechonpjgaaDoor
open Go Go.Shelf Go.ChangeShapes Go.WideShapes Go.ChangeAt Go.RowKit Go.Maps
set_option linter.unusedVariables false
variable {α : Type} {K : Kd α}
theorem flat_take (hK : KdOK K) (L : List α) (k : Nat) : (K.flat L).take (k * K.s) = K.flat (L.take k) := by
  by_cases hk : k ≤ L.length
  · have e : K.flat L = K.flat (L.take k) ++ K.flat (L.drop k) := by rw [← flat_append, List.take_append_drop]
    have el : k * K.s = (K.flat (L.take k)).length := by rw [flat_len hK, List.length_take, Nat.min_eq_left hk]
    rw [e, el, List.take_left]
  · rw [List.take_of_length_le (l := L) (by omega), List.take_of_length_le]
    rw [flat_len hK]
    exact Nat.mul_le_mul_right _ (by omega)
/-- the beginning of a list that a call owns -/
theorem own_prefix (hK : KdOK K) {W : World} {B n c : Nat} {p : Option Addr} {L : List α} (h : W.ownsRow B K.e K.s (.slice p n c) n (K.flat L)) {k : Nat} (hk : k ≤ n) (hn : L.length = n) : W.ownsRow B K.e K.s (.slice p k c) k (K.flat (L.take k)) := by
  refine ⟨by rw [flat_len hK, List.length_take, hn, Nat.min_eq_left hk], ?_⟩
  rcases h.2 with ⟨e, h2⟩ | ⟨g, cap, cur, e, hB, hh, hc, hm, hcs, ht⟩
  · have : k = 0 := by omega
    subst this
    subst h2
    exact .inl ⟨e, rfl⟩
  · cases e
    refine .inr ⟨g, c, cur, rfl, hB, hh, by omega, hm, hcs, ?_⟩
    rw [← flat_take hK, ← ht, List.take_take, Nat.min_eq_left (Nat.mul_le_mul_right _ hk)]
theorem step_append_runI {P : Program} {ops : Array Oper} {o : Oper} {a : Act} {K : Act → World → Prop} {Q : Exit → Act → World → Prop} {E : Prop} (w : World) (hgd : o.guard = none) (s x : Operand) (t : TypeId)
    (ho : o.op = .call { callee := .builtin .append, args := #[s, x], argTypes := #[t, t] }) (v u v' : Value) (w' : World) (hs : a.eval s = v) (hx : a.eval x = u) (hr : (Builtin.append_ #[t, t] o.type #[v, u]).run P w = .ok v' w')
    (h : K (a.put o.dst v') w') : if Region.wanted o (yielded ops a.tmps) = true then Oper.wp P o a w K Q else E := by
  have hw : Region.wanted o (yielded ops a.tmps) = true := by simp [Region.wanted, hgd]
  rw [if_pos hw]
  unfold Oper.wp execOp
  simp only [ho, resolve, invoke, builtin, Sem.run_bind, Sem.run_pure, Result.andThen_ok, List.map_toArray, List.map_cons, List.map_nil, hs, hx, hr]
  exact h
def EndOut (S R : List Mk) (st : Nat) (B : Nat) (v : Value) (W : World) (e : Ending) (w' : World) : Prop :=
  ∃ p' c', e = .returned (.slice p' (st + R.length) c') ∧ w'.ownsRow B 82 3 (.slice p' (st + R.length) c') (st + R.length) (kM.flat (S.take st ++ R)) ∧ W.heap.size ≤ w'.heap.size ∧ w'.os = W.os ∧ w'.tape = W.tape ∧ w'.output = W.output ∧ (∀ k, k < W.heap.size → v.ownBlock ≠ some k → w'.heap[k]? = W.heap[k]?) ∧ ((Value.slice p' (st + R.length) c').ownBlock = v.ownBlock ∨ ∃ g, (Value.slice p' (st + R.length) c').ownBlock = some g ∧ W.heap.size ≤ g)
set_option maxRecDepth 100000 in
set_option maxHeartbeats 4000000 in
theorem ending_any {S R : List Mk} {W : World} {B c N : Nat} {p : Option Addr} (hN : S.length = N) (hB : B ≤ W.heap.size) (hS : W.ownsRow B 82 3 (.slice p N c) N (kM.flat S)) {st : Nat} (hst : st ≤ N) (hNl : N ≤ 137438953472) {pm : Option Addr} {cm nR : Nat} (hnR : R.length = nR) (hRl : nR ≤ 274877906944) (hpm : pm = none → cm = 0) (hR : Lies kM W pm R) :
    Calls Tryd.prog 20 #[.slice p N c, .agg #[.int .i64 st, .slice pm nR cm]] W fun e w' => EndOut S R st B (.slice p N c) W e w' := by
  obtain ⟨O, hO⟩ : ∃ O, O = Obj.cells #[.int .i64 st, .slice pm nR cm] 57 := ⟨_, rfl⟩
  have hpre := own_prefix kM_ok hS hst hN
  have hb0 : Below W.heap.size W (W.alloc O) := bal (Below.refl _ _) O
  have hbd : Below W.heap.size W ((W.alloc O).drew) := hb0.drew
  obtain ⟨p', c', w', hr, ho, hb, hkeep, hloc⟩ := run_app kM_ok (W := (W.alloc O).drew) (M := R) 55 (hpre.alloc O) (by simp; omega) pm cm hpm (hR.below hbd) (by omega)
  have hnc : N ≤ c := by
    rcases hS.2 with ⟨e, h2⟩ | ⟨g, cap, cur, e, h1, h2, h3, _⟩
    · omega
    · cases e; exact h3
  have hpn : p = none → N = 0 ∧ c = 0 := fun h => by
    subst h
    rcases hS.2 with ⟨e, h2⟩ | ⟨g, cap, cur, e, h1, h2, h3, _⟩
    · cases e; exact ⟨h2, rfl⟩
    · cases e
  have hfin : EndOut S R st B (.slice p N c) W (.returned (.slice p' (st + R.length) c')) w' := by
    have hob : (Value.slice p st c).ownBlock = (Value.slice p N c).ownBlock := by cases p <;> rfl
    rw [hob] at hloc hkeep
    refine ⟨p', c', rfl, ho, Nat.le_trans hbd.size hb.size, hb.os.trans hbd.os, hb.tape.trans hbd.tape, hb.output.trans hbd.output, fun k hk hne => (hkeep k (Nat.lt_of_lt_of_le hk hbd.size) hne).trans (hbd.block k hk), ?_⟩
    rcases hloc with h | h
    · exact .inl h
    · exact .inr ⟨_, h, by simp⟩
  rw [hnR] at hr hfin
  obtain ⟨vp, hvp⟩ : ∃ vp, vp = Value.slice p' (st + nR) c' := ⟨_, rfl⟩
  have hsc : st ≤ c := by omega
  have hpo : ∀ a, p = some a → ∃ g, a = ⟨g, 0, none⟩ := fun a h => by
    subst h
    rcases hS.2 with ⟨e, h2⟩ | ⟨g, cap, cur, e, h1, h2, h3, _⟩
    · cases e
    · cases e; exact ⟨g, rfl⟩
  rw [← hvp] at hr hfin
  have HR := hide (show (Builtin.append_ #[55, 55] 55 #[.slice p st c, .slice pm nR cm]).run Tryd.prog ((W.alloc O).drew) = .ok vp w' from hr)
  have HFIN := hide hfin
  clear hr hfin hb ho hkeep hloc hbd hb0 hpre hR hS hvp
  subst hO
  cases p with
  | none =>
    obtain ⟨h1, h2⟩ := hpn rfl
    subst h1 h2
    have hs0 : st = 0 := by omega
    subst hs0
    clear hpn hpo
    go_enter Tryd.func20, Tryd.ntmps20
    go_wp2_with fail
    go_region_law (refine step_append_runI _ rfl _ _ _ rfl _ _ _ _ rfl rfl (unhide HR) ?_)
    all_goals go_wp2_with fail
    all_goals go_ret
    all_goals exact unhide HFIN
  | some a =>
    obtain ⟨g, rfl⟩ := hpo a rfl
    clear hpn hpo
    go_enter Tryd.func20, Tryd.ntmps20
    go_wp2_with fail
    go_region_law (refine step_append_runI _ rfl _ _ _ rfl _ _ _ _ rfl rfl (unhide HR) ?_)
    all_goals go_wp2_with fail
    all_goals go_ret
    all_goals exact unhide HFIN
end Go.Proofs.YtenoaechonpjgaaDoor
