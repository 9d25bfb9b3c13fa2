/- bytes.Clone (31). -/
import Derived.Test.YtpeohbkigkfcgaaDkK
import Derived.Lib.LazyBuf
namespace Go.Proofs.Ytpeohbkigkfcgaa
open Go Go.Shelf Go.ChangeShapes Go.WideShapes Go.ChangeAt Go.RowKit
set_option linter.unusedVariables false
theorem row_up {w : World} {B B' : Nat} {v : Value} {e s n : Nat} {xs : List Value} (h : w.ownsRow B e s v n xs) (hq : ∀ q, v.ownBlock = some q → B' ≤ q) : w.ownsRow B' e s v n xs := by
  refine ⟨h.1, ?_⟩
  rcases h.2 with h1 | ⟨g, cap, cur, rfl, hb, rest⟩
  · exact .inl h1
  · exact .inr ⟨g, cap, cur, rfl, hq g rfl, rest⟩
theorem wpList_append_b {w : World} {ops : Array Oper} {rest : List Oper} {o : Oper} {a : Act} {Q : Exit → Act → World → Prop} (hgd : o.guard = none) (s x : Operand)
    (ho : o.op = .call { callee := .builtin .append, args := #[s, x], argTypes := #[27, 27] })
    (v : Value) (bs : List UInt8) (hs : a.eval s = v) (hown : w.ownsRow 0 5 1 v bs.length (bcs bs)) (u : Value) (b2 : List UInt8) (hx : a.eval x = u) (hu : BytesAt w u b2) (hb : bs.length + b2.length ≤ 140737488351232) (b3 : List UInt8) (hb3 : b3 = bs ++ b2)
    (h : ∀ p c w', w'.ownsRow 0 5 1 (.slice p b3.length c) b3.length (bcs b3) → w'.ownsRow 0 5 1 v bs.length (bcs bs) → (((Value.slice p b3.length c).ownBlock = v.ownBlock ∧ w.grownBy w' v.ownBlock) ∨ ((Value.slice p b3.length c).ownBlock = some w.heap.size ∧ w.grownBy w' none)) → wpList Try.prog ops Q rest (a.put o.dst (.slice p b3.length c)) w') :
    wpList Try.prog ops Q (o :: rest) a w := by
  subst hb3
  refine wpList_plain hgd fun K hK => ?_
  obtain ⟨p, c, w', hr, h2, h3, h4⟩ := run_append_b w o.type v bs hown u b2 hu hb
  unfold Oper.wp execOp
  simp only [ho, resolve, invoke, builtin, Sem.run_bind, Sem.run_pure, Result.andThen_ok, List.map_toArray, List.map_cons, List.map_nil, hs, hx, hr]
  exact hK _ _ (h p c w' h2 h3 h4)
theorem row_none (w : World) : (w.alloc (.cells #[] 5)).ownsRow 0 5 1 (.slice (some ⟨w.heap.size, 0, none⟩) 0 0) ([] : List UInt8).length (bcs []) :=
  ⟨rfl, .inr ⟨w.heap.size, 0, #[], rfl, Nat.zero_le _, heap_alloc_new w _, Nat.le_refl _, by unfold maxLen; omega, rfl, rfl⟩⟩
set_option maxRecDepth 100000 in
set_option maxHeartbeats 4000000 in
theorem clone_ok {w : World} (pu : Option Addr) (cu : Nat) (b2 : List UInt8) (hu : BytesAt w (.slice pu b2.length cu) b2) (hl : b2.length ≤ 1048576) :
    Calls Try.prog 31 #[.slice pu b2.length cu] w fun e w' => (∃ p c, e = .returned (.slice p b2.length c) ∧ w'.ownsRow w.heap.size 5 1 (.slice p b2.length c) b2.length (bcs b2)) ∧ Below w.heap.size w w' := by
  cases hp : pu with
  | none =>
    subst hp
    have hb2 : b2 = [] ∧ cu = 0 := by
      rcases hu with ⟨h1, h2⟩ | ⟨b, off, c, h1, _⟩
      · injection h1 with _ _ h3
        exact ⟨h2, h3⟩
      · cases h1
    obtain ⟨rfl, rfl⟩ := hb2
    clear hu
    have hq : ∀ W : World, (binOp .eql 27 (.slice none 0 0) (.slice none 0 0)).run Try.prog W = .ok (.bool true) W := fun W => run_eql_slice_nil W 27 5 none 0 0 Try.underlying27
    go_enter Try.func31, Try.ntmps31
    go_wp2_with fail
    go_ret
    exact ⟨⟨none, 0, rfl, World.ownsRow_nil _ _ _ _⟩, Below.refl _ _⟩
  | some ad =>
    subst hp
    have HU := hide hu
    clear hu
    have hq : ∀ W : World, (binOp .eql 27 (.slice (some ad) b2.length cu) (.slice none 0 0)).run Try.prog W = .ok (.bool false) W := fun W => run_eql_slice_nil W 27 5 (some ad) b2.length cu Try.underlying27
    go_enter Try.func31, Try.ntmps31
    go_wp2_with (first | (at_builtin; refine wpList_append_b rfl _ _ rfl (.slice (some ⟨w.heap.size, 0, none⟩) 0 0) [] rfl (row_none w) _ b2 rfl ((unhide HU).below (bal (Below.refl w.heap.size w) _)) (by simp; omega) b2 rfl ?_; intro p c w5 r1 r2 hg; have R1 := hide r1; have HG := hide hg; clear r1 r2 hg))
    go_ret
    have hg : Below w.heap.size (w.alloc (.cells #[] 5)) w5 := by
      rcases unhide HG with ⟨_, h2⟩ | ⟨_, h2⟩
      · exact ⟨h2.os, h2.tape, h2.output, h2.size, fun k hk => h2.block k (by simp; omega) (by simp [Value.ownBlock]; omega)⟩
      · exact ⟨h2.os, h2.tape, h2.output, h2.size, fun k hk => h2.block k (by simp; omega) (by simp)⟩
    refine ⟨⟨p, c, rfl, row_up (unhide R1) (fun q hq => ?_)⟩, (bal (Below.refl w.heap.size w) _).trans hg⟩
    rcases unhide HG with ⟨h1, _⟩ | ⟨h1, _⟩
    · rw [h1] at hq
      simp only [Value.ownBlock, Option.some.injEq] at hq
      omega
    · rw [h1] at hq
      simp only [Option.some.injEq, World.size_alloc] at hq
      omega
end Go.Proofs.Ytpeohbkigkfcgaa
