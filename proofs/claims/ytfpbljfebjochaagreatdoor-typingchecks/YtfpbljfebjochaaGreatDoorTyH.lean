/- typing: guarded regions whose calls leave old blocks alone; typeOf 41. -/
import Derived.Test.YtfpbljfebjochaaGreatDoorTyG
import Derived.Deep.Cut
namespace Go.Proofs.YtfpbljfebjochaaGreatDoor
open Go Go.Shelf Go.ChangeShapes Go.WideShapes Go.ChangeAt Go.RowKit Go.Maps
set_option linter.unusedVariables false
structure Bel (w : World) where
  W : World
  h : Below w.heap.size w W
@[reducible] def belInh (w : World) : Inhabited (Bel w) := ⟨⟨w, Below.refl _ _⟩⟩
attribute [instance] belInh
theorem wp_region_quiet_below {id : Nat} {Q : Exit → Act → World → Prop} {a : Act} {w : World} {l : List Oper} (hm : Tryz.prog.follows .mixedOrders = true) (hB : Region.lexB .any l.toArray = true)
    (h : wpQuiet Tryz.prog l.toArray (fun w' => ∃ p : Bel w, w' = p.W) (fun a' => ∀ w', (∃ p : Bel w, w' = p.W) → Q .normal a' w') l a) : (Code.region id l.toArray true).wp Tryz.prog Q a w :=
  wp_region_quiet (C := fun w' => ∃ p : Bel w, w' = p.W) hm hB ⟨⟨w.drew, below_drewN (Below.refl _ w) 1⟩, rfl⟩ (by simpa using h)
/-- a contract as a guarded region wants it -/
theorem Bel.calls {w : World} {f : Nat} {args : Array Value} {v : Value} (P : Bel w) (h : Calls Tryz.prog f args P.W fun e w' => e = .returned v ∧ Below P.W.heap.size P.W w') : Calls Tryz.prog f args P.W fun e w' => e = .returned v ∧ ∃ q : Bel w, w' = q.W :=
  h.mono fun e w' hw => ⟨hw.1, ⟨w', P.h.trans (hw.2.mono P.h.size)⟩, rfl⟩
theorem Bel.same {w : World} {f : Nat} {args : Array Value} {v : Value} (P : Bel w) (h : Calls Tryz.prog f args P.W fun e w' => e = .returned v ∧ w' = P.W) : Calls Tryz.prog f args P.W fun e w' => e = .returned v ∧ ∃ q : Bel w, w' = q.W :=
  h.mono fun e w' hw => ⟨hw.1, P, hw.2⟩
/-- a node's type -/
def typS (s : Sh) (T : List Int) : Int := match s with
  | .leaf t => t
  | .single op l => sgl op (tat T l)
  | .pair op l r => prS op (tat T l) (tat T r)
  | .no => 0
theorem as1y (v : Value) (w : World) : (Instr.typeAssert (.iface 243 v) 154 243 true).run Tryz.prog w = .ok (.tuple #[v, .bool true]) w := by kernel_rfl
theorem as2n (v : Value) (w : World) : (Instr.typeAssert (.iface 245 v) 154 243 true).run Tryz.prog w = .ok (.tuple #[.agg #[.int .i64 0], .bool false]) w := by kernel_rfl
theorem as2y (v : Value) (w : World) : (Instr.typeAssert (.iface 245 v) 154 245 true).run Tryz.prog w = .ok (.tuple #[v, .bool true]) w := by kernel_rfl
theorem as3n (v : Value) (w : World) : (Instr.typeAssert (.iface 247 v) 154 243 true).run Tryz.prog w = .ok (.tuple #[.agg #[.int .i64 0], .bool false]) w := by kernel_rfl
theorem as3n2 (v : Value) (w : World) : (Instr.typeAssert (.iface 247 v) 154 245 true).run Tryz.prog w = .ok (.tuple #[.agg #[.int .i64 0, .int .i64 0], .bool false]) w := by kernel_rfl
theorem as3y (v : Value) (w : World) : (Instr.typeAssert (.iface 247 v) 154 247 true).run Tryz.prog w = .ok (.tuple #[v, .bool true]) w := by kernel_rfl
theorem as0a (w : World) : (Instr.typeAssert .nilIface 154 243 true).run Tryz.prog w = .ok (.tuple #[.agg #[.int .i64 0], .bool false]) w := by kernel_rfl
theorem as0b (w : World) : (Instr.typeAssert .nilIface 154 245 true).run Tryz.prog w = .ok (.tuple #[.agg #[.int .i64 0, .int .i64 0], .bool false]) w := by kernel_rfl
theorem as0c (w : World) : (Instr.typeAssert .nilIface 154 247 true).run Tryz.prog w = .ok (.tuple #[.agg #[.int .i64 0, .int .i64 0, .int .i64 0], .bool false]) w := by kernel_rfl
set_option maxRecDepth 100000
set_option maxHeartbeats 4000000
theorem typeOf_any {W : World} (hR : Recs W) {p : Option Addr} {n c : Nat} {T : List Int} (hn : T.length = n) (hT : Lies kI W p T) (s : Sh) : Calls Tryz.prog 131 #[s.val, .slice p n c] W fun e w' => e = .returned (.int .i64 (typS s T)) ∧ Below W.heap.size W w' := by
  have HB : Hid (∀ o, Below W.heap.size W (W.alloc o)) := Below.a1 W
  cases s with
  | leaf t =>
    unfold Sh.val typS
    have h1 := as1y
    clear hT hn hR
    go_enter Tryz.func131, Tryz.ntmps131
    go_wp2_with fail
    go_ret
    exact ⟨rfl, unhide HB _⟩
  | single op l =>
    unfold Sh.val typS
    have h1 := as2n
    have h2 := as2y
    simp only
    obtain ⟨o, ho⟩ : ∃ o : Obj, o = .cells #[.int .i64 op, .int .i64 l] 245 := ⟨_, rfl⟩
    have hc : ∀ P : Bel (W.alloc o), Below W.heap.size W P.W := fun P => (Below.a1 W o).trans (P.h.mono (by simp))
    have d : Hid (∀ P : Bel (W.alloc o), Calls Tryz.prog 139 #[.slice p n c, .int .i64 l] P.W fun e w' => e = .returned (.int .i64 (tat T l)) ∧ ∃ q : Bel (W.alloc o), w' = q.W) := fun P => P.same (typeAt_any hn (hT.below (hc P)) l)
    have d3 : Hid (∀ P : Bel (W.alloc o), Calls Tryz.prog 191 #[.int .i64 op, .int .i64 (tat T l)] P.W fun e w' => e = .returned (.int .i64 (sgl op (tat T l))) ∧ ∃ q : Bel (W.alloc o), w' = q.W) := fun P => P.same (single_any _ _ _)
    have c0 : ∀ P : Bel (W.alloc o), P.W.cell? ⟨W.heap.size, 0, none⟩ = some (.int .i64 op) := fun P => by rw [P.h.cell (by simp), ho]; simp
    have c1 : ∀ P : Bel (W.alloc o), P.W.cell? ⟨W.heap.size, 1, none⟩ = some (.int .i64 l) := fun P => by rw [P.h.cell (by simp), ho]; simp
    have HC := hide hc
    obtain ⟨t, ht⟩ : ∃ t, t = tat T l := ⟨_, rfl⟩
    rw [← ht] at d d3 ⊢
    rw [ho] at d d3 c0 c1 HC
    clear hT hn ht hR hc ho o
    go_enter Tryz.func131, Tryz.ntmps131
    go_upto_region 7 with fail
    refine wp_region_quiet_below (by kernel_rfl) (by kernel_rfl) ?_
    repeat (go_big_quiet_step (first | (go_at_call 139; refine unhide d _) | (go_at_call 191; refine unhide d3 _)))
    refine wpQuiet_nil ?_
    rintro _ ⟨P, rfl⟩
    go_wp2_with fail
    go_ret
    exact ⟨rfl, unhide HC P⟩
  | pair op l r =>
    unfold Sh.val typS
    have h1 := as3n
    have h2 := as3n2
    have h3 := as3y
    simp only
    obtain ⟨o, ho⟩ : ∃ o : Obj, o = .cells #[.int .i64 op, .int .i64 l, .int .i64 r] 247 := ⟨_, rfl⟩
    have hc : ∀ P : Bel (W.alloc o), Below W.heap.size W P.W := fun P => (Below.a1 W o).trans (P.h.mono (by simp))
    have d : Hid (∀ (P : Bel (W.alloc o)) (i : Int), Calls Tryz.prog 139 #[.slice p n c, .int .i64 i] P.W fun e w' => e = .returned (.int .i64 (tat T i)) ∧ ∃ q : Bel (W.alloc o), w' = q.W) := fun P i => P.same (typeAt_any hn (hT.below (hc P)) i)
    have d3 : Hid (∀ P : Bel (W.alloc o), Calls Tryz.prog 192 #[.int .i64 op, .int .i64 (tat T l), .int .i64 (tat T r)] P.W fun e w' => e = .returned (.int .i64 (prS op (tat T l) (tat T r))) ∧ ∃ q : Bel (W.alloc o), w' = q.W) := fun P => P.calls (pair_any (hR.below (hc P)) _ _ _)
    have c0 : ∀ P : Bel (W.alloc o), P.W.cell? ⟨W.heap.size, 0, none⟩ = some (.int .i64 op) := fun P => by rw [P.h.cell (by simp), ho]; simp
    have c1 : ∀ P : Bel (W.alloc o), P.W.cell? ⟨W.heap.size, 1, none⟩ = some (.int .i64 l) := fun P => by rw [P.h.cell (by simp), ho]; simp
    have c2 : ∀ P : Bel (W.alloc o), P.W.cell? ⟨W.heap.size, 2, none⟩ = some (.int .i64 r) := fun P => by rw [P.h.cell (by simp), ho]; simp
    have HC := hide hc
    rw [ho] at d d3 c0 c1 c2 HC
    clear hT hn hR hc ho o
    go_enter Tryz.func131, Tryz.ntmps131
    go_upto_region 10 with fail
    refine wp_region_quiet_below (by kernel_rfl) (by kernel_rfl) ?_
    repeat (go_big_quiet_step (first | (go_at_call 139; refine unhide d _ _) | (go_at_call 192; refine unhide d3 _)))
    refine wpQuiet_nil ?_
    rintro _ ⟨P, rfl⟩
    go_wp2_with fail
    go_ret
    exact ⟨rfl, unhide HC P⟩
  | no =>
    unfold Sh.val typS
    have h1 := as0a
    have h2 := as0b
    have h3 := as0c
    clear hT hn hR
    go_enter Tryz.func131, Tryz.ntmps131
    go_wp2_with fail
    go_ret
    exact ⟨rfl, Below.refl _ _⟩
end Go.Proofs.YtfpbljfebjochaaGreatDoor
