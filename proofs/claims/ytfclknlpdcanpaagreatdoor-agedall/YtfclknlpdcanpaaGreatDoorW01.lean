import Derived.Test.YtfclknlpdcanpaaGreatDoorProg
import Derived.Handy
import Derived.Deep.RegionHeld3
import Derived.RangeFuncOwn
import Derived.Laws.AppendOwnNone
import Derived.Below
import Derived.BigCall
import Derived.BigQuiet
import Derived.Deep.AppendLies
import Derived.Deep.MidRow
import Derived.Deep.QuietTactic
import Derived.Laws.AppendOwn
import Derived.Laws.BitsAll
import Derived.Laws.MakeOwn
import Derived.Laws.OwnMore
import Derived.Lib.Bytes
import Derived.Lib.LastIndexByte
import Derived.Lib.SplitLaws
import Derived.Maps.AppendAt
import Derived.OpenShut
import Derived.ProofKit
import Derived.Shelf.Abstract
import Derived.WalkKit
import Derived.WalkLawsBesides
import Derived.Maps.OwnSet
import Derived.Maps.OwnOps
import Derived.Maps.OwnRows
/- aged: small ones: into (12), amount (35), isDay (36), IsDay (66), New (19). -/
namespace Go.Proofs.YtfclknlpdcanpaaGreatDoor
open Go Go.ChangeShapes Go.WideShapes Go.ChangeAt Go.RowKit
set_option linter.unusedVariables false
def dayB (d : Int) : Bool := decide (1 ≤ d) && decide (d ≤ 3652059)
theorem isDay_any (d : Int) (w : World) : Calls Tryz.prog 101 #[.int .i64 d] w fun e w' => e = .returned (.bool (dayB d)) ∧ w' = w := by
  by_cases h1 : d ≥ 1
  · by_cases h2 : d ≤ 3652059
    · have e : dayB d = true := by unfold dayB; rw [decide_eq_true h1, decide_eq_true h2]; rfl
      rw [e]
      go_enter Tryz.func101, Tryz.ntmps101
      go_wp2_with fail
      go_ret
      exact ⟨rfl, rfl⟩
    · have e : dayB d = false := by unfold dayB; rw [decide_eq_false h2, Bool.and_false]
      rw [e]
      go_enter Tryz.func101, Tryz.ntmps101
      go_wp2_with fail
      go_ret
      exact ⟨rfl, rfl⟩
  · have e : dayB d = false := by unfold dayB; rw [decide_eq_false (p := 1 ≤ d) h1, Bool.false_and]
    rw [e]
    go_enter Tryz.func101, Tryz.ntmps101
    go_wp2_with fail
    go_ret
    exact ⟨rfl, rfl⟩
def newA : Obj := .cells #[.slice none 0 0, .map none, .map none, .slice none 0 0, .int .i64 0, .int .i64 0, .slice none 0 0] 100
theorem new_any (w : World) : Calls Tryz.prog 48 #[] w fun e w' => e = .returned (.pointer (some ⟨w.heap.size, 0, none⟩)) ∧ w' = w.alloc newA := by
  unfold newA
  go_enter Tryz.func48, Tryz.ntmps48
  go_wp2_with fail
  go_ret
  exact ⟨rfl, rfl⟩
end Go.Proofs.YtfclknlpdcanpaaGreatDoor
/- aged: money's Check (60), checkBoth (53), Add (44); AsOf (15). -/
namespace Go.Proofs.YtfclknlpdcanpaaGreatDoor
open Go Go.ChangeShapes Go.WideShapes Go.ChangeAt Go.RowKit
set_option linter.unusedVariables false
/-- a fact that the walk does not look at -/
def Hid (P : Prop) : Prop := P
theorem hide {P : Prop} (h : P) : Hid P := h
theorem unhide {P : Prop} (h : Hid P) : P := h
theorem check_ok (a : Int) (ha : -9223372036854775807 ≤ a) (w : World) : Calls Tryz.prog 237 #[.int .i64 a] w fun e w' => e = .returned (.int .i64 0) ∧ w' = w := by
  have hb : (a == -9223372036854775808) = false := by rw [beq_eq_false_iff_ne]; omega
  have hc : ¬ a = -9223372036854775808 := by omega
  clear ha
  go_enter Tryz.func237, Tryz.ntmps237
  go_wp2_with fail
  go_ret
  exact ⟨rfl, rfl⟩
theorem both_ok (a b : Int) (ha : -9223372036854775807 ≤ a) (hb : -9223372036854775807 ≤ b) (w : World) : Calls Tryz.prog 189 #[.int .i64 a, .int .i64 b] w fun e w' => e = .returned (.int .i64 0) ∧ w' = w := by
  have d1 := hide (check_ok a ha)
  have d2 := hide (check_ok b hb)
  clear ha hb
  go_enter Tryz.func189, Tryz.ntmps189
  go_wp2_with fail
  refine (unhide d1 _).mono ?_
  rintro e w1 ⟨rfl, hw⟩
  rw [hw]
  clear hw w1
  go_wp2_with fail
  refine (unhide d2 _).mono ?_
  rintro e w1 ⟨rfl, hw⟩
  rw [hw]
  clear hw w1
  go_wp2_with fail
  go_ret
  exact ⟨rfl, rfl⟩
theorem add_ok (a b : Int) (ha : 0 ≤ a ∧ a ≤ 9223372036854775807) (hb : 1 ≤ b ∧ b ≤ 9223372036854775807) (h : a + b ≤ 9223372036854775807) (w : World) : Calls Tryz.prog 102 #[.int .i64 a, .int .i64 b] w fun e w' => e = .returned (.tuple #[.int .i64 (a + b), .int .i64 0]) ∧ w' = w := by
  have d := hide (both_ok a b (by omega) (by omega))
  have h1 : IntKind.i64.wrap (9223372036854775807 - b) = 9223372036854775807 - b := by rw [IntKind.wrap_i64]; omega
  have h2 : IntKind.i64.wrap (a + b) = a + b := by rw [IntKind.wrap_i64]; omega
  have h3 : b > 0 := by omega
  have h4 : ¬ b < 0 := by omega
  have h5 : ¬ a > 9223372036854775807 - b := by omega
  go_enter Tryz.func102, Tryz.ntmps102
  go_wp2_with fail
  refine (unhide d _).mono ?_
  rintro e w1 ⟨rfl, hw⟩
  rw [hw]
  clear hw w1
  go_wp2_with fail
  go_ret2
  exact ⟨rfl, rfl⟩
theorem add_over (a b : Int) (ha : 0 ≤ a ∧ a ≤ 9223372036854775807) (hb : 1 ≤ b ∧ b ≤ 9223372036854775807) (h : a + b > 9223372036854775807) (w : World) : Calls Tryz.prog 102 #[.int .i64 a, .int .i64 b] w fun e w' => e = .returned (.tuple #[.int .i64 0, .int .i64 11]) ∧ w' = w := by
  have d := hide (both_ok a b (by omega) (by omega))
  have h1 : IntKind.i64.wrap (9223372036854775807 - b) = 9223372036854775807 - b := by rw [IntKind.wrap_i64]; omega
  have h3 : b > 0 := by omega
  have h5 : a > 9223372036854775807 - b := by omega
  go_enter Tryz.func102, Tryz.ntmps102
  go_wp2_with fail
  refine (unhide d _).mono ?_
  rintro e w1 ⟨rfl, hw⟩
  rw [hw]
  clear hw w1
  go_wp2_with fail
  go_ret2
  exact ⟨rfl, rfl⟩
theorem asOf_any {w : World} {d : Nat} {g : Int} (h : w.cell? ⟨d, 5, none⟩ = some (.int .i64 g)) (hg : 0 ≤ g ∧ g ≤ 3652058) : Calls Tryz.prog 23 #[.pointer (some ⟨d, 0, none⟩)] w fun e w' => e = .returned (.int .i64 (1 + g)) ∧ w' = w := by
  have hw : IntKind.i64.wrap (1 + g) = 1 + g := by rw [IntKind.wrap_i64]; omega
  go_enter Tryz.func23, Tryz.ntmps23
  go_wp2_with fail
  go_ret
  exact ⟨rfl, rfl⟩
end Go.Proofs.YtfclknlpdcanpaaGreatDoor
/- rows of any kind of element: lists of them that lie somewhere, and lists that a call owns. -/
namespace Go.Proofs.YtfclknlpdcanpaaGreatDoor
open Go Go.Shelf Go.ChangeShapes Go.WideShapes Go.ChangeAt Go.RowKit Go.Maps
set_option linter.unusedVariables false
/-- a kind of element: its cells, its size in cells and in bytes, the type of its slices and its own -/
structure Kd (α : Type) where
  enc : α → List Value
  s : Nat
  t : TypeId
  e : TypeId
  by' : Nat
structure KdOK {α : Type} (K : Kd α) : Prop where
  len : ∀ x, (K.enc x).length = K.s
  pos : 0 < K.s
  one : ∀ x, ∀ u ∈ K.enc x, u.oneCell' = true
  und : Tryz.prog.underlying K.t = some (.slice K.e)
  info : ∃ i z, Tryz.prog.info? K.e = some i ∧ i.zero = some z ∧ i.size = K.s ∧ i.bytes = K.by' ∧ z.cells.size = K.s
  small : K.by' ≤ 128
variable {α : Type} {K : Kd α}
def Kd.flat (K : Kd α) (L : List α) : List Value := L.flatMap K.enc
theorem flat_nil : K.flat [] = [] := rfl
theorem flat_append (L M : List α) : K.flat (L ++ M) = K.flat L ++ K.flat M := List.flatMap_append
theorem flat_sing (x : α) : K.flat [x] = K.enc x := by simp [Kd.flat]
theorem flat_len (h : KdOK K) (L : List α) : (K.flat L).length = L.length * K.s := by
  induction L with
  | nil => simp [Kd.flat]
  | cons r R ih =>
    have e : K.flat (r :: R) = K.enc r ++ K.flat R := by simp [Kd.flat]
    rw [e, List.length_append, ih, h.len, List.length_cons, Nat.add_mul, Nat.one_mul]
    omega
theorem flat_get (h : KdOK K) : ∀ (L : List α) (k : Nat) (hk : k < L.length) (j : Nat), j < K.s → (K.flat L)[k * K.s + j]? = (K.enc L[k])[j]?
  | [], k, hk, _, _ => by simp at hk
  | r :: R, 0, _, j, hj => by
    have e : K.flat (r :: R) = K.enc r ++ K.flat R := by simp [Kd.flat]
    rw [e, List.getElem?_append_left (by rw [h.len]; omega)]
    simp
  | r :: R, k + 1, hk, j, hj => by
    have e : K.flat (r :: R) = K.enc r ++ K.flat R := by simp [Kd.flat]
    have e2 : (k + 1) * K.s + j - (K.enc r).length = k * K.s + j := by rw [h.len, Nat.add_mul, Nat.one_mul]; omega
    rw [e, List.getElem?_append_right (by rw [h.len, Nat.add_mul, Nat.one_mul]; omega), e2, flat_get h R k (by simpa using hk) j hj]
    simp
theorem flat_one (h : KdOK K) (L : List α) : ∀ u ∈ K.flat L, u.oneCell' = true := fun u hu => by
  obtain ⟨r, hr, hx⟩ := List.mem_flatMap.1 hu
  exact h.one r u hx
/-- elements that lie somewhere -/
def Lies (K : Kd α) (W : World) (p : Option Addr) (L : List α) : Prop :=
  (p = none → L = []) ∧ ∀ k (hk : k < L.length), ∃ b off, p = some ⟨b, off, none⟩ ∧ b < W.heap.size ∧ W.rangeAt b (off + k * K.s) (K.enc L[k])
theorem Lies.nil (W : World) (p : Option Addr) : Lies K W p [] := ⟨fun _ => rfl, fun k hk => by simp at hk⟩
theorem Lies.drewN {W : World} {p : Option Addr} {L : List α} (h : Lies K W p L) (m : Nat) : Lies K (W.drewN m) p L :=
  ⟨h.1, fun k hk => by
    obtain ⟨b, off, e, hlt, hr⟩ := h.2 k hk
    exact ⟨b, off, e, by simpa using hlt, fun j u hu => by simpa using hr j u hu⟩⟩
theorem Lies.below {W W' : World} {p : Option Addr} {L : List α} (h : Lies K W p L) (hb : Below W.heap.size W W') : Lies K W' p L := by
  refine ⟨h.1, fun k hk => ?_⟩
  obtain ⟨b, off, e, hlt, hr⟩ := h.2 k hk
  exact ⟨b, off, e, Nat.lt_of_lt_of_le hlt hb.size, fun j u hu => (hb.cell (p := ⟨b, off + k * K.s + j, none⟩) hlt).trans (hr j u hu)⟩
theorem Lies.block {W W' : World} {b off : Nat} {L : List α} (h : Lies K W (some ⟨b, off, none⟩) L) (hs : W.heap.size ≤ W'.heap.size) (hb : W'.heap[b]? = W.heap[b]?) : Lies K W' (some ⟨b, off, none⟩) L := by
  refine ⟨h.1, fun k hk => ?_⟩
  obtain ⟨b', off', e, hlt, hr⟩ := h.2 k hk
  cases e
  exact ⟨b, off, rfl, Nat.lt_of_lt_of_le hlt hs, fun j u hu => (World.cell?_of_block (a := ⟨b, off + k * K.s + j, none⟩) hb).trans (hr j u hu)⟩
/-- a part of what lies there -/
theorem Lies.part {W : World} {b off : Nat} {L : List α} (h : Lies K W (some ⟨b, off, none⟩) L) (a m : Nat) : Lies K W (some ⟨b, off + a * K.s, none⟩) ((L.drop a).take m) := by
  refine ⟨(fun h => by cases h), fun k hk => ?_⟩
  rw [List.length_take, List.length_drop] at hk
  have hak : a + k < L.length := by omega
  obtain ⟨b', off', e, hlt, hr⟩ := h.2 (a + k) hak
  cases e
  refine ⟨b, off + a * K.s, rfl, hlt, ?_⟩
  rw [List.getElem_take, List.getElem_drop, Nat.add_assoc, ← Nat.add_mul]
  exact hr
theorem row_block {W : World} {B g e s n : Nat} {v : Value} {xs : List Value} (h : W.ownsRow B e s v n xs) (hg : v.ownBlock = some g) : B ≤ g ∧ g < W.heap.size ∧ ∃ o, W.heap[g]? = some o ∧ o.isCells = true := by
  rcases h.2 with ⟨e, h2⟩ | ⟨g', cap, cur, e, hB, hh, h3⟩
  · rw [e] at hg; cases hg
  · rw [e] at hg
    have e2 : g' = g := Option.some.inj hg
    subst e2
    exact ⟨hB, (Array.getElem?_eq_some_iff.1 hh).1, _, hh, rfl⟩
theorem row_keep {W W' : World} {B e s n : Nat} {v : Value} {xs : List Value} (h : W.ownsRow B e s v n xs) (hk : ∀ g, v.ownBlock = some g → W'.heap[g]? = W.heap[g]?) : W'.ownsRow B e s v n xs := by
  refine ⟨h.1, ?_⟩
  rcases h.2 with h2 | ⟨g, cap, cur, e, hB, hh, h3⟩
  · exact .inl h2
  · exact .inr ⟨g, cap, cur, e, hB, (hk g (by rw [e]; rfl)).trans hh, h3⟩
theorem row_le {W : World} {B B' e s n : Nat} {v : Value} {xs : List Value} (h : W.ownsRow B e s v n xs) (hb : B' ≤ B) : W.ownsRow B' e s v n xs := by
  refine ⟨h.1, ?_⟩
  rcases h.2 with h2 | ⟨g, cap, cur, e, hB, h3⟩
  · exact .inl h2
  · exact .inr ⟨g, cap, cur, e, Nat.le_trans hb hB, h3⟩
theorem row_slice {W : World} {B e s n : Nat} {v : Value} {xs : List Value} (h : W.ownsRow B e s v n xs) : ∃ p c, v = .slice p n c ∧ (p = none → n = 0 ∧ c = 0) ∧ (∀ a, p = some a → a.off = 0 ∧ a.spot = none ∧ B ≤ a.block ∧ n ≤ c) := by
  rcases h.2 with ⟨e, h2⟩ | ⟨g, cap, cur, e, hB, hh, hc, h3⟩
  · exact ⟨none, 0, by rw [e, h2], (fun _ => ⟨h2, rfl⟩), (fun a h => by cases h)⟩
  · exact ⟨_, _, e, (fun h => by cases h), (fun a h => by cases h; exact ⟨rfl, rfl, hB, by omega⟩)⟩
theorem own_lies (hK : KdOK K) {W : World} {B : Nat} {p : Option Addr} {c n : Nat} {L : List α} (hn : L.length = n) (h : W.ownsRow B K.e K.s (.slice p n c) n (K.flat L)) : Lies K W p L := by
  rcases h.2 with ⟨e, h2⟩ | ⟨g, cap, cur, e, hB, hh, hc, hm, hcs, ht⟩
  · have : L = [] := List.eq_nil_of_length_eq_zero (by omega)
    subst this
    exact Lies.nil _ _
  · cases e
    refine ⟨(fun h => by cases h), fun k hk => ⟨g, 0, rfl, (Array.getElem?_eq_some_iff.1 hh).1, fun j u hu => ?_⟩⟩
    have hj : j < K.s := by
      have := (List.getElem?_eq_some_iff.1 hu).1
      rwa [hK.len] at this
    have h3 := flat_get hK L k hk j hj
    rw [hu] at h3
    have hk2 : (cur.toList.take (n * K.s))[k * K.s + j]? = some u := by rw [ht]; exact h3
    have hlt : k * K.s + j < n * K.s := by
      have : (k + 1) * K.s ≤ n * K.s := Nat.mul_le_mul_right _ (by omega)
      rw [Nat.add_mul, Nat.one_mul] at this
      omega
    rw [List.getElem?_take_of_lt hlt] at hk2
    unfold World.cell?
    simp only [hh, Nat.zero_add]
    simpa using hk2
theorem news_of (hK : KdOK K) {W : World} {ad : Addr} {L : List α} (hu : Lies K W (some ad) L) : ∀ j u, (K.flat L)[j]? = some u → W.cell? (ad.add j) = some u := fun j u hj => by
  have hjl : j < L.length * K.s := by
    have := (List.getElem?_eq_some_iff.1 hj).1
    rwa [flat_len hK] at this
  have hk : j / K.s < L.length := Nat.div_lt_of_lt_mul (by rw [Nat.mul_comm]; exact hjl)
  obtain ⟨b, off, e, hlt, hr⟩ := hu.2 (j / K.s) hk
  have e' : ad = ⟨b, off, none⟩ := Option.some.inj e
  subst e'
  have e9 : j / K.s * K.s + j % K.s = j := Nat.div_add_mod' j K.s
  rw [Addr.add_mid]
  have h3 := flat_get hK L (j / K.s) hk (j % K.s) (Nat.mod_lt _ hK.pos)
  rw [e9, hj] at h3
  have h4 := hr (j % K.s) u h3.symm
  rw [Nat.add_assoc, e9] at h4
  exact h4
set_option maxRecDepth 100000 in
/-- an append of elements that lie somewhere, to a list that the call owns -/
theorem run_app (hK : KdOK K) {W : World} {B : Nat} {v : Value} {L M : List α} {n : Nat} (ty : TypeId) (h : W.ownsRow B K.e K.s v n (K.flat L)) (hB : B ≤ W.heap.size) (pu : Option Addr) (cu : Nat) (hcu : pu = none → cu = 0) (hu : Lies K W pu M) (hl : n + M.length ≤ 1099511627776) :
    ∃ p' c' w', (Builtin.append_ #[K.t, K.t] ty #[v, .slice pu M.length cu]).run Tryz.prog W = .ok (.slice p' (n + M.length) c') w' ∧ w'.ownsRow B K.e K.s (.slice p' (n + M.length) c') (n + M.length) (K.flat (L ++ M)) ∧ Below B W w' ∧ (∀ k, k < W.heap.size → v.ownBlock ≠ some k → w'.heap[k]? = W.heap[k]?) ∧ ((Value.slice p' (n + M.length) c').ownBlock = v.ownBlock ∨ (Value.slice p' (n + M.length) c').ownBlock = some W.heap.size) := by
  obtain ⟨i, z, hi, hz, hsize, hby, hzs⟩ := hK.info
  cases pu with
  | none =>
    have hR := hu.1 rfl
    subst hR
    rw [hcu rfl]
    have hr := run_append_owned_none (P := Tryz.prog) (w := W) B K.t ty K.e i K.s hK.und hi v n (K.flat L) h
    obtain ⟨p, c, e, _⟩ := row_slice h
    subst e
    exact ⟨p, c, W, hr, by rw [List.append_nil]; exact h, Below.refl _ _, fun _ _ _ => rfl, .inl rfl⟩
  | some ad =>
    obtain ⟨v', w', hr, ho, hg, hnil, hat⟩ := run_append_own_at (P := Tryz.prog) W B K.t ty K.e i z K.s K.by' hK.und hi hz hsize hby hzs hK.pos v n (K.flat L) h ad M.length cu (K.flat M) (flat_len hK M) (news_of hK hu) (flat_one hK M) (by unfold maxLen; omega) (by
      have h1 := hK.small
      have : (n + M.length) * K.by' ≤ 1099511627776 * 128 := Nat.mul_le_mul hl h1
      omega) hB
    rw [← flat_append] at ho
    obtain ⟨p, c, e, _⟩ := row_slice ho
    subst e
    refine ⟨p, c, w', hr, ho, ⟨hg.os, hg.tape, hg.output, hg.size, fun q hq => hg.block q (Nat.lt_of_lt_of_le hq hB) (fun e => ?_)⟩, fun k hk hne => hg.block k hk (fun e => hne e.symm), hat⟩
    have := (row_block h e.symm).1
    omega
/-- an append as an operation of a region, by its run -/
theorem wpList_append_run {P : Program} {w : World} {ops : Array Oper} {rest : List Oper} {o : Oper} {a : Act} {Q : Exit → Act → World → Prop} (hgd : o.guard = none) (s x : Operand) (t : TypeId)
    (ho : o.op = .call { callee := .builtin .append, args := #[s, x], argTypes := #[t, t] }) (v u v' : Value) (w' : World) (hs : a.eval s = v) (hx : a.eval x = u) (hr : (Builtin.append_ #[t, t] o.type #[v, u]).run P w = .ok v' w')
    (h : wpList P ops Q rest (a.put o.dst v') w') : wpList P ops Q (o :: rest) a w := by
  refine wpList_plain hgd fun K hK => ?_
  unfold Oper.wp execOp
  simp only [ho, resolve, invoke, builtin, Sem.run_bind, Sem.run_pure, Result.andThen_ok, List.map_toArray, List.map_cons, List.map_nil, hs, hx, hr]
  exact hK _ _ h
/-- a block of one element -/
theorem one_lies (W : World) (x : α) (t : TypeId) (vs : Array Value) (hv : vs.toList = K.enc x) : Lies K (W.alloc (.cells vs t)) (some ⟨W.heap.size, 0, none⟩) [x] := by
  refine ⟨(fun h => by cases h), fun k hk => ?_⟩
  have e : k = 0 := by simp at hk; exact hk
  subst e
  refine ⟨W.heap.size, 0, rfl, by simp, fun j u hu => ?_⟩
  rw [World.cell?_alloc_mark, Nat.zero_mul, Nat.zero_add]
  rw [show ([x] : List α)[0] = x from rfl, ← hv] at hu
  simpa using hu
theorem kd_ok {K : Kd α} (len : ∀ x, (K.enc x).length = K.s) (pos : 0 < K.s) (one : ∀ x, ∀ u ∈ K.enc x, u.oneCell' = true) (und : Tryz.prog.underlying K.t = some (.slice K.e)) {z : Value} (info : (Tryz.prog.info? K.e).map (fun i => (i.zero, i.size, i.bytes)) = some (some z, K.s, K.by')) (hz : z.cells.size = K.s) (small : K.by' ≤ 128) : KdOK K := by
  obtain ⟨i, h1, h2, h3, h4⟩ := info_parts info
  exact ⟨len, pos, one, und, ⟨i, z, h1, h2, h3, h4, hz⟩, small⟩
end Go.Proofs.YtfclknlpdcanpaaGreatDoor
/- aged: an invoice and its ages as plain numbers. -/
namespace Go.Proofs.YtfclknlpdcanpaaGreatDoor
set_option linter.unusedVariables false
/-- an invoice -/
structure Cl where
  key : ByteArray
  acc : ByteArray
  day : Int
  due : Int
  amt : Int
/-- what was allotted to it: days and amounts -/
abbrev Pts := List (Int × Int)
def sumTo (P : Pts) (t : Int) : Int := P.foldr (fun p x => (if p.1 ≤ t then p.2 else 0) + x) 0
def sumAll (P : Pts) : Int := P.foldr (fun p x => p.2 + x) 0
def stepsL : List Int := [1, 31, 61, 91]
def ageOf (due t : Int) : Int := stepsL.foldr (fun n x => (if t - due ≥ n then 1 else 0) + x) 0
/-- what an invoice puts into its account's ages at a day: its age, what is open -/
def shr (c : Cl) (P : Pts) (t : Int) : Int × Int := if t < c.day then (0, 0) else (ageOf c.due t, c.amt - sumTo P t)
/-- the days on which that changes -/
def trn (c : Cl) (P : Pts) : List Int := c.day :: (stepsL.map fun n => c.due + n) ++ P.map (·.1)
theorem sumTo_nil (t : Int) : sumTo [] t = 0 := rfl
theorem sumTo_cons (p : Int × Int) (P : Pts) (t : Int) : sumTo (p :: P) t = (if p.1 ≤ t then p.2 else 0) + sumTo P t := rfl
theorem sumTo_append (P Q : Pts) (t : Int) : sumTo (P ++ Q) t = sumTo P t + sumTo Q t := by
  induction P with
  | nil => rw [List.nil_append, sumTo_nil, Int.zero_add]
  | cons p P ih => rw [List.cons_append, sumTo_cons, sumTo_cons, ih]; omega
theorem sumTo_bounds {P : Pts} (h : ∀ p ∈ P, 1 ≤ p.2) (t : Int) : 0 ≤ sumTo P t ∧ sumTo P t ≤ sumAll P := by
  induction P with
  | nil => exact ⟨Int.le_refl _, Int.le_refl _⟩
  | cons p P ih =>
    have h1 := ih (fun q hq => h q (List.mem_cons_of_mem _ hq))
    have h2 := h p List.mem_cons_self
    have e : sumAll (p :: P) = p.2 + sumAll P := rfl
    rw [sumTo_cons, e]
    split <;> omega
theorem sumTo_same {P : Pts} {t u : Int} (htu : t ≤ u) (h : ∀ p ∈ P, ¬ (t < p.1 ∧ p.1 ≤ u)) : sumTo P t = sumTo P u := by
  induction P with
  | nil => rfl
  | cons p P ih =>
    have h1 := h p List.mem_cons_self
    rw [sumTo_cons, sumTo_cons, ih (fun q hq => h q (List.mem_cons_of_mem _ hq))]
    by_cases hp : p.1 ≤ t
    · rw [if_pos hp, if_pos (by omega)]
    · rw [if_neg hp, if_neg (by omega)]
theorem ageOf_same {due t u : Int} (htu : t ≤ u) (h : ∀ n ∈ stepsL, ¬ (t < due + n ∧ due + n ≤ u)) : ageOf due t = ageOf due u := by
  have h1 := h 1 (by decide)
  have h2 := h 31 (by decide)
  have h3 := h 61 (by decide)
  have h4 := h 91 (by decide)
  simp only [ageOf, stepsL, List.foldr]
  have e : ∀ n : Int, ¬ (t < due + n ∧ due + n ≤ u) → (if t - due ≥ n then (1 : Int) else 0) = if u - due ≥ n then 1 else 0 := fun n hn => by
    by_cases ht : t - due ≥ n
    · rw [if_pos ht, if_pos (by omega)]
    · rw [if_neg ht, if_neg (by omega)]
  rw [e 1 h1, e 31 h2, e 61 h3, e 91 h4]
theorem ageOf_bounds (due t : Int) : 0 ≤ ageOf due t ∧ ageOf due t ≤ 4 := by
  simp only [ageOf, stepsL, List.foldr]
  repeat' split
  all_goals omega
/-- with no turn from one day to another all is as it was -/
theorem shr_same {c : Cl} {P : Pts} {t u : Int} (htu : t ≤ u) (h : ∀ x ∈ trn c P, ¬ (t < x ∧ x ≤ u)) : shr c P t = shr c P u := by
  have hd := h c.day (by simp [trn])
  have ha : ageOf c.due t = ageOf c.due u := ageOf_same htu fun n hn => h (c.due + n) (by
    simp only [trn, List.mem_append, List.mem_cons]
    exact .inl (.inr (List.mem_map.2 ⟨n, hn, rfl⟩)))
  have hs : sumTo P t = sumTo P u := sumTo_same htu fun p hp => h p.1 (by
    simp only [trn, List.mem_append]
    exact .inr (List.mem_map.2 ⟨p, hp, rfl⟩))
  unfold shr
  by_cases h1 : t < c.day
  · rw [if_pos h1, if_pos (by omega)]
  · rw [if_neg h1, if_neg (by omega), ha, hs]
/-- what is open is never below 0 and never more than it was -/
theorem shr_bounds {c : Cl} {P : Pts} (h : ∀ p ∈ P, 1 ≤ p.2) (hs : sumAll P ≤ c.amt) (h0 : 0 ≤ c.amt) (t : Int) : 0 ≤ (shr c P t).2 ∧ (shr c P t).2 ≤ c.amt ∧ 0 ≤ (shr c P t).1 ∧ (shr c P t).1 ≤ 4 := by
  have h1 := sumTo_bounds h t
  have h2 := ageOf_bounds c.due t
  unfold shr
  split
  · exact ⟨by simp, by simpa using h0, by simp, by simp⟩
  · simp only
    omega
end Go.Proofs.YtfclknlpdcanpaaGreatDoor
/- aged: a heap as a function from places to days. -/
namespace Go.Proofs.YtfclknlpdcanpaaGreatDoor
set_option linter.unusedVariables false
/-- no place is of an earlier day than the one above it -/
def Hp (f : Nat → Int) (n : Nat) : Prop := ∀ k, 0 < k → k < n → f ((k - 1) / 2) ≤ f k
def sw (f : Nat → Int) (a b : Nat) : Nat → Int := fun k => if k = a then f b else if k = b then f a else f k
theorem sw_l (f : Nat → Int) (a b : Nat) : sw f a b a = f b := by simp [sw]
theorem sw_r (f : Nat → Int) (a b : Nat) : sw f a b b = f a := by
  unfold sw
  by_cases h : b = a
  · rw [if_pos h, h]
  · rw [if_neg h, if_pos rfl]
theorem sw_o (f : Nat → Int) {a b k : Nat} (h1 : k ≠ a) (h2 : k ≠ b) : sw f a b k = f k := by
  unfold sw
  rw [if_neg h1, if_neg h2]
theorem Hp.top {f : Nat → Int} {n : Nat} (h : Hp f n) : ∀ k, k < n → f 0 ≤ f k := by
  intro k
  induction k using Nat.strongRecOn with
  | ind k ih =>
    intro hk
    by_cases h0 : k = 0
    · subst h0; exact Int.le_refl _
    · exact Int.le_trans (ih ((k - 1) / 2) (by omega) (by omega)) (h k (by omega) hk)
/-- all is well but at the place i, seen from above -/
def HpUp (f : Nat → Int) (n i : Nat) : Prop := (∀ k, 0 < k → k < n → k ≠ i → f ((k - 1) / 2) ≤ f k) ∧ ∀ k, 0 < k → k < n → (k - 1) / 2 = i → 0 < i → f ((i - 1) / 2) ≤ f k
theorem HpUp.stop {f : Nat → Int} {n i : Nat} (h : HpUp f n i) (hs : i = 0 ∨ f ((i - 1) / 2) ≤ f i) : Hp f n := fun k h1 h2 => by
  by_cases e : k = i
  · subst e
    rcases hs with hs | hs
    · omega
    · exact hs
  · exact h.1 k h1 h2 e
theorem HpUp.more {f : Nat → Int} {n : Nat} (h : Hp f n) : HpUp f (n + 1) n :=
  ⟨fun k h1 h2 h3 => h k h1 (by omega), fun k h1 h2 h3 h4 => by omega⟩
theorem HpUp.step {f : Nat → Int} {n i : Nat} (h : HpUp f n i) (h0 : 0 < i) (hi : i < n) (hlt : f i < f ((i - 1) / 2)) : HpUp (sw f ((i - 1) / 2) i) n ((i - 1) / 2) := by
  obtain ⟨u, hu⟩ : ∃ u, u = (i - 1) / 2 := ⟨_, rfl⟩
  have hui : u < i := by omega
  rw [← hu] at hlt ⊢
  refine ⟨fun k h1 h2 h3 => ?_, fun k h1 h2 h3 h4 => ?_⟩
  · by_cases hk : k = i
    · rw [hk, ← hu, sw_l, sw_r]; omega
    · have hb := h.1 k h1 h2 hk
      rw [sw_o f h3 hk]
      by_cases hp : (k - 1) / 2 = u
      · rw [hp, sw_l]; rw [hp] at hb; omega
      · by_cases hp2 : (k - 1) / 2 = i
        · rw [hp2, sw_r]
          have := h.2 k h1 h2 hp2 h0
          rwa [← hu] at this
        · rw [sw_o f hp hp2]; exact hb
  · have hg := h.1 u h4 (by omega) (by omega)
    have hne : (u - 1) / 2 ≠ u := by omega
    have hne2 : (u - 1) / 2 ≠ i := by omega
    rw [sw_o f hne hne2]
    by_cases hk : k = i
    · rw [hk, sw_r]; exact hg
    · rw [sw_o f (by omega) hk]
      have := h.1 k h1 h2 hk
      rw [h3] at this
      omega
/-- all is well but at the place i, seen from below -/
def HpDn (f : Nat → Int) (n i : Nat) : Prop := (∀ k, 0 < k → k < n → (k - 1) / 2 ≠ i → f ((k - 1) / 2) ≤ f k) ∧ ∀ k, 0 < k → k < n → (k - 1) / 2 = i → 0 < i → f ((i - 1) / 2) ≤ f k
theorem HpDn.stop {f : Nat → Int} {n i : Nat} (h : HpDn f n i) (hs : ∀ k, 0 < k → k < n → (k - 1) / 2 = i → f i ≤ f k) : Hp f n := fun k h1 h2 => by
  by_cases e : (k - 1) / 2 = i
  · rw [e]; exact hs k h1 h2 e
  · exact h.1 k h1 h2 e
theorem HpDn.step {f : Nat → Int} {n i c : Nat} (h : HpDn f n i) (hc : c < n) (hc0 : 0 < c) (hci : (c - 1) / 2 = i) (hlt : f c < f i) (hmin : ∀ k, 0 < k → k < n → (k - 1) / 2 = i → f c ≤ f k) : HpDn (sw f c i) n c := by
  have hic : i < c := by omega
  refine ⟨fun k h1 h2 h3 => ?_, fun k h1 h2 h3 h4 => ?_⟩
  · by_cases hp : (k - 1) / 2 = i
    · rw [hp, sw_r]
      by_cases hk : k = c
      · rw [hk, sw_l]; omega
      · rw [sw_o f hk (by omega)]
        exact hmin k h1 h2 hp
    · rw [sw_o f h3 hp]
      by_cases hk : k = i
      · rw [hk, sw_r]
        exact h.2 c hc0 hc hci (by omega)
      · rw [sw_o f (by omega) hk]
        exact h.1 k h1 h2 hp
  · rw [hci, sw_r, sw_o f (by omega) (by omega)]
    have := h.1 k h1 h2 (by omega)
    rw [h3] at this
    exact this
/-- the last one put at the top of what is left -/
theorem HpDn.top {f g : Nat → Int} {n : Nat} (h : Hp f (n + 1)) (hg : ∀ k, 0 < k → k < n → g k = f k) : HpDn g n 0 := by
  refine ⟨fun k h1 h2 h3 => ?_, fun k h1 h2 h3 h4 => by omega⟩
  rw [hg k h1 h2, hg ((k - 1) / 2) (by omega) (by omega)]
  exact h k h1 (by omega)
end Go.Proofs.YtfclknlpdcanpaaGreatDoor
/- aged: the view in memory. -/
namespace Go.Proofs.YtfclknlpdcanpaaGreatDoor
open Go Go.Shelf Go.ChangeShapes Go.WideShapes Go.ChangeAt Go.RowKit Go.Maps
set_option linter.unusedVariables false
/-- an allotment -/
structure Al where
  pay : ByteArray
  inv : ByteArray
  day : Int
  amt : Int
def Cl.vals (c : Cl) : List Value := [.string c.key, .string c.acc, .int .i64 c.day, .int .i64 c.due, .int .i64 c.amt]
def Al.vals (a : Al) : List Value := [.string a.pay, .string a.inv, .int .i64 a.day, .int .i64 a.amt]
def ptr (p : Nat) : Value := .pointer (some ⟨p, 0, none⟩)
def kP : Kd Nat := ⟨fun p => [ptr p], 1, 94, 101, 8⟩
def kA : Kd Al := ⟨Al.vals, 4, 60, 58, 48⟩
def kT : Kd (Int × Nat) := ⟨fun x => [.int .i64 x.1, ptr x.2], 2, 98, 116, 16⟩
def kQ : Kd (Int × Int) := ⟨fun x => [.int .i64 x.1, .int .i64 x.2], 2, 105, 112, 16⟩
def kC : Kd Cl := ⟨Cl.vals, 5, 59, 56, 56⟩
def kI : Kd Int := ⟨fun x => [.int .i64 x], 1, 129, 3, 8⟩
theorem kP_ok : KdOK kP := kd_ok (fun _ => rfl) (by decide) (fun x u hu => by simp [kP] at hu; subst hu; rfl) Tryz.underlying94 (z := .pointer none) (by kernel_rfl) rfl (by decide)
theorem kA_ok : KdOK kA := kd_ok (fun _ => rfl) (by decide) (fun x u hu => by simp [kA, Al.vals] at hu; rcases hu with rfl | rfl | rfl | rfl <;> rfl) Tryz.underlying60 (z := .agg #[.string ⟨#[]⟩, .string ⟨#[]⟩, .int .i64 0, .int .i64 0]) (by kernel_rfl) rfl (by decide)
theorem kT_ok : KdOK kT := kd_ok (fun _ => rfl) (by decide) (fun x u hu => by simp [kT] at hu; rcases hu with rfl | rfl <;> rfl) Tryz.underlying98 (z := .agg #[.int .i64 0, .pointer none]) (by kernel_rfl) rfl (by decide)
theorem kQ_ok : KdOK kQ := kd_ok (fun _ => rfl) (by decide) (fun x u hu => by simp [kQ] at hu; rcases hu with rfl | rfl <;> rfl) Tryz.underlying105 (z := .agg #[.int .i64 0, .int .i64 0]) (by kernel_rfl) rfl (by decide)
theorem kC_ok : KdOK kC := kd_ok (fun _ => rfl) (by decide) (fun x u hu => by simp [kC, Cl.vals] at hu; rcases hu with rfl | rfl | rfl | rfl | rfl <;> rfl) Tryz.underlying59 (z := .agg #[.string ⟨#[]⟩, .string ⟨#[]⟩, .int .i64 0, .int .i64 0, .int .i64 0]) (by kernel_rfl) rfl (by decide)
theorem kI_ok : KdOK kI := kd_ok (fun _ => rfl) (by decide) (fun x u hu => by simp [kI] at hu; subst hu; rfl) Tryz.underlying129 (z := .int .i64 0) (by kernel_rfl) rfl (by decide)
/-- the type of a block of cells -/
def tyAt (W : World) (b : Nat) : Option TypeId := match W.heap[b]? with
  | some (.cells _ t _) => some t
  | _ => none
theorem ty_of {W : World} {b : Nat} {xs : Array Value} {t : TypeId} {f : Nat × Nat} (h : W.heap[b]? = some (.cells xs t f)) : tyAt W b = some t := by unfold tyAt; rw [h]
theorem ty_lt {W : World} {b : Nat} {t : TypeId} (h : tyAt W b = some t) : b < W.heap.size := by
  rcases Nat.lt_or_ge b W.heap.size with h' | h'
  · exact h'
  · unfold tyAt at h
    rw [Array.getElem?_eq_none h'] at h
    cases h
theorem heap_lt {W : World} {b : Nat} {o : Obj} (h : W.heap[b]? = some o) : b < W.heap.size := (Array.getElem?_eq_some_iff.1 h).1
theorem row_ty {W : World} {B e s n g : Nat} {v : Value} {xs : List Value} (h : W.ownsRow B e s v n xs) (hg : v.ownBlock = some g) : tyAt W g = some e := by
  rcases h.2 with ⟨e, h2⟩ | ⟨g', cap, cur, e, hB, hh, h3⟩
  · rw [e] at hg; cases hg
  · rw [e] at hg
    have e2 : g' = g := Option.some.inj hg
    subst e2
    exact ty_of hh
/-- all blocks of a type are as they were -/
def SameT (W W' : World) (t : TypeId) : Prop := ∀ b, tyAt W b = some t → W'.heap[b]? = W.heap[b]?
theorem row_same {W W' : World} {B e s n : Nat} {v : Value} {xs : List Value} (h : W.ownsRow B e s v n xs) (hs : SameT W W' e) : W'.ownsRow B e s v n xs := row_keep h fun g hg => hs g (row_ty h hg)
/-- maps from names to pointers -/
def optp : Option Nat → Value
  | none => .pointer none
  | some p => ptr p
def ptrElem : Value → Option (DataW Value × List MemPlace)
  | .pointer p => some (.held (.pointer p), [])
  | _ => none
theorem ptrElem_opt (o : Option Nat) : ptrElem (optp o) = some (.held (optp o), []) := by cases o <;> rfl
theorem ptrElem_inv {v : Value} {y : DataW Value × List MemPlace} (h : ptrElem v = some y) : y = (.held v, []) := by
  unfold ptrElem at h
  split at h
  · injection h with h; exact h.symm
  · cases h
structure PMAt (w : World) (b n : Nat) (F : List UInt8 → Option Nat) : Prop where
  map : ∃ D, w.ownsMap Tryz.prog 9 ptrElem b n D ∧ ∀ k, D.atKey (.string k) (.held (.pointer none)) = .held (optp (F k))
theorem keyM {s : ByteArray} (hs : s.size ≤ maxLen) : keyOf Tryz.prog 9 (.string s) = some (.string s.data.toList) := by
  simp [keyOf, mapKey, Tryz.underlying9, hs]
theorem PMAt.made (w : World) : PMAt (w.alloc (.map #[] 0)) w.heap.size 0 (fun _ => none) := ⟨_, World.ownsMap_made w _ _ _, fun k => rfl⟩
theorem PMAt.keep {w w' : World} {b n : Nat} {F : List UInt8 → Option Nat} (h : PMAt w b n F) (hb : w'.heap[b]? = w.heap[b]?) : PMAt w' b n F := by
  obtain ⟨D, ⟨es, clock, h1, r⟩, h2⟩ := h.map
  exact ⟨D, ⟨es, clock, hb.trans h1, r⟩, h2⟩
theorem PMAt.mono {w : World} {b n m : Nat} {F : List UInt8 → Option Nat} (h : PMAt w b n F) (hm : n ≤ m) : PMAt w b m F := by
  obtain ⟨D, h1, h2⟩ := h.map
  exact ⟨D, h1.mono hm, h2⟩
theorem PMAt.block {w : World} {b n : Nat} {F : List UInt8 → Option Nat} (h : PMAt w b n F) : ∃ es clock, w.heap[b]? = some (.map es clock) := by
  obtain ⟨D, ⟨es, clock, h1, r⟩, h2⟩ := h.map
  exact ⟨es, clock, h1⟩
theorem PMAt.ty {w : World} {b n : Nat} {F : List UInt8 → Option Nat} (h : PMAt w b n F) : tyAt w b = none := by
  obtain ⟨es, clock, h1⟩ := h.block
  unfold tyAt
  rw [h1]
set_option maxRecDepth 100000 in
theorem PMAt.look {w : World} {b n : Nat} {F : List UInt8 → Option Nat} (h : PMAt w b n F) {t e : TypeId} (ht : Tryz.prog.underlying t = some (.map 9 e)) (hz : (zeroValue e).run Tryz.prog w = .ok (.pointer none) w) {s : ByteArray} (hs : s.size ≤ maxLen) :
    (Instr.lookup t (.map (some b)) (.string s) false).run Tryz.prog w = .ok (optp (F s.data.toList)) w := by
  obtain ⟨D, hm, hv⟩ := h.map
  obtain ⟨v, ps, hrun, hR⟩ := hm.lookup (string_keyed Tryz.underlying9) ht hz (zd := .held (.pointer none)) (zp := []) rfl (keyM hs)
  rw [hv] at hR
  have e := ptrElem_inv hR
  have e2 : DataW.held (optp (F s.data.toList)) = DataW.held v := congrArg Prod.fst e
  injection e2 with e2
  rw [e2]
  exact hrun
theorem PMAt.set {w : World} {b n : Nat} {F : List UInt8 → Option Nat} (h : PMAt w b n F) {t e : TypeId} (ht : Tryz.prog.underlying t = some (.map 9 e)) (hn : n < maxLen) {s : ByteArray} (hs : s.size ≤ maxLen) (p : Nat) :
    ∃ w', (Instr.mapUpdate t (.map (some b)) (.string s) (ptr p)).run Tryz.prog w = .ok () w' ∧ PMAt w' b (n + 1) (fun k => if k = s.data.toList then some p else F k) ∧ w.grownBy w' (some b) := by
  obtain ⟨D, hm, hv⟩ := h.map
  obtain ⟨w', hrun, hmap, hg⟩ := hm.update (val := ptr p) (d := .held (ptr p)) (ps := []) (string_keyed Tryz.underlying9) ht hn (keyM hs) rfl
  refine ⟨w', hrun, ⟨D.put (.string s.data.toList) (.held (ptr p)), hmap, fun k => ?_⟩, hg⟩
  by_cases e : k = s.data.toList
  · subst e; rw [atKey_put_same hm.isMap (by trivial)]; simp [optp]
  · rw [atKey_put_other (by simpa using e), hv]; simp [e]
end Go.Proofs.YtfclknlpdcanpaaGreatDoor
