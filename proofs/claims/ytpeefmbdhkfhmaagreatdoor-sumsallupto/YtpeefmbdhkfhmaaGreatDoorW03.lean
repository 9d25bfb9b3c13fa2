import Derived.RangeFuncOwn
import Derived.Test.YtpeefmbdhkfhmaaGreatDoorW02
import Derived.Laws.AppendOwnNone
import Derived.Below
import Derived.BigCall
import Derived.BigQuiet
import Derived.Deep.AppendLies
import Derived.Deep.MidRow
import Derived.Deep.QuietTactic
import Derived.Laws.AppendOwn
import Derived.Laws.BitsAll
import Derived.Laws.MakeOwn
import Derived.Laws.OwnMore
import Derived.Lib.Bytes
import Derived.Lib.LastIndexByte
import Derived.Lib.SplitLaws
import Derived.Maps.AppendAt
import Derived.OpenShut
import Derived.ProofKit
import Derived.Shelf.Abstract
import Derived.WalkKit
import Derived.WalkLawsBesides
import Derived.Deep.RegionHeldLaw
/- rows of any kind of element: lists of them that lie somewhere, and lists that a call owns. -/
namespace Go.Proofs.YtpeefmbdhkfhmaaGreatDoor.Kg
open Go Go.Shelf Go.ChangeShapes Go.WideShapes Go.ChangeAt Go.RowKit Go.Maps
set_option linter.unusedVariables false
/-- a kind of element: its cells, its size in cells and in bytes, the type of its slices and its own -/
structure Kd (α : Type) where
  enc : α → List Value
  s : Nat
  t : TypeId
  e : TypeId
  by' : Nat
structure KdOK {α : Type} (K : Kd α) : Prop where
  len : ∀ x, (K.enc x).length = K.s
  pos : 0 < K.s
  one : ∀ x, ∀ u ∈ K.enc x, u.oneCell' = true
  und : Tryz.prog.underlying K.t = some (.slice K.e)
  info : ∃ i z, Tryz.prog.info? K.e = some i ∧ i.zero = some z ∧ i.size = K.s ∧ i.bytes = K.by' ∧ z.cells.size = K.s
  small : K.by' ≤ 128
variable {α : Type} {K : Kd α}
def Kd.flat (K : Kd α) (L : List α) : List Value := L.flatMap K.enc
theorem flat_nil : K.flat [] = [] := rfl
theorem flat_append (L M : List α) : K.flat (L ++ M) = K.flat L ++ K.flat M := List.flatMap_append
theorem flat_sing (x : α) : K.flat [x] = K.enc x := by simp [Kd.flat]
theorem flat_len (h : KdOK K) (L : List α) : (K.flat L).length = L.length * K.s := by
  induction L with
  | nil => simp [Kd.flat]
  | cons r R ih =>
    have e : K.flat (r :: R) = K.enc r ++ K.flat R := by simp [Kd.flat]
    rw [e, List.length_append, ih, h.len, List.length_cons, Nat.add_mul, Nat.one_mul]
    omega
theorem flat_get (h : KdOK K) : ∀ (L : List α) (k : Nat) (hk : k < L.length) (j : Nat), j < K.s → (K.flat L)[k * K.s + j]? = (K.enc L[k])[j]?
  | [], k, hk, _, _ => by simp at hk
  | r :: R, 0, _, j, hj => by
    have e : K.flat (r :: R) = K.enc r ++ K.flat R := by simp [Kd.flat]
    rw [e, List.getElem?_append_left (by rw [h.len]; omega)]
    simp
  | r :: R, k + 1, hk, j, hj => by
    have e : K.flat (r :: R) = K.enc r ++ K.flat R := by simp [Kd.flat]
    have e2 : (k + 1) * K.s + j - (K.enc r).length = k * K.s + j := by rw [h.len, Nat.add_mul, Nat.one_mul]; omega
    rw [e, List.getElem?_append_right (by rw [h.len, Nat.add_mul, Nat.one_mul]; omega), e2, flat_get h R k (by simpa using hk) j hj]
    simp
theorem flat_one (h : KdOK K) (L : List α) : ∀ u ∈ K.flat L, u.oneCell' = true := fun u hu => by
  obtain ⟨r, hr, hx⟩ := List.mem_flatMap.1 hu
  exact h.one r u hx
/-- elements that lie somewhere -/
def Lies (K : Kd α) (W : World) (p : Option Addr) (L : List α) : Prop :=
  (p = none → L = []) ∧ ∀ k (hk : k < L.length), ∃ b off, p = some ⟨b, off, none⟩ ∧ b < W.heap.size ∧ W.rangeAt b (off + k * K.s) (K.enc L[k])
theorem Lies.nil (W : World) (p : Option Addr) : Lies K W p [] := ⟨fun _ => rfl, fun k hk => by simp at hk⟩
theorem Lies.drewN {W : World} {p : Option Addr} {L : List α} (h : Lies K W p L) (m : Nat) : Lies K (W.drewN m) p L :=
  ⟨h.1, fun k hk => by
    obtain ⟨b, off, e, hlt, hr⟩ := h.2 k hk
    exact ⟨b, off, e, by simpa using hlt, fun j u hu => by simpa using hr j u hu⟩⟩
theorem Lies.below {W W' : World} {p : Option Addr} {L : List α} (h : Lies K W p L) (hb : Below W.heap.size W W') : Lies K W' p L := by
  refine ⟨h.1, fun k hk => ?_⟩
  obtain ⟨b, off, e, hlt, hr⟩ := h.2 k hk
  exact ⟨b, off, e, Nat.lt_of_lt_of_le hlt hb.size, fun j u hu => (hb.cell (p := ⟨b, off + k * K.s + j, none⟩) hlt).trans (hr j u hu)⟩
theorem Lies.block {W W' : World} {b off : Nat} {L : List α} (h : Lies K W (some ⟨b, off, none⟩) L) (hs : W.heap.size ≤ W'.heap.size) (hb : W'.heap[b]? = W.heap[b]?) : Lies K W' (some ⟨b, off, none⟩) L := by
  refine ⟨h.1, fun k hk => ?_⟩
  obtain ⟨b', off', e, hlt, hr⟩ := h.2 k hk
  cases e
  exact ⟨b, off, rfl, Nat.lt_of_lt_of_le hlt hs, fun j u hu => (World.cell?_of_block (a := ⟨b, off + k * K.s + j, none⟩) hb).trans (hr j u hu)⟩
/-- a part of what lies there -/
theorem Lies.part {W : World} {b off : Nat} {L : List α} (h : Lies K W (some ⟨b, off, none⟩) L) (a m : Nat) : Lies K W (some ⟨b, off + a * K.s, none⟩) ((L.drop a).take m) := by
  refine ⟨(fun h => by cases h), fun k hk => ?_⟩
  rw [List.length_take, List.length_drop] at hk
  have hak : a + k < L.length := by omega
  obtain ⟨b', off', e, hlt, hr⟩ := h.2 (a + k) hak
  cases e
  refine ⟨b, off + a * K.s, rfl, hlt, ?_⟩
  rw [List.getElem_take, List.getElem_drop, Nat.add_assoc, ← Nat.add_mul]
  exact hr
theorem row_block {W : World} {B g e s n : Nat} {v : Value} {xs : List Value} (h : W.ownsRow B e s v n xs) (hg : v.ownBlock = some g) : B ≤ g ∧ g < W.heap.size ∧ ∃ o, W.heap[g]? = some o ∧ o.isCells = true := by
  rcases h.2 with ⟨e, h2⟩ | ⟨g', cap, cur, e, hB, hh, h3⟩
  · rw [e] at hg; cases hg
  · rw [e] at hg
    have e2 : g' = g := Option.some.inj hg
    subst e2
    exact ⟨hB, (Array.getElem?_eq_some_iff.1 hh).1, _, hh, rfl⟩
theorem row_keep {W W' : World} {B e s n : Nat} {v : Value} {xs : List Value} (h : W.ownsRow B e s v n xs) (hk : ∀ g, v.ownBlock = some g → W'.heap[g]? = W.heap[g]?) : W'.ownsRow B e s v n xs := by
  refine ⟨h.1, ?_⟩
  rcases h.2 with h2 | ⟨g, cap, cur, e, hB, hh, h3⟩
  · exact .inl h2
  · exact .inr ⟨g, cap, cur, e, hB, (hk g (by rw [e]; rfl)).trans hh, h3⟩
theorem row_le {W : World} {B B' e s n : Nat} {v : Value} {xs : List Value} (h : W.ownsRow B e s v n xs) (hb : B' ≤ B) : W.ownsRow B' e s v n xs := by
  refine ⟨h.1, ?_⟩
  rcases h.2 with h2 | ⟨g, cap, cur, e, hB, h3⟩
  · exact .inl h2
  · exact .inr ⟨g, cap, cur, e, Nat.le_trans hb hB, h3⟩
theorem row_slice {W : World} {B e s n : Nat} {v : Value} {xs : List Value} (h : W.ownsRow B e s v n xs) : ∃ p c, v = .slice p n c ∧ (p = none → n = 0 ∧ c = 0) ∧ (∀ a, p = some a → a.off = 0 ∧ a.spot = none ∧ B ≤ a.block ∧ n ≤ c) := by
  rcases h.2 with ⟨e, h2⟩ | ⟨g, cap, cur, e, hB, hh, hc, h3⟩
  · exact ⟨none, 0, by rw [e, h2], (fun _ => ⟨h2, rfl⟩), (fun a h => by cases h)⟩
  · exact ⟨_, _, e, (fun h => by cases h), (fun a h => by cases h; exact ⟨rfl, rfl, hB, by omega⟩)⟩
theorem own_lies (hK : KdOK K) {W : World} {B : Nat} {p : Option Addr} {c n : Nat} {L : List α} (hn : L.length = n) (h : W.ownsRow B K.e K.s (.slice p n c) n (K.flat L)) : Lies K W p L := by
  rcases h.2 with ⟨e, h2⟩ | ⟨g, cap, cur, e, hB, hh, hc, hm, hcs, ht⟩
  · have : L = [] := List.eq_nil_of_length_eq_zero (by omega)
    subst this
    exact Lies.nil _ _
  · cases e
    refine ⟨(fun h => by cases h), fun k hk => ⟨g, 0, rfl, (Array.getElem?_eq_some_iff.1 hh).1, fun j u hu => ?_⟩⟩
    have hj : j < K.s := by
      have := (List.getElem?_eq_some_iff.1 hu).1
      rwa [hK.len] at this
    have h3 := flat_get hK L k hk j hj
    rw [hu] at h3
    have hk2 : (cur.toList.take (n * K.s))[k * K.s + j]? = some u := by rw [ht]; exact h3
    have hlt : k * K.s + j < n * K.s := by
      have : (k + 1) * K.s ≤ n * K.s := Nat.mul_le_mul_right _ (by omega)
      rw [Nat.add_mul, Nat.one_mul] at this
      omega
    rw [List.getElem?_take_of_lt hlt] at hk2
    unfold World.cell?
    simp only [hh, Nat.zero_add]
    simpa using hk2
theorem news_of (hK : KdOK K) {W : World} {ad : Addr} {L : List α} (hu : Lies K W (some ad) L) : ∀ j u, (K.flat L)[j]? = some u → W.cell? (ad.add j) = some u := fun j u hj => by
  have hjl : j < L.length * K.s := by
    have := (List.getElem?_eq_some_iff.1 hj).1
    rwa [flat_len hK] at this
  have hk : j / K.s < L.length := Nat.div_lt_of_lt_mul (by rw [Nat.mul_comm]; exact hjl)
  obtain ⟨b, off, e, hlt, hr⟩ := hu.2 (j / K.s) hk
  have e' : ad = ⟨b, off, none⟩ := Option.some.inj e
  subst e'
  have e9 : j / K.s * K.s + j % K.s = j := Nat.div_add_mod' j K.s
  rw [Addr.add_mid]
  have h3 := flat_get hK L (j / K.s) hk (j % K.s) (Nat.mod_lt _ hK.pos)
  rw [e9, hj] at h3
  have h4 := hr (j % K.s) u h3.symm
  rw [Nat.add_assoc, e9] at h4
  exact h4
set_option maxRecDepth 100000 in
/-- an append of elements that lie somewhere, to a list that the call owns -/
theorem run_app (hK : KdOK K) {W : World} {B : Nat} {v : Value} {L M : List α} {n : Nat} (ty : TypeId) (h : W.ownsRow B K.e K.s v n (K.flat L)) (hB : B ≤ W.heap.size) (pu : Option Addr) (cu : Nat) (hcu : pu = none → cu = 0) (hu : Lies K W pu M) (hl : n + M.length ≤ 1099511627776) :
    ∃ p' c' w', (Builtin.append_ #[K.t, K.t] ty #[v, .slice pu M.length cu]).run Tryz.prog W = .ok (.slice p' (n + M.length) c') w' ∧ w'.ownsRow B K.e K.s (.slice p' (n + M.length) c') (n + M.length) (K.flat (L ++ M)) ∧ Below B W w' ∧ (∀ k, k < W.heap.size → v.ownBlock ≠ some k → w'.heap[k]? = W.heap[k]?) ∧ ((Value.slice p' (n + M.length) c').ownBlock = v.ownBlock ∨ (Value.slice p' (n + M.length) c').ownBlock = some W.heap.size) := by
  obtain ⟨i, z, hi, hz, hsize, hby, hzs⟩ := hK.info
  cases pu with
  | none =>
    have hR := hu.1 rfl
    subst hR
    rw [hcu rfl]
    have hr := run_append_owned_none (P := Tryz.prog) (w := W) B K.t ty K.e i K.s hK.und hi v n (K.flat L) h
    obtain ⟨p, c, e, _⟩ := row_slice h
    subst e
    exact ⟨p, c, W, hr, by rw [List.append_nil]; exact h, Below.refl _ _, fun _ _ _ => rfl, .inl rfl⟩
  | some ad =>
    obtain ⟨v', w', hr, ho, hg, hnil, hat⟩ := run_append_own_at (P := Tryz.prog) W B K.t ty K.e i z K.s K.by' hK.und hi hz hsize hby hzs hK.pos v n (K.flat L) h ad M.length cu (K.flat M) (flat_len hK M) (news_of hK hu) (flat_one hK M) (by unfold maxLen; omega) (by
      have h1 := hK.small
      have : (n + M.length) * K.by' ≤ 1099511627776 * 128 := Nat.mul_le_mul hl h1
      omega) hB
    rw [← flat_append] at ho
    obtain ⟨p, c, e, _⟩ := row_slice ho
    subst e
    refine ⟨p, c, w', hr, ho, ⟨hg.os, hg.tape, hg.output, hg.size, fun q hq => hg.block q (Nat.lt_of_lt_of_le hq hB) (fun e => ?_)⟩, fun k hk hne => hg.block k hk (fun e => hne e.symm), hat⟩
    have := (row_block h e.symm).1
    omega
/-- an append as an operation of a region, by its run -/
theorem wpList_append_run {P : Program} {w : World} {ops : Array Oper} {rest : List Oper} {o : Oper} {a : Act} {Q : Exit → Act → World → Prop} (hgd : o.guard = none) (s x : Operand) (t : TypeId)
    (ho : o.op = .call { callee := .builtin .append, args := #[s, x], argTypes := #[t, t] }) (v u v' : Value) (w' : World) (hs : a.eval s = v) (hx : a.eval x = u) (hr : (Builtin.append_ #[t, t] o.type #[v, u]).run P w = .ok v' w')
    (h : wpList P ops Q rest (a.put o.dst v') w') : wpList P ops Q (o :: rest) a w := by
  refine wpList_plain hgd fun K hK => ?_
  unfold Oper.wp execOp
  simp only [ho, resolve, invoke, builtin, Sem.run_bind, Sem.run_pure, Result.andThen_ok, List.map_toArray, List.map_cons, List.map_nil, hs, hx, hr]
  exact hK _ _ h
/-- a block of one element -/
theorem one_lies (W : World) (x : α) (t : TypeId) (vs : Array Value) (hv : vs.toList = K.enc x) : Lies K (W.alloc (.cells vs t)) (some ⟨W.heap.size, 0, none⟩) [x] := by
  refine ⟨(fun h => by cases h), fun k hk => ?_⟩
  have e : k = 0 := by simp at hk; exact hk
  subst e
  refine ⟨W.heap.size, 0, rfl, by simp, fun j u hu => ?_⟩
  rw [World.cell?_alloc_mark, Nat.zero_mul, Nat.zero_add]
  rw [show ([x] : List α)[0] = x from rfl, ← hv] at hu
  simpa using hu
theorem kd_ok {K : Kd α} (len : ∀ x, (K.enc x).length = K.s) (pos : 0 < K.s) (one : ∀ x, ∀ u ∈ K.enc x, u.oneCell' = true) (und : Tryz.prog.underlying K.t = some (.slice K.e)) {z : Value} (info : (Tryz.prog.info? K.e).map (fun i => (i.zero, i.size, i.bytes)) = some (some z, K.s, K.by')) (hz : z.cells.size = K.s) (small : K.by' ≤ 128) : KdOK K := by
  obtain ⟨i, h1, h2, h3, h4⟩ := info_parts info
  exact ⟨len, pos, one, und, ⟨i, z, h1, h2, h3, h4, hz⟩, small⟩
end Go.Proofs.YtpeefmbdhkfhmaaGreatDoor.Kg
/- Regions that draw: S holds till number n has come up, or all along; their steps in short. -/
namespace Go.Proofs.YtpeefmbdhkfhmaaGreatDoor.Kg
open Go Go.Shelf Go.ChangeShapes Go.WideShapes Go.ChangeAt Go.RowKit Go.Maps
set_option linter.unusedVariables false
section
variable {P : Program} {ops : Array Oper} {Q : Exit → Act → World → Prop} {md : Region.Mode} {S : World → Prop} {n : Nat}
/-- whatever order is picked from here on; till number n has come up, S holds behind each operation -/
def wpAnyL (P : Program) (md : Region.Mode) (ops : Array Oper) (Q : Exit → Act → World → Prop) (S : World → Prop) (n : Nat) : Nat → Array Bool → Act → World → Prop
  | 0, listed, a, w => Region.ready md ops listed = [] ∧ Q .normal a w
  | fuel + 1, listed, a, w =>
    (Region.ready md ops listed = [] → Q .normal a w) ∧
    ∀ i ∈ Region.ready md ops listed, wpOp P ops Q i (fun a' w' => ((listed.setIfInBounds i true).getD n false = false → S w') ∧ wpAnyL P md ops Q S n fuel (listed.setIfInBounds i true) a' w') a w
theorem any_of_last : ∀ (fuel : Nat) (listed : Array Bool) (a : Act) (w : World), wpAnyL P md ops Q S n fuel listed a w → wpAny P md ops Q fuel listed a w
  | 0, _, _, _, h => h
  | fuel + 1, _, _, _, h => ⟨h.1, fun i hi => wpOp_mono (fun a' w' h' => any_of_last fuel _ a' w' h'.2) (h.2 i hi)⟩
/-- number n waits for number i -/
def waitsFor (md : Region.Mode) (ops : Array Oper) (n i : Nat) : Bool := ((ops[n]?).map (·.after.any fun e => Region.binds md e && e.on == i)).getD false
theorem not_ready {listed : Array Bool} {i : Nat} (hw : waitsFor md ops n i = true) (hu : listed.getD i true = false) : n ∉ Region.ready md ops listed := fun hr => by
  obtain ⟨_, o, ho, hall⟩ := mem_ready.1 hr
  unfold waitsFor at hw
  rw [ho] at hw
  simp only [Option.map_some, Option.getD_some] at hw
  rw [Array.any_eq_true] at hw
  obtain ⟨k, hk, hb⟩ := hw
  rw [Bool.and_eq_true, beq_iff_eq] at hb
  have h1 := hall _ (Array.getElem_mem hk) hb.1
  rw [hb.2] at h1
  rcases Nat.lt_or_ge i listed.size with h | h
  · simp [h] at hu h1
    rw [hu] at h1
    cases h1
  · simp [h] at h1
theorem wpAnyL_first {i : Nat} {oi : Oper} {v : Value} {S1 : World → Prop} (hi : ops[i]? = some oi) (hsel : ∀ (j : Nat) (o : Oper) cs b, ops[j]? = some o → o.op ≠ .select cs b)
    (hQ : ∀ c a w, Q (.panic c) (a.put oi.dst v) w → Q (.panic c) a w) (hS1 : ∀ W, S W → S1 W) (hin : i ≠ n) :
    ∀ (fuel : Nat) (listed : Array Bool) (a : Act) (w : World),
      (∀ j oj, ops[j]? = some oj → j ≠ i → listed.getD j true = false → (∀ e ∈ oj.after, Region.binds md e = true → e.on ≠ i) → oi.apart ops oj = true) →
      i ∈ Region.ready md ops listed → YieldsIf P ops S1 oi v a → (listed.getD n false = false → S w) → ((∀ W, S1 W) ∨ (waitsFor md ops n i = true ∧ listed.getD n false = false)) →
      wpAnyL P md ops Q S n fuel (listed.setIfInBounds i true) (a.put oi.dst v) w → wpAnyL P md ops Q S n (fuel + 1) listed a w := by
  intro fuel
  have hat : ∀ {listed : Array Bool} {w : World}, (listed.getD n false = false → S w) → ((∀ W, S1 W) ∨ (waitsFor md ops n i = true ∧ listed.getD n false = false)) → S1 w := fun hS hn => hn.elim (fun h => h _) (fun h => hS1 _ (hS h.2))
  have hup : ∀ {listed : Array Bool} {w : World}, (listed.getD n false = false → S w) → ((listed.setIfInBounds i true).getD n false = false → S w) := fun {listed w} hS hn => hS (by rw [getD_set_ne false hin] at hn; exact hn)
  induction fuel with
  | zero =>
    intro listed a w _ hr hy hS hn H
    refine ⟨fun h => (by rw [h] at hr; cases hr), fun j hj => ?_⟩
    by_cases hji : j = i
    · subst hji; exact hy.wpOp hi (hat hS hn) ⟨hup hS, H⟩
    · have := ready_mono hj hji
      rw [H.1] at this
      cases this
  | succ fuel ih =>
    intro listed a w hfree hr hy hS hn H
    refine ⟨fun h => (by rw [h] at hr; cases hr), fun j hj => ?_⟩
    by_cases hji : j = i
    · subst hji; exact hy.wpOp hi (hat hS hn) ⟨hup hS, H⟩
    · have h1 := H.2 j (ready_mono hj hji)
      obtain ⟨hjun, oj, hoj, hall⟩ := mem_ready.1 hj
      have hiun := (mem_ready.1 hr).1
      have hnot : ∀ e ∈ oj.after, Region.binds md e = true → e.on ≠ i := fun e he hb heq => by
        have h1 := hall e he hb
        have h0 := (mem_ready.1 hr).1
        rw [heq] at h1
        rcases Nat.lt_or_ge i listed.size with h' | h'
        · simp [h'] at h0 h1; rw [h0] at h1; cases h1
        · simp [Array.getElem?_eq_none h'] at h1
      have h2 := wpOp_putIf hoj (hfree j oj hoj hji hjun hnot) (fun cs b => hsel i oi cs b hi) (fun cs b => hsel j oj cs b hoj) hQ hy h1
      have hfree' : ∀ k ok, ops[k]? = some ok → k ≠ i → (listed.setIfInBounds j true).getD k true = false →
          (∀ e ∈ ok.after, Region.binds md e = true → e.on ≠ i) → oi.apart ops ok = true := fun k ok hk hki hun hno => by
        refine hfree k ok hk hki ?_ hno
        by_cases hjk : j = k
        · subst hjk; exact hjun
        · rw [getD_set_ne true hjk] at hun; exact hun
      have hn' : (∀ W, S1 W) ∨ (waitsFor md ops n i = true ∧ (listed.setIfInBounds j true).getD n false = false) := hn.imp id (fun h => ⟨h.1, by
        have hjn : j ≠ n := fun e => not_ready h.1 hiun (by rw [← e]; exact hj)
        rw [getD_set_ne false hjn]
        exact h.2⟩)
      refine wpOp_mono (fun a' w' h3 => ?_) h2
      have hS' : (listed.setIfInBounds j true).getD n false = false → S w' := fun hh => h3.2.1 (by
        rw [Array.setIfInBounds_comm _ _ (Ne.symm hji), getD_set_ne false hin]
        exact hh)
      refine ⟨hS', ih (listed.setIfInBounds j true) a' w' hfree' (ready_mono hr (Ne.symm hji)) h3.1 hS' hn' ?_⟩
      rw [Array.setIfInBounds_comm _ _ hji]
      exact h3.2.2
theorem wpAnyL_take {i : Nat} {oi : Oper} {v : Value} {fuel : Nat} {listed : Array Bool} {a : Act} {w : World} (hi : ops[i]? = some oi)
    (hs : Region.noSelect ops = true) (hf : Region.free md ops listed i = true) (hr : (Region.ready md ops listed).contains i = true)
    (hQ : ∀ c a w, Q (.panic c) (a.put oi.dst v) w → Q (.panic c) a w) (hin : i ≠ n) (hw : waitsFor md ops n i = true) (hnl : listed.getD n false = false) (hy : YieldsIf P ops S oi v a) (hS : S w)
    (h : wpAnyL P md ops Q S n fuel (listed.setIfInBounds i true) (a.put oi.dst v) w) : wpAnyL P md ops Q S n (fuel + 1) listed a w :=
  wpAnyL_first hi (Region.noSelect_spec hs) hQ (fun _ h => h) hin fuel listed a w (Region.free_spec hi hf) (by simpa using hr) hy (fun _ => hS) (.inr ⟨hw, hnl⟩) h
theorem wpAnyL_takeW {i : Nat} {oi : Oper} {v : Value} {fuel : Nat} {listed : Array Bool} {a : Act} {w : World} (hi : ops[i]? = some oi)
    (hs : Region.noSelect ops = true) (hf : Region.free md ops listed i = true) (hr : (Region.ready md ops listed).contains i = true)
    (hQ : ∀ c a w, Q (.panic c) (a.put oi.dst v) w → Q (.panic c) a w) (hin : i ≠ n) (hy : YieldsIf P ops (fun _ => True) oi v a) (hS : S w)
    (h : wpAnyL P md ops Q S n fuel (listed.setIfInBounds i true) (a.put oi.dst v) w) : wpAnyL P md ops Q S n (fuel + 1) listed a w :=
  wpAnyL_first hi (Region.noSelect_spec hs) hQ (fun _ _ => trivial) hin fuel listed a w (Region.free_spec hi hf) (by simpa using hr) hy (fun _ => hS) (.inl fun _ => trivial) h
/-- the one that comes up next: behind it S is to be shown anew -/
theorem wpAnyL_one {i : Nat} {o : Oper} {fuel : Nat} {listed : Array Bool} {a : Act} {w : World} (hr : Region.ready md ops listed = [i]) (ho : ops[i]? = some o)
    (h : ∀ K' : Act → World → Prop, Shut (∀ a w, S w → (S w → wpAnyL P md ops Q S n fuel (listed.setIfInBounds i true) a w) → K' a w) → if Region.wanted o (yielded ops a.tmps) = true then Oper.wp P o a w K' Q else K' (a.put o.dst undef) w) : wpAnyL P md ops Q S n (fuel + 1) listed a w := by
  refine ⟨fun h0 => (by rw [hr] at h0; cases h0), fun j hj => ?_⟩
  rw [hr, List.mem_singleton] at hj
  subst hj
  exact wpOp_step ho (fun K' hK => h K' (fun a w hS hW => hK a w ⟨fun _ => hS, hW hS⟩))
/-- the last one -/
theorem wpAnyL_end {i : Nat} {o : Oper} {fuel : Nat} {listed : Array Bool} {a : Act} {w : World} (hr : Region.ready md ops listed = [i]) (ho : ops[i]? = some o) (hd1 : Region.ready md ops (listed.setIfInBounds i true) = []) (hd2 : (listed.setIfInBounds i true).getD n false = true)
    (h : ∀ K' : Act → World → Prop, Shut (∀ a w, Q .normal a w → K' a w) → if Region.wanted o (yielded ops a.tmps) = true then Oper.wp P o a w K' Q else K' (a.put o.dst undef) w) : wpAnyL P md ops Q S n (fuel + 1) listed a w := by
  refine ⟨fun h0 => (by rw [hr] at h0; cases h0), fun j hj => ?_⟩
  rw [hr, List.mem_singleton] at hj
  subst hj
  refine wpOp_step ho (fun K' hK => h K' (fun a w hq => hK a w ⟨fun hf => (by rw [hd2] at hf; cases hf), ?_⟩))
  cases fuel with
  | zero => exact ⟨hd1, hq⟩
  | succ fuel => exact ⟨fun _ => hq, fun i hi => (by rw [hd1] at hi; cases hi)⟩
theorem wp_region_last {id : Nat} {a : Act} {w : World} (hm : P.follows .mixedOrders = true) (hS : S w.drew)
    (h : S w.drew → wpAnyL P .any ops Q S n ops.size (Array.replicate ops.size false) a w.drew) : (Code.region id ops true).wp P Q a w :=
  wp_region_any hm (any_of_last _ _ _ _ (h hS))
end
section
variable {P : Program} {ops : Array Oper} {Q : Exit → Act → World → Prop} {md : Region.Mode} {S : World → Prop} {n : Nat}
theorem wpAnyL_firstN {i : Nat} {oi : Oper} {v : Value} {S1 : World → Prop} (hi : ops[i]? = some oi) (hsel : ∀ (j : Nat) (o : Oper) cs b, ops[j]? = some o → o.op ≠ .select cs b)
    (hQ : ∀ c a w, Q (.panic c) (a.put oi.dst v) w → Q (.panic c) a w) (hS1 : ∀ W, S W → S1 W) (hin : i ≠ n) (hnn : ops.size ≤ n) :
    ∀ (fuel : Nat) (listed : Array Bool) (a : Act) (w : World),
      (∀ j oj, ops[j]? = some oj → j ≠ i → listed.getD j true = false → (∀ e ∈ oj.after, Region.binds md e = true → e.on ≠ i) → oi.apart ops oj = true) →
      i ∈ Region.ready md ops listed → YieldsIf P ops S1 oi v a → (listed.getD n false = false → S w) → (listed.getD n false = false) →
      wpAnyL P md ops Q S n fuel (listed.setIfInBounds i true) (a.put oi.dst v) w → wpAnyL P md ops Q S n (fuel + 1) listed a w := by
  intro fuel
  have hat : ∀ {listed : Array Bool} {w : World}, (listed.getD n false = false → S w) → (listed.getD n false = false) → S1 w := fun hS hn => hS1 _ (hS hn)
  have hup : ∀ {listed : Array Bool} {w : World}, (listed.getD n false = false → S w) → ((listed.setIfInBounds i true).getD n false = false → S w) := fun {listed w} hS hn => hS (by rw [getD_set_ne false hin] at hn; exact hn)
  induction fuel with
  | zero =>
    intro listed a w _ hr hy hS hn H
    refine ⟨fun h => (by rw [h] at hr; cases hr), fun j hj => ?_⟩
    by_cases hji : j = i
    · subst hji; exact hy.wpOp hi (hat hS hn) ⟨hup hS, H⟩
    · have := ready_mono hj hji
      rw [H.1] at this
      cases this
  | succ fuel ih =>
    intro listed a w hfree hr hy hS hn H
    refine ⟨fun h => (by rw [h] at hr; cases hr), fun j hj => ?_⟩
    by_cases hji : j = i
    · subst hji; exact hy.wpOp hi (hat hS hn) ⟨hup hS, H⟩
    · have h1 := H.2 j (ready_mono hj hji)
      obtain ⟨hjun, oj, hoj, hall⟩ := mem_ready.1 hj
      have hiun := (mem_ready.1 hr).1
      have hnot : ∀ e ∈ oj.after, Region.binds md e = true → e.on ≠ i := fun e he hb heq => by
        have h1 := hall e he hb
        have h0 := (mem_ready.1 hr).1
        rw [heq] at h1
        rcases Nat.lt_or_ge i listed.size with h' | h'
        · simp [h'] at h0 h1; rw [h0] at h1; cases h1
        · simp [Array.getElem?_eq_none h'] at h1
      have h2 := wpOp_putIf hoj (hfree j oj hoj hji hjun hnot) (fun cs b => hsel i oi cs b hi) (fun cs b => hsel j oj cs b hoj) hQ hy h1
      have hfree' : ∀ k ok, ops[k]? = some ok → k ≠ i → (listed.setIfInBounds j true).getD k true = false →
          (∀ e ∈ ok.after, Region.binds md e = true → e.on ≠ i) → oi.apart ops ok = true := fun k ok hk hki hun hno => by
        refine hfree k ok hk hki ?_ hno
        by_cases hjk : j = k
        · subst hjk; exact hjun
        · rw [getD_set_ne true hjk] at hun; exact hun
      have hn' : (listed.setIfInBounds j true).getD n false = false := by
        have hjn : j ≠ n := fun e => by
          have h9 := (List.getElem?_eq_some_iff (l := ops.toList) (i := j) (a := oj)).1 (by simpa using hoj)
          obtain ⟨h9, _⟩ := h9
          have : j < ops.size := by simpa using h9
          omega
        rw [getD_set_ne false hjn]
        exact hn
      refine wpOp_mono (fun a' w' h3 => ?_) h2
      have hS' : (listed.setIfInBounds j true).getD n false = false → S w' := fun hh => h3.2.1 (by
        rw [Array.setIfInBounds_comm _ _ (Ne.symm hji), getD_set_ne false hin]
        exact hh)
      refine ⟨hS', ih (listed.setIfInBounds j true) a' w' hfree' (ready_mono hr (Ne.symm hji)) h3.1 hS' hn' ?_⟩
      rw [Array.setIfInBounds_comm _ _ hji]
      exact h3.2.2
theorem wpAnyL_takeN {i : Nat} {oi : Oper} {v : Value} {fuel : Nat} {listed : Array Bool} {a : Act} {w : World} (hi : ops[i]? = some oi)
    (hs : Region.noSelect ops = true) (hf : Region.free md ops listed i = true) (hr : (Region.ready md ops listed).contains i = true)
    (hQ : ∀ c a w, Q (.panic c) (a.put oi.dst v) w → Q (.panic c) a w) (hin : i ≠ n) (hnn : ops.size ≤ n) (hnl : listed.getD n false = false) (hy : YieldsIf P ops S oi v a) (hS : S w)
    (h : wpAnyL P md ops Q S n fuel (listed.setIfInBounds i true) (a.put oi.dst v) w) : wpAnyL P md ops Q S n (fuel + 1) listed a w :=
  wpAnyL_firstN hi (Region.noSelect_spec hs) hQ (fun _ h => h) hin hnn fuel listed a w (Region.free_spec hi hf) (by simpa using hr) hy (fun _ => hS) hnl h
theorem wpAnyL_done {fuel : Nat} {listed : Array Bool} {a : Act} {w : World} (hr : Region.ready md ops listed = []) (h : Q .normal a w) : wpAnyL P md ops Q S n fuel listed a w := by
  cases fuel with
  | zero => exact ⟨hr, h⟩
  | succ fuel => exact ⟨fun _ => h, fun i hi => (by rw [hr] at hi; cases hi)⟩
end
section
variable {P : Program} {ops : Array Oper} {Q : Exit → Act → World → Prop} {md : Region.Mode} {S : World → Prop} {n : Nat}
def tkB (md : Region.Mode) (ops : Array Oper) (listed : Array Bool) (n i : Nat) : Bool := Region.noSelect ops && Region.free md ops listed i && (Region.ready md ops listed).contains i && decide (i ≠ n)
theorem tkB_spec {md : Region.Mode} {ops : Array Oper} {listed : Array Bool} {n i : Nat} (h : tkB md ops listed n i = true) : Region.noSelect ops = true ∧ Region.free md ops listed i = true ∧ (Region.ready md ops listed).contains i = true ∧ i ≠ n := by
  simp only [tkB, Bool.and_eq_true, decide_eq_true_eq] at h
  exact ⟨h.1.1.1, h.1.1.2, h.1.2, h.2⟩
theorem tkW (i : Nat) {oi : Oper} {v : Value} {fuel : Nat} {listed : Array Bool} {a a' : Act} {w : World}
    (h : wpAnyL P md ops Q S n fuel (listed.setIfInBounds i true) a' w) (hi : ops[i]? = some oi := by rfl) (hb : tkB md ops listed n i = true := by kernel_rfl)
    (hQ : ∀ c a w, Q (.panic c) (a.put oi.dst v) w → Q (.panic c) a w := by exact fun _ _ _ h => h)
    (hy : YieldsIf P ops (fun _ => True) oi v a := by (refine Or.inl ⟨by rfl, ?_⟩; intro W _; go_simp; try with_reducible rfl))
    (ha : a.put oi.dst v = a' := by (simp only [Act.put, List.setIfInBounds_toArray, List.set_cons_zero, List.set_cons_succ, List.getElem_toArray, List.getElem_cons_zero, List.getElem_cons_succ]; rfl))
    (hS : S w := by assumption) : wpAnyL P md ops Q S n (fuel + 1) listed a w := by
  obtain ⟨h1, h2, h3, h4⟩ := tkB_spec hb
  subst ha
  exact wpAnyL_takeW hi h1 h2 h3 hQ h4 hy hS h
theorem tkN (i : Nat) {oi : Oper} {v : Value} {fuel : Nat} {listed : Array Bool} {a a' : Act} {w : World}
    (h : wpAnyL P md ops Q S n fuel (listed.setIfInBounds i true) a' w) (hi : ops[i]? = some oi := by rfl) (hb : tkB md ops listed n i = true := by kernel_rfl)
    (hQ : ∀ c a w, Q (.panic c) (a.put oi.dst v) w → Q (.panic c) a w := by exact fun _ _ _ h => h) (hnn : ops.size ≤ n := by simp) (hnl : listed.getD n false = false := by kernel_rfl)
    (hy : YieldsIf P ops S oi v a := by (refine Or.inl ⟨by rfl, ?_⟩; intro W hSW; (try dsimp only at hSW); go_simp; try with_reducible rfl))
    (ha : a.put oi.dst v = a' := by (simp only [Act.put, List.setIfInBounds_toArray, List.set_cons_zero, List.set_cons_succ, List.getElem_toArray, List.getElem_cons_zero, List.getElem_cons_succ]; rfl))
    (hS : S w := by assumption) : wpAnyL P md ops Q S n (fuel + 1) listed a w := by
  obtain ⟨h1, h2, h3, h4⟩ := tkB_spec hb
  subst ha
  exact wpAnyL_takeN hi h1 h2 h3 hQ h4 hnn hnl hy hS h
theorem tkS (i : Nat) {oi : Oper} {v : Value} {fuel : Nat} {listed : Array Bool} {a a' : Act} {w : World}
    (h : wpAnyL P md ops Q S n fuel (listed.setIfInBounds i true) a' w) (hi : ops[i]? = some oi := by rfl) (hb : tkB md ops listed n i = true := by kernel_rfl)
    (hQ : ∀ c a w, Q (.panic c) (a.put oi.dst v) w → Q (.panic c) a w := by exact fun _ _ _ h => h) (hw : waitsFor md ops n i = true := by kernel_rfl) (hnl : listed.getD n false = false := by kernel_rfl)
    (hy : YieldsIf P ops S oi v a := by (refine Or.inl ⟨by rfl, ?_⟩; intro W hSW; (try dsimp only at hSW); go_simp; try with_reducible rfl))
    (ha : a.put oi.dst v = a' := by (simp only [Act.put, List.setIfInBounds_toArray, List.set_cons_zero, List.set_cons_succ, List.getElem_toArray, List.getElem_cons_zero, List.getElem_cons_succ]; rfl))
    (hS : S w := by assumption) : wpAnyL P md ops Q S n (fuel + 1) listed a w := by
  obtain ⟨h1, h2, h3, h4⟩ := tkB_spec hb
  subst ha
  exact wpAnyL_take hi h1 h2 h3 hQ h4 hw hnl hy hS h
theorem tkX (i : Nat) {oi : Oper} {fuel : Nat} {listed : Array Bool} {a a' : Act} {w : World}
    (h : wpAnyL P md ops Q S n fuel (listed.setIfInBounds i true) a' w) (hi : ops[i]? = some oi := by rfl) (hb : tkB md ops listed n i = true := by kernel_rfl)
    (hQ : ∀ c a w, Q (.panic c) (a.put oi.dst undef) w → Q (.panic c) a w := by exact fun _ _ _ h => h)
    (hy : YieldsIf P ops (fun _ => True) oi undef a := by exact Or.inr ⟨by rfl, rfl⟩)
    (ha : a.put oi.dst undef = a' := by (simp only [Act.put, List.setIfInBounds_toArray, List.set_cons_zero, List.set_cons_succ, List.getElem_toArray, List.getElem_cons_zero, List.getElem_cons_succ]; rfl))
    (hS : S w := by assumption) : wpAnyL P md ops Q S n (fuel + 1) listed a w := by
  obtain ⟨h1, h2, h3, h4⟩ := tkB_spec hb
  subst ha
  exact wpAnyL_takeW hi h1 h2 h3 hQ h4 hy hS h
end
section
variable {P : Program} {ops : Array Oper} {Q : Exit → Act → World → Prop} {md : Region.Mode} {S : World → Prop} {n : Nat}
/-- number n, or one behind it: S is not asked any more -/
theorem wpAnyL_past {i : Nat} {o : Oper} {fuel : Nat} {listed : Array Bool} {a : Act} {w : World} (hr : Region.ready md ops listed = [i]) (ho : ops[i]? = some o) (hd : (listed.setIfInBounds i true).getD n false = true)
    (h : ∀ K' : Act → World → Prop, Shut (∀ a w, wpAnyL P md ops Q S n fuel (listed.setIfInBounds i true) a w → K' a w) → if Region.wanted o (yielded ops a.tmps) = true then Oper.wp P o a w K' Q else K' (a.put o.dst undef) w) : wpAnyL P md ops Q S n (fuel + 1) listed a w := by
  refine ⟨fun h0 => (by rw [hr] at h0; cases h0), fun j hj => ?_⟩
  rw [hr, List.mem_singleton] at hj
  subst hj
  exact wpOp_step ho (fun K' hK => h K' (fun a w hW => hK a w ⟨fun hf => (by rw [hd] at hf; cases hf), hW⟩))
end
end Go.Proofs.YtpeefmbdhkfhmaaGreatDoor.Kg
