import Derived.RangeFuncOwn
import Derived.Test.YtdeibifjiefapaaGreatDoorW09
import Derived.Laws.AppendOwnNone
import Derived.Below
import Derived.BigCall
import Derived.BigQuiet
import Derived.Deep.AppendLies
import Derived.Deep.MidRow
import Derived.Deep.QuietTactic
import Derived.Laws.AppendOwn
import Derived.Laws.BitsAll
import Derived.Laws.MakeOwn
import Derived.Laws.OwnMore
import Derived.Lib.Bytes
import Derived.Lib.LastIndexByte
import Derived.Lib.SplitLaws
import Derived.Maps.AppendAt
import Derived.OpenShut
import Derived.ProofKit
import Derived.Shelf.Abstract
import Derived.WalkKit
import Derived.WalkLawsBesides
import Derived.Shelf.SlSortCmp.WholeK
import Derived.Ground.SlsfProg
import Derived.Test.YtdeibifjiefapaaGreatDoorProg
/- rows of any kind of element: lists of them that lie somewhere, and lists that a call owns. -/
namespace Go.Proofs.YtdeibifjiefapaaGreatDoor
open Go Go.Shelf Go.ChangeShapes Go.WideShapes Go.ChangeAt Go.RowKit Go.Maps
set_option linter.unusedVariables false
/-- a kind of element: its cells, its size in cells and in bytes, the type of its slices and its own -/
structure Kd (α : Type) where
  enc : α → List Value
  s : Nat
  t : TypeId
  e : TypeId
  by' : Nat
structure KdOK {α : Type} (K : Kd α) : Prop where
  len : ∀ x, (K.enc x).length = K.s
  pos : 0 < K.s
  one : ∀ x, ∀ u ∈ K.enc x, u.oneCell' = true
  und : Tryz.prog.underlying K.t = some (.slice K.e)
  info : ∃ i z, Tryz.prog.info? K.e = some i ∧ i.zero = some z ∧ i.size = K.s ∧ i.bytes = K.by' ∧ z.cells.size = K.s
  small : K.by' ≤ 128
variable {α : Type} {K : Kd α}
def Kd.flat (K : Kd α) (L : List α) : List Value := L.flatMap K.enc
theorem flat_nil : K.flat [] = [] := rfl
theorem flat_append (L M : List α) : K.flat (L ++ M) = K.flat L ++ K.flat M := List.flatMap_append
theorem flat_sing (x : α) : K.flat [x] = K.enc x := by simp [Kd.flat]
theorem flat_len (h : KdOK K) (L : List α) : (K.flat L).length = L.length * K.s := by
  induction L with
  | nil => simp [Kd.flat]
  | cons r R ih =>
    have e : K.flat (r :: R) = K.enc r ++ K.flat R := by simp [Kd.flat]
    rw [e, List.length_append, ih, h.len, List.length_cons, Nat.add_mul, Nat.one_mul]
    omega
theorem flat_get (h : KdOK K) : ∀ (L : List α) (k : Nat) (hk : k < L.length) (j : Nat), j < K.s → (K.flat L)[k * K.s + j]? = (K.enc L[k])[j]?
  | [], k, hk, _, _ => by simp at hk
  | r :: R, 0, _, j, hj => by
    have e : K.flat (r :: R) = K.enc r ++ K.flat R := by simp [Kd.flat]
    rw [e, List.getElem?_append_left (by rw [h.len]; omega)]
    simp
  | r :: R, k + 1, hk, j, hj => by
    have e : K.flat (r :: R) = K.enc r ++ K.flat R := by simp [Kd.flat]
    have e2 : (k + 1) * K.s + j - (K.enc r).length = k * K.s + j := by rw [h.len, Nat.add_mul, Nat.one_mul]; omega
    rw [e, List.getElem?_append_right (by rw [h.len, Nat.add_mul, Nat.one_mul]; omega), e2, flat_get h R k (by simpa using hk) j hj]
    simp
theorem flat_one (h : KdOK K) (L : List α) : ∀ u ∈ K.flat L, u.oneCell' = true := fun u hu => by
  obtain ⟨r, hr, hx⟩ := List.mem_flatMap.1 hu
  exact h.one r u hx
/-- elements that lie somewhere -/
def Lies (K : Kd α) (W : World) (p : Option Addr) (L : List α) : Prop :=
  (p = none → L = []) ∧ ∀ k (hk : k < L.length), ∃ b off, p = some ⟨b, off, none⟩ ∧ b < W.heap.size ∧ W.rangeAt b (off + k * K.s) (K.enc L[k])
theorem Lies.nil (W : World) (p : Option Addr) : Lies K W p [] := ⟨fun _ => rfl, fun k hk => by simp at hk⟩
theorem Lies.drewN {W : World} {p : Option Addr} {L : List α} (h : Lies K W p L) (m : Nat) : Lies K (W.drewN m) p L :=
  ⟨h.1, fun k hk => by
    obtain ⟨b, off, e, hlt, hr⟩ := h.2 k hk
    exact ⟨b, off, e, by simpa using hlt, fun j u hu => by simpa using hr j u hu⟩⟩
theorem Lies.below {W W' : World} {p : Option Addr} {L : List α} (h : Lies K W p L) (hb : Below W.heap.size W W') : Lies K W' p L := by
  refine ⟨h.1, fun k hk => ?_⟩
  obtain ⟨b, off, e, hlt, hr⟩ := h.2 k hk
  exact ⟨b, off, e, Nat.lt_of_lt_of_le hlt hb.size, fun j u hu => (hb.cell (p := ⟨b, off + k * K.s + j, none⟩) hlt).trans (hr j u hu)⟩
theorem Lies.block {W W' : World} {b off : Nat} {L : List α} (h : Lies K W (some ⟨b, off, none⟩) L) (hs : W.heap.size ≤ W'.heap.size) (hb : W'.heap[b]? = W.heap[b]?) : Lies K W' (some ⟨b, off, none⟩) L := by
  refine ⟨h.1, fun k hk => ?_⟩
  obtain ⟨b', off', e, hlt, hr⟩ := h.2 k hk
  cases e
  exact ⟨b, off, rfl, Nat.lt_of_lt_of_le hlt hs, fun j u hu => (World.cell?_of_block (a := ⟨b, off + k * K.s + j, none⟩) hb).trans (hr j u hu)⟩
/-- a part of what lies there -/
theorem Lies.part {W : World} {b off : Nat} {L : List α} (h : Lies K W (some ⟨b, off, none⟩) L) (a m : Nat) : Lies K W (some ⟨b, off + a * K.s, none⟩) ((L.drop a).take m) := by
  refine ⟨(fun h => by cases h), fun k hk => ?_⟩
  rw [List.length_take, List.length_drop] at hk
  have hak : a + k < L.length := by omega
  obtain ⟨b', off', e, hlt, hr⟩ := h.2 (a + k) hak
  cases e
  refine ⟨b, off + a * K.s, rfl, hlt, ?_⟩
  rw [List.getElem_take, List.getElem_drop, Nat.add_assoc, ← Nat.add_mul]
  exact hr
theorem row_block {W : World} {B g e s n : Nat} {v : Value} {xs : List Value} (h : W.ownsRow B e s v n xs) (hg : v.ownBlock = some g) : B ≤ g ∧ g < W.heap.size ∧ ∃ o, W.heap[g]? = some o ∧ o.isCells = true := by
  rcases h.2 with ⟨e, h2⟩ | ⟨g', cap, cur, e, hB, hh, h3⟩
  · rw [e] at hg; cases hg
  · rw [e] at hg
    have e2 : g' = g := Option.some.inj hg
    subst e2
    exact ⟨hB, (Array.getElem?_eq_some_iff.1 hh).1, _, hh, rfl⟩
theorem row_keep {W W' : World} {B e s n : Nat} {v : Value} {xs : List Value} (h : W.ownsRow B e s v n xs) (hk : ∀ g, v.ownBlock = some g → W'.heap[g]? = W.heap[g]?) : W'.ownsRow B e s v n xs := by
  refine ⟨h.1, ?_⟩
  rcases h.2 with h2 | ⟨g, cap, cur, e, hB, hh, h3⟩
  · exact .inl h2
  · exact .inr ⟨g, cap, cur, e, hB, (hk g (by rw [e]; rfl)).trans hh, h3⟩
theorem row_le {W : World} {B B' e s n : Nat} {v : Value} {xs : List Value} (h : W.ownsRow B e s v n xs) (hb : B' ≤ B) : W.ownsRow B' e s v n xs := by
  refine ⟨h.1, ?_⟩
  rcases h.2 with h2 | ⟨g, cap, cur, e, hB, h3⟩
  · exact .inl h2
  · exact .inr ⟨g, cap, cur, e, Nat.le_trans hb hB, h3⟩
theorem row_slice {W : World} {B e s n : Nat} {v : Value} {xs : List Value} (h : W.ownsRow B e s v n xs) : ∃ p c, v = .slice p n c ∧ (p = none → n = 0 ∧ c = 0) ∧ (∀ a, p = some a → a.off = 0 ∧ a.spot = none ∧ B ≤ a.block ∧ n ≤ c) := by
  rcases h.2 with ⟨e, h2⟩ | ⟨g, cap, cur, e, hB, hh, hc, h3⟩
  · exact ⟨none, 0, by rw [e, h2], (fun _ => ⟨h2, rfl⟩), (fun a h => by cases h)⟩
  · exact ⟨_, _, e, (fun h => by cases h), (fun a h => by cases h; exact ⟨rfl, rfl, hB, by omega⟩)⟩
theorem own_lies (hK : KdOK K) {W : World} {B : Nat} {p : Option Addr} {c n : Nat} {L : List α} (hn : L.length = n) (h : W.ownsRow B K.e K.s (.slice p n c) n (K.flat L)) : Lies K W p L := by
  rcases h.2 with ⟨e, h2⟩ | ⟨g, cap, cur, e, hB, hh, hc, hm, hcs, ht⟩
  · have : L = [] := List.eq_nil_of_length_eq_zero (by omega)
    subst this
    exact Lies.nil _ _
  · cases e
    refine ⟨(fun h => by cases h), fun k hk => ⟨g, 0, rfl, (Array.getElem?_eq_some_iff.1 hh).1, fun j u hu => ?_⟩⟩
    have hj : j < K.s := by
      have := (List.getElem?_eq_some_iff.1 hu).1
      rwa [hK.len] at this
    have h3 := flat_get hK L k hk j hj
    rw [hu] at h3
    have hk2 : (cur.toList.take (n * K.s))[k * K.s + j]? = some u := by rw [ht]; exact h3
    have hlt : k * K.s + j < n * K.s := by
      have : (k + 1) * K.s ≤ n * K.s := Nat.mul_le_mul_right _ (by omega)
      rw [Nat.add_mul, Nat.one_mul] at this
      omega
    rw [List.getElem?_take_of_lt hlt] at hk2
    unfold World.cell?
    simp only [hh, Nat.zero_add]
    simpa using hk2
theorem news_of (hK : KdOK K) {W : World} {ad : Addr} {L : List α} (hu : Lies K W (some ad) L) : ∀ j u, (K.flat L)[j]? = some u → W.cell? (ad.add j) = some u := fun j u hj => by
  have hjl : j < L.length * K.s := by
    have := (List.getElem?_eq_some_iff.1 hj).1
    rwa [flat_len hK] at this
  have hk : j / K.s < L.length := Nat.div_lt_of_lt_mul (by rw [Nat.mul_comm]; exact hjl)
  obtain ⟨b, off, e, hlt, hr⟩ := hu.2 (j / K.s) hk
  have e' : ad = ⟨b, off, none⟩ := Option.some.inj e
  subst e'
  have e9 : j / K.s * K.s + j % K.s = j := Nat.div_add_mod' j K.s
  rw [Addr.add_mid]
  have h3 := flat_get hK L (j / K.s) hk (j % K.s) (Nat.mod_lt _ hK.pos)
  rw [e9, hj] at h3
  have h4 := hr (j % K.s) u h3.symm
  rw [Nat.add_assoc, e9] at h4
  exact h4
set_option maxRecDepth 100000 in
/-- an append of elements that lie somewhere, to a list that the call owns -/
theorem run_app (hK : KdOK K) {W : World} {B : Nat} {v : Value} {L M : List α} {n : Nat} (ty : TypeId) (h : W.ownsRow B K.e K.s v n (K.flat L)) (hB : B ≤ W.heap.size) (pu : Option Addr) (cu : Nat) (hcu : pu = none → cu = 0) (hu : Lies K W pu M) (hl : n + M.length ≤ 1099511627776) :
    ∃ p' c' w', (Builtin.append_ #[K.t, K.t] ty #[v, .slice pu M.length cu]).run Tryz.prog W = .ok (.slice p' (n + M.length) c') w' ∧ w'.ownsRow B K.e K.s (.slice p' (n + M.length) c') (n + M.length) (K.flat (L ++ M)) ∧ Below B W w' ∧ (∀ k, k < W.heap.size → v.ownBlock ≠ some k → w'.heap[k]? = W.heap[k]?) ∧ ((Value.slice p' (n + M.length) c').ownBlock = v.ownBlock ∨ (Value.slice p' (n + M.length) c').ownBlock = some W.heap.size) := by
  obtain ⟨i, z, hi, hz, hsize, hby, hzs⟩ := hK.info
  cases pu with
  | none =>
    have hR := hu.1 rfl
    subst hR
    rw [hcu rfl]
    have hr := run_append_owned_none (P := Tryz.prog) (w := W) B K.t ty K.e i K.s hK.und hi v n (K.flat L) h
    obtain ⟨p, c, e, _⟩ := row_slice h
    subst e
    exact ⟨p, c, W, hr, by rw [List.append_nil]; exact h, Below.refl _ _, fun _ _ _ => rfl, .inl rfl⟩
  | some ad =>
    obtain ⟨v', w', hr, ho, hg, hnil, hat⟩ := run_append_own_at (P := Tryz.prog) W B K.t ty K.e i z K.s K.by' hK.und hi hz hsize hby hzs hK.pos v n (K.flat L) h ad M.length cu (K.flat M) (flat_len hK M) (news_of hK hu) (flat_one hK M) (by unfold maxLen; omega) (by
      have h1 := hK.small
      have : (n + M.length) * K.by' ≤ 1099511627776 * 128 := Nat.mul_le_mul hl h1
      omega) hB
    rw [← flat_append] at ho
    obtain ⟨p, c, e, _⟩ := row_slice ho
    subst e
    refine ⟨p, c, w', hr, ho, ⟨hg.os, hg.tape, hg.output, hg.size, fun q hq => hg.block q (Nat.lt_of_lt_of_le hq hB) (fun e => ?_)⟩, fun k hk hne => hg.block k hk (fun e => hne e.symm), hat⟩
    have := (row_block h e.symm).1
    omega
/-- an append as an operation of a region, by its run -/
theorem wpList_append_run {P : Program} {w : World} {ops : Array Oper} {rest : List Oper} {o : Oper} {a : Act} {Q : Exit → Act → World → Prop} (hgd : o.guard = none) (s x : Operand) (t : TypeId)
    (ho : o.op = .call { callee := .builtin .append, args := #[s, x], argTypes := #[t, t] }) (v u v' : Value) (w' : World) (hs : a.eval s = v) (hx : a.eval x = u) (hr : (Builtin.append_ #[t, t] o.type #[v, u]).run P w = .ok v' w')
    (h : wpList P ops Q rest (a.put o.dst v') w') : wpList P ops Q (o :: rest) a w := by
  refine wpList_plain hgd fun K hK => ?_
  unfold Oper.wp execOp
  simp only [ho, resolve, invoke, builtin, Sem.run_bind, Sem.run_pure, Result.andThen_ok, List.map_toArray, List.map_cons, List.map_nil, hs, hx, hr]
  exact hK _ _ h
/-- a block of one element -/
theorem one_lies (W : World) (x : α) (t : TypeId) (vs : Array Value) (hv : vs.toList = K.enc x) : Lies K (W.alloc (.cells vs t)) (some ⟨W.heap.size, 0, none⟩) [x] := by
  refine ⟨(fun h => by cases h), fun k hk => ?_⟩
  have e : k = 0 := by simp at hk; exact hk
  subst e
  refine ⟨W.heap.size, 0, rfl, by simp, fun j u hu => ?_⟩
  rw [World.cell?_alloc_mark, Nat.zero_mul, Nat.zero_add]
  rw [show ([x] : List α)[0] = x from rfl, ← hv] at hu
  simpa using hu
theorem kd_ok {K : Kd α} (len : ∀ x, (K.enc x).length = K.s) (pos : 0 < K.s) (one : ∀ x, ∀ u ∈ K.enc x, u.oneCell' = true) (und : Tryz.prog.underlying K.t = some (.slice K.e)) {z : Value} (info : (Tryz.prog.info? K.e).map (fun i => (i.zero, i.size, i.bytes)) = some (some z, K.s, K.by')) (hz : z.cells.size = K.s) (small : K.by' ≤ 128) : KdOK K := by
  obtain ⟨i, h1, h2, h3, h4⟩ := info_parts info
  exact ⟨len, pos, one, und, ⟨i, z, h1, h2, h3, h4, hz⟩, small⟩
end Go.Proofs.YtdeibifjiefapaaGreatDoor
namespace Go.Proofs
open Go.RowKit Go.Sort Go.Shelf

def Tryz.sortT_ren : Go.Shelf.Ren := ⟨fun | 6 => 92 | 15 => 168 | 14 => 167 | 28 => 235 | 29 => 236 | 20 => 227 | 21 => 228 | 22 => 229 | 23 => 230 | 24 => 231 | 25 => 232 | 26 => 233 | 27 => 234 | 46 => 269 | 47 => 270 | 48 => 271 | 49 => 272 | 50 => 273 | 57 => 279 | n => n, fun | 22 => 22 | 24 => 65 | 25 => 110 | 3 => 3 | 39 => 180 | 0 => 0 | 53 => 267 | 55 => 269 | 4 => 4 | 46 => 261 | 45 => 260 | 50 => 171 | 5 => 5 | 9 => 9 | 66 => 293 | 70 => 297 | 76 => 302 | 77 => 303 | n => n, fun | n => n⟩
theorem Tryz.sortT : Go.Proofs.SlLaysF0.n6 Tryz.prog Tryz.sortT_ren := {
  mixed := by kernel_rfl
  f6 := ⟨Tryz.f92.name, by decide, Tryz.func92.trans (congrArg some (by kernel_rfl))⟩
  f14 := ⟨Tryz.f167.name, by decide, Tryz.func167.trans (congrArg some (by kernel_rfl))⟩
  f15 := Tryz.func168.trans (congrArg some (by kernel_rfl))
  f20 := ⟨Tryz.f227.name, by decide, Tryz.func227.trans (congrArg some (by kernel_rfl))⟩
  f21 := ⟨Tryz.f228.name, by decide, Tryz.func228.trans (congrArg some (by kernel_rfl))⟩
  f22 := ⟨Tryz.f229.name, by decide, Tryz.func229.trans (congrArg some (by kernel_rfl))⟩
  f23 := ⟨Tryz.f230.name, by decide, Tryz.func230.trans (congrArg some (by kernel_rfl))⟩
  f24 := ⟨Tryz.f231.name, by decide, Tryz.func231.trans (congrArg some (by kernel_rfl))⟩
  f25 := ⟨Tryz.f232.name, by decide, Tryz.func232.trans (congrArg some (by kernel_rfl))⟩
  f26 := ⟨Tryz.f233.name, by decide, Tryz.func233.trans (congrArg some (by kernel_rfl))⟩
  f27 := ⟨Tryz.f234.name, by decide, Tryz.func234.trans (congrArg some (by kernel_rfl))⟩
  f28 := Tryz.func235.trans (congrArg some (by kernel_rfl))
  f29 := Tryz.func236.trans (congrArg some (by kernel_rfl))
  f46 := ⟨Tryz.f269.name, by decide, Tryz.func269.trans (congrArg some (by kernel_rfl))⟩
  f47 := Tryz.func270.trans (congrArg some (by kernel_rfl))
  f48 := Tryz.func271.trans (congrArg some (by kernel_rfl))
  f49 := ⟨Tryz.f272.name, by decide, Tryz.func272.trans (congrArg some (by kernel_rfl))⟩
  f50 := ⟨Tryz.f273.name, by decide, Tryz.func273.trans (congrArg some (by kernel_rfl))⟩
  f57 := ⟨Tryz.f279.name, by decide, Tryz.func279.trans (congrArg some (by kernel_rfl))⟩
  t0 := Tryz.underlying0
  a0 := Tryz.isAgg0
  z0 := Tryz.sizeOf0
  v0 := Tryz.zeroValue0
  t3 := Tryz.underlying3
  a3 := Tryz.isAgg3
  z3 := Tryz.sizeOf3
  v3 := Tryz.zeroValue3
  t4 := Tryz.underlying4
  a4 := Tryz.isAgg4
  z4 := Tryz.sizeOf4
  v4 := Tryz.zeroValue4
  t5 := Tryz.underlying5
  a5 := Tryz.isAgg5
  z5 := Tryz.sizeOf5
  v5 := Tryz.zeroValue5
  t9 := Tryz.underlying9
  a9 := Tryz.isAgg9
  z9 := Tryz.sizeOf9
  v9 := Tryz.zeroValue9
  t22 := Tryz.underlying22
  a22 := Tryz.isAgg22
  z22 := Tryz.sizeOf22
  v22 := Tryz.zeroValue22
  t25 := Tryz.underlying110
  a25 := Tryz.isAgg110
  z25 := Tryz.sizeOf110
  v25 := Tryz.zeroValue110
  t39 := Tryz.underlying180
  a39 := Tryz.isAgg180
  z39 := Tryz.sizeOf180
  v39 := Tryz.zeroValue180
  t45 := Tryz.underlying260
  a45 := Tryz.isAgg260
  z45 := Tryz.sizeOf260
  v45 := Tryz.zeroValue260
  t46 := Tryz.underlying261
  a46 := Tryz.isAgg261
  z46 := Tryz.sizeOf261
  v46 := Tryz.zeroValue261
  t50 := Tryz.underlying171
  a50 := Tryz.isAgg171
  z50 := Tryz.sizeOf171
  v50 := Tryz.zeroValue171
  t53 := Tryz.underlying267
  a53 := Tryz.isAgg267
  z53 := Tryz.sizeOf267
  v53 := Tryz.zeroValue267
  t55 := Tryz.underlying269
  a55 := Tryz.isAgg269
  z55 := Tryz.sizeOf269
  v55 := Tryz.zeroValue269
  t66 := Tryz.underlying293
  a66 := Tryz.isAgg293
  z66 := Tryz.sizeOf293
  v66 := Tryz.zeroValue293
  t70 := Tryz.underlying297
  a70 := Tryz.isAgg297
  z70 := Tryz.sizeOf297
  v70 := Tryz.zeroValue297
  t76 := Tryz.underlying302
  a76 := Tryz.isAgg302
  z76 := Tryz.sizeOf302
  v76 := Tryz.zeroValue302
  t77 := Tryz.underlying303
  a77 := Tryz.isAgg303
  z77 := Tryz.sizeOf303
  v77 := Tryz.zeroValue303 }
end Go.Proofs
/- chart: the sort of accounts: Accounts$1 (26), SortFunc (25). -/
namespace Go.Proofs.YtdeibifjiefapaaGreatDoor
open Go Go.Shelf Go.ChangeShapes Go.WideShapes Go.ChangeAt Go.RowKit Go.Maps Go.Sort
set_option linter.unusedVariables false
@[reducible] def acInh : Inhabited Ac := ⟨top0⟩
attribute [instance] acInh
/-- accounts as elements of a slice -/
def kA : Kd Ac := ⟨fun a => [.string (txN a.nm), .int .i64 a.ty, .int .i64 a.dy, .bool a.cl], 4, 22, 65, 40⟩
theorem kA_ok : KdOK kA := kd_ok (fun _ => rfl) (by decide) (fun x u hu => by simp [kA] at hu; rcases hu with rfl | rfl | rfl | rfl <;> rfl) Tryz.underlying22 (z := .agg #[.string ⟨#[]⟩, .int .i64 0, .int .i64 0, .bool false]) (by kernel_rfl) rfl (by decide)
set_option maxHeartbeats 1000000 in
theorem cl26 (x y : Ac) (W : World) : Calls Tryz.prog 93 #[.agg #[.string (txN x.nm), .int .i64 x.ty, .int .i64 x.dy, .bool x.cl], .agg #[.string (txN y.nm), .int .i64 y.ty, .int .i64 y.dy, .bool y.cl]] W fun e w' => e = .returned (.int .i64 (cmpS x.nm y.nm)) ∧ ∃ q os', w' = grow (W.drewN q) os' := by
  have hcon := fun W' => cmps_any (txN x.nm) (txN y.nm) W'
  rw [txN_list, txN_list] at hcon
  generalize cmpS x.nm y.nm = r at hcon ⊢
  go_enter Tryz.func93, Tryz.ntmps93
  go_wp2_with (go_at_call 94; refine (hcon _).mono ?_; rintro e w' ⟨rfl, rfl⟩)
  go_ret
  exact ⟨rfl, 0, _, by rw [alloc_eq_grow, alloc_eq_grow, grow_grow]; rfl⟩
theorem lays26 (blk off size : Nat) (w : World) : CmpLays Tryz.prog 93 #[] kA.enc 4 (fun x y => cmpS x.nm y.nm) blk off size w :=
  fun _ _ _ _ x y => cl26 x y _
theorem ltA (x y : Ac) : ltOf (fun x y : Ac => cmpS x.nm y.nm) x y = decide (x.nm < y.nm) := by
  unfold ltOf
  exact Bool.eq_iff_iff.2 (by simp only [decide_eq_true_eq, cmpS_neg])
theorem swoA : SWO (ltOf fun x y : Ac => cmpS x.nm y.nm) where
  irrefl x := by rw [ltA]; simp
  trans x y z h1 h2 := by rw [ltA] at *; simp only [decide_eq_true_eq] at *; exact slt_trans h1 h2
  ntrans x y z h1 h2 := by
    rw [ltA] at *
    simp only [decide_eq_false_iff_not] at *
    intro h
    by_cases hyz : y.nm < z.nm
    · exact h2 hyz
    · by_cases hzy : z.nm < y.nm
      · exact h1 (slt_trans h hzy)
      · rw [slt_tri hyz hzy] at h1
        exact h1 h
theorem isAgg41' (w : World) : (isAgg (Tryz.sortT_ren.t 24)).run Tryz.prog w = .ok true w := by kernel_rfl
theorem sizeOf41' (w : World) : (Go.sizeOf (Tryz.sortT_ren.t 24)).run Tryz.prog w = .ok 4 w := by kernel_rfl
section
variable {α : Type} {K : Kd α}
theorem holds_own (hK : KdOK K) [Inhabited α] {W : World} {B g c n : Nat} {L : List α} (hn : L.length = n) (h : W.ownsRow B K.e K.s (.slice (some ⟨g, 0, none⟩) n c) n (K.flat L)) : HoldsK K.enc K.s W g 0 L.toArray := by
  rcases h.2 with ⟨e, h2⟩ | ⟨g', cap, cur, e, hB, hh, hc, hm, hcs, ht⟩
  · cases e
  · cases e
    intro j hj
    have hj' : j < L.length * K.s := by simpa using hj
    have hL := own_lies hK hn h
    have hk : j / K.s < L.length := Nat.div_lt_of_lt_mul (by rw [Nat.mul_comm]; exact hj')
    have hmod : j % K.s < K.s := Nat.mod_lt _ hK.pos
    obtain ⟨b, off, e, hlt, hr⟩ := hL.2 (j / K.s) hk
    cases e
    refine ⟨?_, ?_⟩
    · rw [get_flatK _ _ _ _ (by simpa using hj')]
      have e1 : L.toArray[j / K.s]! = L[j / K.s] := by simp [hk]
      rw [e1]
      have e2 : (K.enc L[j / K.s])[j % K.s]? = some ((K.enc L[j / K.s])[j % K.s]!) := by
        rw [List.getElem?_eq_getElem (by rw [hK.len]; exact hmod), List.getElem!_eq_getElem?_getD, List.getElem?_eq_getElem (by rw [hK.len]; exact hmod)]
        rfl
      have h4 := hr (j % K.s) _ e2
      rw [Nat.zero_add, Nat.div_add_mod' j K.s] at h4
      rw [Nat.zero_add]
      exact h4
    · unfold World.frozen?
      simp only [hh]
      simp
theorem lies_holds (hK : KdOK K) [Inhabited α] {W : World} {g : Nat} (hg : g < W.heap.size) {d : Array α} (h : HoldsK K.enc K.s W g 0 d) : Lies K W (some ⟨g, 0, none⟩) d.toList := by
  refine ⟨(fun h => by cases h), fun k hk => ⟨g, 0, rfl, hg, fun j u hu => ?_⟩⟩
  have hk' : k < d.size := by simpa using hk
  have hj : j < K.s := by
    have := (List.getElem?_eq_some_iff.1 hu).1
    rwa [hK.len] at this
  have hlt : k * K.s + j < d.size * K.s := by
    have : (k + 1) * K.s ≤ d.size * K.s := Nat.mul_le_mul_right _ (by omega)
    rw [Nat.add_mul, Nat.one_mul] at this
    omega
  have h1 := (h (k * K.s + j) (by simpa using hlt)).1
  rw [get_flatK _ _ _ _ hlt, Nat.mul_comm k K.s, Nat.mul_add_div hK.pos, Nat.div_eq_of_lt hj, Nat.add_zero, Nat.mul_add_mod, Nat.mod_eq_of_lt hj] at h1
  rw [Nat.zero_add, Nat.mul_comm k K.s]
  rw [Nat.zero_add] at h1
  rw [h1]
  have e1 : d[k]! = d.toList[k] := by simp [hk']
  have h2 := List.getElem?_eq_some_iff.1 hu
  obtain ⟨h3, h4⟩ := h2
  rw [e1]
  show some (id _) = some u
  rw [← h4, List.getElem!_eq_getElem?_getD, List.getElem?_eq_getElem h3]
  rfl
theorem below_sortK [Inhabited α] (enc : α → List Value) (k : Nat) (W : World) (g off m B : Nat) (d : Array α) (os : Array Obj) (hB : B ≤ g) (hBW : B ≤ W.heap.size) : Below B W (sortWorldK enc k W g off m d os) := by
  refine ⟨rfl, rfl, rfl, ?_, fun q hq => ?_⟩
  · unfold sortWorldK grow putRowK putRow mapBlock Sort.ahead
    simp
  · unfold sortWorldK grow putRowK putRow mapBlock Sort.ahead
    show (W.heap.modify g _ ++ os)[q]? = W.heap[q]?
    rw [Array.getElem?_append_left (by simp; omega), Array.getElem?_modify, if_neg (by omega)]
end
set_option maxHeartbeats 1000000 in
/-- SortFunc: what lies there, by its names -/
theorem sort_any {W : World} {B g c n : Nat} {L : List Ac} (hn : L.length = n) (hn1 : n < 4611686018427387904) (hB : B ≤ W.heap.size) (h : W.ownsRow B kA.e kA.s (.slice (some ⟨g, 0, none⟩) n c) n (kA.flat L)) :
    Calls Tryz.prog 92 #[.slice (some ⟨g, 0, none⟩) n c, .func (.func 93) #[] #[]] W fun e w' => e = .returned (.tuple #[]) ∧ ∃ A : List Ac, A.Perm L ∧ A.Pairwise (fun a b => ¬ b.nm < a.nm) ∧ Lies kA w' (some ⟨g, 0, none⟩) A ∧ Below B W w' ∧ KeepsG gdT W w' := by
  have eg : ∀ args w, (callFunc 93 args).run Tryz.prog w = .ok (.enter 93 args) w := enters_of Tryz.func93 (by kernel_rfl) rfl
  have hg := row_block h (g := g) rfl
  have hcon := AnyQ.slices_SortFunc Tryz.sortT 4 isAgg41' sizeOf41' kA.enc (fun _ => rfl) kA_ok.one (fun x y => cmpS x.nm y.nm) swoA 93 #[] g 0 c L.toArray W eg (lays26 g 0 _ W) (holds_own kA_ok hn h) hg.2.1 (by simpa [hn] using hn1)
  change Calls Tryz.prog 92 _ _ _ at hcon
  rw [show L.toArray.size = n by simpa using hn] at hcon
  refine hcon.mono ?_
  rintro e w' ⟨rfl, d', m, os, hp, hs, rfl⟩
  have hd : d'.size = n := by rw [hp.1]; simpa using hn
  refine ⟨rfl, d'.toList, ?_, ?_, ?_, ?_, ?_⟩
  · have h3 := hp.2.2
    have e1 : d'.extract 0 n = d' := by rw [← hd]; simp
    have e2 : L.toArray.extract 0 n = L.toArray := by rw [← hn]; simp
    rw [e1, e2] at h3
    simpa using h3
  · rw [List.pairwise_iff_getElem]
    intro i j hi hj hij
    have := hs i j (Nat.zero_le _) hij (by rw [← hd]; simpa using hj)
    rw [ltA] at this
    have hi' : i < d'.size := by simpa using hi
    have hj' : j < d'.size := by simpa using hj
    have h5 := of_decide_eq_false this
    have e1 : d'[i]! = d'.toList[i] := by simp [hi']
    have e2 : d'[j]! = d'.toList[j] := by simp [hj']
    rw [e1, e2] at h5
    exact h5
  · refine lies_holds kA_ok (lt_sortWorldK _ _ _ _ _ _ _ _ hg.2.1) ?_
    exact holdsK_sortWorldK _ _ _ _ _ _ L.toArray d' os hg.2.1 (holds_own kA_ok hn h) (by rw [hd]; simpa using hn.symm)
  · exact below_sortK _ _ _ _ _ _ _ _ _ hg.1 hB
  · have h6 := below_sortK kA.enc 4 W g 0 m g d' os (Nat.le_refl _) (Nat.le_of_lt hg.2.1)
    refine ⟨h6.size, fun k o hk ho => ?_⟩
    by_cases e : k = g
    · subst e
      exfalso
      rcases h.2 with ⟨e, _⟩ | ⟨g', cap, cur, e, _, hh, _⟩
      · cases e
      · cases e
        rw [hh] at hk
        injection hk with hk
        subst hk
        revert ho
        simp [gdT, kA]
    · have hkl := (Array.getElem?_eq_some_iff.1 hk).1
      rw [← hk]
      unfold sortWorldK grow putRowK putRow mapBlock Sort.ahead
      show (W.heap.modify g _ ++ os)[k]? = W.heap[k]?
      rw [Array.getElem?_append_left (by simp; omega), Array.getElem?_modify, if_neg (fun e2 => e e2.symm)]
set_option maxRecDepth 100000 in
set_option maxHeartbeats 4000000 in
theorem ins_nil (p : Option Addr) (cap : Nat) (fv : Value) (w : World) : Calls Tryz.prog 227 #[.slice p 0 cap, .int .i64 0, .int .i64 0, fv] w fun e w' => e = .returned (.tuple #[]) ∧ w' = w := by
  go_enter Tryz.func227, Tryz.ntmps227
  go_wp2_with fail
  go_loopw [8] (fun v8 wr => v8 = .int .i64 1 ∧ Hid (wr = w)) (fun _ _ => 0)
  case atStart => exact ⟨rfl, rfl⟩
  case round =>
    obtain ⟨rfl, hw⟩ := hrel
    have hw := unhide hw
    subst hw
    go_wp2_with fail
    go_end0
    exact ⟨rfl, rfl⟩
set_option maxRecDepth 100000 in
set_option maxHeartbeats 4000000 in
theorem pdq_nil (p : Option Addr) (cap : Nat) (l : Int) (fv : Value) (w : World) : Calls Tryz.prog 167 #[.slice p 0 cap, .int .i64 0, .int .i64 0, .int .i64 l, fv] w fun e w' => e = .returned (.tuple #[]) ∧ w' = w := by
  have dI := hide (ins_nil p cap fv w)
  go_enter Tryz.func167, Tryz.ntmps167
  go_wp2_with fail
  go_loopw [1, 2] (fun v1 v2 wr => v1 = .int .i64 0 ∧ v2 = .int .i64 0 ∧ Hid (wr = w)) (fun _ _ _ => 0)
  case atStart => exact ⟨rfl, rfl, rfl⟩
  case round =>
    obtain ⟨rfl, rfl, hw⟩ := hrel
    have hw := unhide hw
    subst hw
    go_wp2_with fail
    refine (unhide dI).mono ?_
    rintro e w1 ⟨rfl, hw⟩
    rw [hw]
    clear hw w1
    go_wp2_with fail
    refine bodyPost_ret (v := .tuple #[]) (by simp [results, Tryz.results167]) rfl ⟨rfl, rfl⟩
set_option maxHeartbeats 4000000 in
theorem sort_nil (p : Option Addr) (cap : Nat) (fv : Value) (w : World) : Calls Tryz.prog 92 #[.slice p 0 cap, fv] w fun e w' => e = .returned (.tuple #[]) ∧ w' = w := by
  have hl := hide (Any.bits_Len (SlLaysF0.n15.bits (P := Tryz.prog) (ρ := Tryz.sortT_ren) { Tryz.sortT with }) 0 w (by omega) (by omega))
  change Hid (Calls Tryz.prog 168 #[.int .u64 0] w _) at hl
  have dP := hide (fun l => pdq_nil p cap l fv w)
  go_enter Tryz.func92, Tryz.ntmps92
  go_wp2_with fail
  refine (unhide hl).mono ?_
  rintro e w1 ⟨rfl, hw⟩
  rw [hw]
  clear hw w1 hl
  go_wp2_with fail
  refine (unhide dP _).mono ?_
  rintro e w1 ⟨rfl, hw⟩
  rw [hw]
  clear hw w1 dP
  go_wp2_with fail
  go_end0
  exact ⟨rfl, rfl⟩
end Go.Proofs.YtdeibifjiefapaaGreatDoor
